/-
  The walk of OctetSums: which sum bytes have, which frame, and which bytes are one.
-/
import Derived.Test.YtjkbapjdojhdeaaRefd
import Derived.Test.YtjkbapjdojhdeaaOp2
namespace Go.Proofs.Ytjkbapjdojhdeaa
set_option linter.unusedVariables false
open Go.RowKit

theorem crc_nil : crc [] = 0 := by kernel_rfl

set_option maxHeartbeats 400000 in
theorem sum_nil (w : World) : Calls Try.prog 22 #[.slice none 0 0] w fun e w' => e = .returned (.int .u32 0) ∧ Below w.heap.size w w' := by
  go_enter Try.func22, Try.ntmps22
  go_wp2_with fail
  refine (tab_lit w).mono ?_
  rintro e w1 ⟨rfl, hb1⟩
  go_wp2_with fail
  generalize Value.agg _ = tv
  refine wp_loop_rounds 1 ?_
  rw [rounds_succ]
  go_wp2
  go_ret
  exact ⟨ret_int (by kernel_rfl), hb1.alloc hb1.size _⟩

theorem enter23 : ∀ args w, (callFunc 23 args).run Try.prog w = .ok (.enter 23 args) w := run_enter 23 Try.f23 Try.func23 (by kernel_rfl) (by kernel_rfl)
theorem enter24 : ∀ args w, (callFunc 24 args).run Try.prog w = .ok (.enter 24 args) w := run_enter 24 Try.f24 Try.func24 (by kernel_rfl) (by kernel_rfl)
theorem enter25 : ∀ args w, (callFunc 25 args).run Try.prog w = .ok (.enter 25 args) w := run_enter 25 Try.f25 Try.func25 (by kernel_rfl) (by kernel_rfl)

section
variable {ops : Array Oper} {Q : Exit → Act → World → Prop} {A : Tmp → Value → World → Prop} {a0 : Act} {w0 : World} {o : Oper} {d : Tmp}

theorem ok_fr (hw : Wanted ops A o) (hdst : o.dst = some d) (x : Tmp) (ho : o.op = .call { callee := .value (.func 24), args := #[.tmp x], argTypes := #[22] }) (hx1 : (depSlots ops o).contains x = true)
    (ao : Option Addr) (l cap : Nat) (bs : List UInt8) (hX : ∀ v w, A x v w → v = .slice ao l cap) (hR : ∀ w, Ext w0 w → Rd w ao cap bs) (hl : bs.length = l) (hm : l ≤ 140737488350000)
    (hF : ∀ v w, (bytesF (fr bs) (8 + l)).holds v w → A d v w) : StepOk Try.prog ops Q A a0 w0 o :=
  ok_call hw hdst 24 _ _ enter24 ho fun a w hx hf hd => by
    have e1 := hX _ _ (hd x hx1)
    simp only [List.map_toArray, List.map_cons, List.map_nil, Act.eval, e1]
    refine (frame_rd ao l cap bs w hl (hR w hx) hm).mono fun e w' h => ?_
    obtain ⟨a2, c2, h1, h2, h3, h4⟩ := h
    exact ⟨_, h1, hF _ _ ⟨a2, c2, rfl, h2, h3⟩, h4⟩

theorem ok_rfr (hw : Wanted ops A o) (hdst : o.dst = some d) (x : Tmp) (ho : o.op = .call { callee := .value (.func 25), args := #[.tmp x], argTypes := #[22] }) (hx1 : (depSlots ops o).contains x = true)
    (ao : Option Addr) (l cap : Nat) (bs : List UInt8) (hX : ∀ v w, A x v w → v = .slice ao l cap) (hR : ∀ w, Ext w0 w → Rd w ao cap bs) (hl : bs.length = l) (hm : l ≤ 140737488350000)
    (hF : ∀ v w, (bytesF (fr bs) (8 + l)).holds v w → A d v w) : StepOk Try.prog ops Q A a0 w0 o :=
  ok_call hw hdst 25 _ _ enter25 ho fun a w hx hf hd => by
    have e1 := hX _ _ (hd x hx1)
    simp only [List.map_toArray, List.map_cons, List.map_nil, Act.eval, e1]
    refine (rframe_rd ao l cap bs w hl (hR w hx) hm).mono fun e w' h => ?_
    obtain ⟨a2, c2, h1, h2, h3, h4⟩ := h
    exact ⟨_, h1, hF _ _ ⟨a2, c2, rfl, h2, h3⟩, h4⟩

theorem ok_rsum (hw : Wanted ops A o) (hdst : o.dst = some d) (x : Tmp) (ho : o.op = .call { callee := .value (.func 23), args := #[.tmp x], argTypes := #[49] }) (hx1 : (depSlots ops o).contains x = true) (bs : List UInt8) (n : Nat) (hn : n ≤ 1000)
    (hX : ∀ v w, A x v w → (partsF bs n).holds v w) (hF : ∀ w, A d (.int .u32 (crc bs : Nat)) w) : StepOk Try.prog ops Q A a0 w0 o :=
  ok_call hw hdst 23 _ _ enter23 ho fun a w hx hf hd => by
    obtain ⟨b, ps, e, hl, hL, hc⟩ := hX _ _ (hd x hx1)
    simp only [List.map_toArray, List.map_cons, List.map_nil, Act.eval, e]
    refine (rsum_some b 0 n n ps w hl (Nat.le_refl _) (by omega) hL).mono fun e w' h => ⟨_, h.1, ?_, by rw [h.2]; exact Ext.refl _⟩
    rw [hc]
    exact hF w'

theorem ok_sum0 (hw : Wanted ops A o) (hdst : o.dst = some d) (ho : o.op = .call { callee := .value (.func 22), args := #[.const (.slice none 0 0)], argTypes := #[49] })
    (hF : ∀ w, A d (.int .u32 0) w) : StepOk Try.prog ops Q A a0 w0 o :=
  ok_call hw hdst 22 _ _ enter22 ho fun a w hx hf hd => by
    simp only [List.map_toArray, List.map_cons, List.map_nil, Act.eval]
    exact (sum_nil w).mono fun e w' h => ⟨_, h.1, hF w', h.2⟩

theorem ok_eql_const (hw : Wanted ops A o) (hdst : o.dst = some d) (x : Tmp) (ty ty' : TypeId) (k : IntKind) (m n : Int) (ho : o.op = .binOp .eql ty (.tmp x) (.const (.int k n)) ty') (hx1 : (depSlots ops o).contains x = true)
    (hX : ∀ v w, A x v w → v = .int k m) (hF : ∀ w, A d (.bool (m == n)) w) : StepOk Try.prog ops Q A a0 w0 o :=
  ok_val hw hdst fun a w hx hf hd => ⟨.bool (m == n), w, by
    have e1 := hX _ _ (hd x hx1)
    simp only [execOp, ho, Act.eval, e1]
    simp [eqGuard, binOp, Op.intCmp], hF w, Ext.refl _⟩
end

set_option maxHeartbeats 1000000 in
theorem sums_walk (a0 : Option Addr) (l0 cap0 : Nat) (xs : List UInt8) (a1 : Option Addr) (l1 cap1 : Nat) (bs : List UInt8) (a2 : Option Addr) (l2 cap2 : Nat) (cs : List UInt8) (w : World) (h0 : xs.length = l0) (R0 : Rd w a0 cap0 xs) (h1 : bs.length = l1) (R1 : Rd w a1 cap1 bs) (h2 : cs.length = l2) (R2 : Rd w a2 cap2 cs) (hl0 : l0 ≤ 100) (hl1 : l1 ≤ 100) (hl2 : l2 ≤ 100) :
    Calls Try.prog 5 #[.slice a0 l0 cap0, .slice a1 l1 cap1, .slice a2 l2 cap2] w fun e w' => e = .returned (.bool true) ∧ Below w.heap.size w w' := by
  subst h0 h1 h2
  have d0 : decide ((100 : Int) < (xs.length : Int)) = false := by simp; omega
  have d1 : decide ((100 : Int) < (bs.length : Int)) = false := by simp; omega
  have d2 : decide ((100 : Int) < (cs.length : Int)) = false := by simp; omega
  go_enter Try.func5, Try.ntmps5
  go_wp2_with fail
  refine (begun_any w).mono ?_
  rintro e w1 ⟨rfl, hb1⟩
  have R21 := R2.below hb1
  go_wp2_with fail
  refine (unframe_rd a2 _ cap2 cs w1 rfl R21 (by omega)).mono ?_
  rintro e w2 ⟨a3, c3, rfl, R3, hb2⟩
  have hb12 := hb1.trans (hb2.mono hb1.size)
  have R22 := R2.below hb12
  clear R21 hb1 hb2
  go_wp2_with fail
  refine (runframe_rd a2 _ cap2 cs w2 rfl R22 (by omega)).mono ?_
  rintro e w3 ⟨a4, c4, rfl, R4, hb3⟩
  have hb13 := hb12.trans (hb3.mono hb12.size)
  have Ra := R0.below hb13
  have Rb := R1.below hb13
  have R33 := R3.below hb3
  clear R22 R3 hb3 hb12
  generalize unf cs = t at *
  go_wp2_with fail
  have Sa : ∀ v wx, v = Value.slice a0 xs.length cap0 → Ext w3 wx → ∃ ao cap, v = .slice ao xs.length cap ∧ Rd wx ao cap xs ∧ xs.length = xs.length := fun v wx e hx => ⟨_, _, e, Ra.below hx, rfl⟩
  have Sb : ∀ v wx, v = Value.slice a1 bs.length cap1 → Ext w3 wx → ∃ ao cap, v = .slice ao bs.length cap ∧ Rd wx ao cap bs ∧ bs.length = bs.length := fun v wx e hx => ⟨_, _, e, Rb.below hx, rfl⟩
  have S3 : ∀ v wx, v = Value.slice a3 t.bytes.length c3 → Ext w3 wx → ∃ ao cap, v = .slice ao t.bytes.length cap ∧ Rd wx ao cap t.bytes ∧ t.bytes.length = t.bytes.length := fun v wx e hx => ⟨_, _, e, R33.below hx, rfl⟩
  have S4 : ∀ v wx, v = Value.slice a4 t.bytes.length c4 → Ext w3 wx → ∃ ao cap, v = .slice ao t.bytes.length cap ∧ Rd wx ao cap t.bytes ∧ t.bytes.length = t.bytes.length := fun v wx e hx => ⟨_, _, e, R4.below hx, rfl⟩
  refine wp_region_open (A := knows [(6, isF (.bool true)), (40, isF (.slice a0 xs.length cap0)), (41, isF (.slice a1 bs.length cap1)), (43, isF (.int .u32 (crc (xs ++ bs) : Nat))), (44, isF (.slice a0 xs.length cap0)), (45, isF (.slice a1 bs.length cap1)), (47, isF (.int .u32 (crc (xs ++ bs) : Nat))), (48, isF (.bool true)), (49, isF (.bool true)), (50, isF (.int .u32 0)), (51, isF (.bool true)), (52, isF (.bool true)), (53, isF (.bool true)), (54, isF (.slice a0 xs.length cap0)), (56, isF (.string ⟨(fr xs).toArray⟩)), (57, isF (.slice a0 xs.length cap0)), (59, isF (.string ⟨(fr xs).toArray⟩)), (60, isF (.bool true)), (61, isF (.bool true)), (62, isF (.bool true)), (63, isF (.slice a3 t.bytes.length c3)), (64, isF (.string ⟨t.bytes.toArray⟩)), (65, isF (.slice a4 t.bytes.length c4)), (66, isF (.string ⟨t.bytes.toArray⟩)), (67, isF (.bool true)), (68, isF (.bool true)), (69, isF (.bool true)), (70, isF (.int .i64 (t.read : Int))), (71, isF (.int .i64 (t.read : Int))), (72, isF (.bool true)), (73, isF (.bool true)), (74, isF (.bool true)), (75, isF (.int .i64 (t.err : Int))), (76, isF (.int .i64 (t.err : Int))), (77, isF (.bool true)), (78, isF (.bool true)), (42, partsF (xs ++ bs) 2), (46, partsF (xs ++ bs) 2), (55, bytesF (fr xs) (8 + xs.length)), (58, bytesF (fr xs) (8 + xs.length))]) (by kernel_rfl) (by kernel_rfl) (knows_mono _) (steps_of ?_) ?_
  refine allOps_cons (ok_fixed (.inl rfl) rfl 0 (.slice a0 xs.length cap0) (.inl rfl) (by kernel_rfl) rfl (fun _ _ => rfl)) ?_
  refine allOps_cons (ok_fixed (.inl rfl) rfl 1 (.slice a1 bs.length cap1) (.inl rfl) (by kernel_rfl) rfl (fun _ _ => rfl)) ?_
  refine allOps_cons (ok_build2 (.inl rfl) rfl _ _ rfl _ _ (src_slot 40 _ _ (by kernel_rfl) Sa) (src_slot 41 _ _ (by kernel_rfl) Sb) (fun _ _ h => h)) ?_
  refine allOps_cons (ok_sum (.inl rfl) rfl 42 rfl (by kernel_rfl) _ 2 (by omega) (fun _ _ h => h) (fun _ => rfl)) ?_
  refine allOps_cons (ok_fixed (.inl rfl) rfl 0 (.slice a0 xs.length cap0) (.inl rfl) (by kernel_rfl) rfl (fun _ _ => rfl)) ?_
  refine allOps_cons (ok_fixed (.inl rfl) rfl 1 (.slice a1 bs.length cap1) (.inl rfl) (by kernel_rfl) rfl (fun _ _ => rfl)) ?_
  refine allOps_cons (ok_build2 (.inl rfl) rfl _ _ rfl _ _ (src_slot 44 _ _ (by kernel_rfl) Sa) (src_slot 45 _ _ (by kernel_rfl) Sb) (fun _ _ h => h)) ?_
  refine allOps_cons (ok_rsum (.inl rfl) rfl 46 rfl (by kernel_rfl) _ 2 (by omega) (fun _ _ h => h) (fun _ => rfl)) ?_
  refine allOps_cons (ok_eql_int (.inl rfl) rfl 43 47 _ _ rfl (by kernel_rfl) (by kernel_rfl) .u32 _ _ (fun _ _ h => h) (fun _ _ h => h) (fun _ => congrArg Value.bool (beq_self_eq_true _))) ?_
  refine allOps_cons (ok_move (.inl rfl) rfl 48 (.inl rfl) (by kernel_rfl) (fun _ _ h => h)) ?_
  refine allOps_cons (ok_sum0 (.inr ⟨9, true, 49, rfl, by kernel_rfl, by kernel_rfl, fun _ _ h => h⟩) rfl rfl (fun _ => rfl)) ?_
  refine allOps_cons (ok_eql_const (.inr ⟨9, true, 49, rfl, by kernel_rfl, by kernel_rfl, fun _ _ h => h⟩) rfl 50 _ _ .u32 0 0 rfl (by kernel_rfl) (fun _ _ h => h) (fun _ => congrArg Value.bool (beq_self_eq_true _))) ?_
  refine allOps_cons (ok_pick (.inl rfl) rfl 49 51 _ rfl (by kernel_rfl) (by kernel_rfl) (fun _ _ h => h) (fun _ _ h => h)) ?_
  refine allOps_cons (ok_move (.inl rfl) rfl 52 (.inl rfl) (by kernel_rfl) (fun _ _ h => h)) ?_
  refine allOps_cons (ok_fixed (.inr ⟨13, true, 53, rfl, by kernel_rfl, by kernel_rfl, fun _ _ h => h⟩) rfl 0 (.slice a0 xs.length cap0) (.inl rfl) (by kernel_rfl) rfl (fun _ _ => rfl)) ?_
  refine allOps_cons (ok_fr (.inr ⟨13, true, 53, rfl, by kernel_rfl, by kernel_rfl, fun _ _ h => h⟩) rfl 54 rfl (by kernel_rfl) a0 xs.length cap0 xs (fun _ _ h => h) (fun wx hx => Ra.below hx) rfl (by omega) (fun _ _ h => h)) ?_
  refine allOps_cons (ok_conv (.inr ⟨13, true, 53, rfl, by kernel_rfl, by kernel_rfl, fun _ _ h => h⟩) rfl 55 rfl (by kernel_rfl) _ _ (fun _ _ h _ => h) (fun _ => rfl)) ?_
  refine allOps_cons (ok_fixed (.inr ⟨13, true, 53, rfl, by kernel_rfl, by kernel_rfl, fun _ _ h => h⟩) rfl 0 (.slice a0 xs.length cap0) (.inl rfl) (by kernel_rfl) rfl (fun _ _ => rfl)) ?_
  refine allOps_cons (ok_rfr (.inr ⟨13, true, 53, rfl, by kernel_rfl, by kernel_rfl, fun _ _ h => h⟩) rfl 57 rfl (by kernel_rfl) a0 xs.length cap0 xs (fun _ _ h => h) (fun wx hx => Ra.below hx) rfl (by omega) (fun _ _ h => h)) ?_
  refine allOps_cons (ok_conv (.inr ⟨13, true, 53, rfl, by kernel_rfl, by kernel_rfl, fun _ _ h => h⟩) rfl 58 rfl (by kernel_rfl) _ _ (fun _ _ h _ => h) (fun _ => rfl)) ?_
  refine allOps_cons (ok_eql_str (.inr ⟨13, true, 53, rfl, by kernel_rfl, by kernel_rfl, fun _ _ h => h⟩) rfl 56 59 _ _ rfl (by kernel_rfl) (by kernel_rfl) _ _ (fun _ _ h => h) (fun _ _ h => h) (fun _ => congrArg Value.bool (beq_self_eq_true _))) ?_
  refine allOps_cons (ok_pick (.inl rfl) rfl 53 60 _ rfl (by kernel_rfl) (by kernel_rfl) (fun _ _ h => h) (fun _ _ h => h)) ?_
  refine allOps_cons (ok_move (.inl rfl) rfl 61 (.inl rfl) (by kernel_rfl) (fun _ _ h => h)) ?_
  refine allOps_cons (ok_fixed (.inr ⟨22, true, 62, rfl, by kernel_rfl, by kernel_rfl, fun _ _ h => h⟩) rfl 7 (.slice a3 t.bytes.length c3) (.inl rfl) (by kernel_rfl) rfl (fun _ _ => rfl)) ?_
  refine allOps_cons (ok_conv (.inr ⟨22, true, 62, rfl, by kernel_rfl, by kernel_rfl, fun _ _ h => h⟩) rfl 63 rfl (by kernel_rfl) _ _ S3 (fun _ => rfl)) ?_
  refine allOps_cons (ok_fixed (.inr ⟨22, true, 62, rfl, by kernel_rfl, by kernel_rfl, fun _ _ h => h⟩) rfl 10 (.slice a4 t.bytes.length c4) (.inl rfl) (by kernel_rfl) rfl (fun _ _ => rfl)) ?_
  refine allOps_cons (ok_conv (.inr ⟨22, true, 62, rfl, by kernel_rfl, by kernel_rfl, fun _ _ h => h⟩) rfl 65 rfl (by kernel_rfl) _ _ S4 (fun _ => rfl)) ?_
  refine allOps_cons (ok_eql_str (.inr ⟨22, true, 62, rfl, by kernel_rfl, by kernel_rfl, fun _ _ h => h⟩) rfl 64 66 _ _ rfl (by kernel_rfl) (by kernel_rfl) _ _ (fun _ _ h => h) (fun _ _ h => h) (fun _ => congrArg Value.bool (beq_self_eq_true _))) ?_
  refine allOps_cons (ok_pick (.inl rfl) rfl 62 67 _ rfl (by kernel_rfl) (by kernel_rfl) (fun _ _ h => h) (fun _ _ h => h)) ?_
  refine allOps_cons (ok_move (.inl rfl) rfl 68 (.inl rfl) (by kernel_rfl) (fun _ _ h => h)) ?_
  refine allOps_cons (ok_fixed (.inr ⟨29, true, 69, rfl, by kernel_rfl, by kernel_rfl, fun _ _ h => h⟩) rfl 8 (.int .i64 (t.read : Int)) (.inl rfl) (by kernel_rfl) rfl (fun _ _ => rfl)) ?_
  refine allOps_cons (ok_fixed (.inr ⟨29, true, 69, rfl, by kernel_rfl, by kernel_rfl, fun _ _ h => h⟩) rfl 11 (.int .i64 (t.read : Int)) (.inl rfl) (by kernel_rfl) rfl (fun _ _ => rfl)) ?_
  refine allOps_cons (ok_eql_int (.inr ⟨29, true, 69, rfl, by kernel_rfl, by kernel_rfl, fun _ _ h => h⟩) rfl 70 71 _ _ rfl (by kernel_rfl) (by kernel_rfl) .i64 _ _ (fun _ _ h => h) (fun _ _ h => h) (fun _ => congrArg Value.bool (beq_self_eq_true _))) ?_
  refine allOps_cons (ok_pick (.inl rfl) rfl 69 72 _ rfl (by kernel_rfl) (by kernel_rfl) (fun _ _ h => h) (fun _ _ h => h)) ?_
  refine allOps_cons (ok_move (.inl rfl) rfl 73 (.inl rfl) (by kernel_rfl) (fun _ _ h => h)) ?_
  refine allOps_cons (ok_fixed (.inr ⟨34, true, 74, rfl, by kernel_rfl, by kernel_rfl, fun _ _ h => h⟩) rfl 9 (.int .i64 (t.err : Int)) (.inl rfl) (by kernel_rfl) rfl (fun _ _ => rfl)) ?_
  refine allOps_cons (ok_fixed (.inr ⟨34, true, 74, rfl, by kernel_rfl, by kernel_rfl, fun _ _ h => h⟩) rfl 12 (.int .i64 (t.err : Int)) (.inl rfl) (by kernel_rfl) rfl (fun _ _ => rfl)) ?_
  refine allOps_cons (ok_eql_int (.inr ⟨34, true, 74, rfl, by kernel_rfl, by kernel_rfl, fun _ _ h => h⟩) rfl 75 76 _ _ rfl (by kernel_rfl) (by kernel_rfl) .i64 _ _ (fun _ _ h => h) (fun _ _ h => h) (fun _ => congrArg Value.bool (beq_self_eq_true _))) ?_
  refine allOps_cons (ok_pick (.inl rfl) rfl 74 77 _ rfl (by kernel_rfl) (by kernel_rfl) (fun _ _ h => h) (fun _ _ h => h)) ?_
  refine allOps_cons (ok_move (.inl rfl) rfl 78 (.inr rfl) (by kernel_rfl) (fun _ _ h => h)) ?_
  exact allOps_nil
  · intro a wz hx hsz hdef hfix hkn
    refine ‹∀ (a : Act) (w : World), Code.wp Try.prog Code.ret _ a w → _› a wz ?_
    have h6 : a.tmps.getD 6 undef = .bool true := hkn 6 (by kernel_rfl)
    go_wp2
    exact bodyPost_ret (v := .bool true) (by rw [results_tmp rfl, h6]) hdef ⟨rfl, hb13.trans (hx.mono hb13.size)⟩

theorem sums_big (a0 : Option Addr) (l0 cap0 : Nat) (a1 : Option Addr) (l1 cap1 : Nat) (a2 : Option Addr) (l2 cap2 : Nat) (w : World) (h : 100 < l0 ∨ 100 < l1 ∨ 100 < l2) (h0 : l0 ≤ 9223372036854775807) (h1 : l1 ≤ 9223372036854775807) (h2 : l2 ≤ 9223372036854775807) :
    Calls Try.prog 5 #[.slice a0 l0 cap0, .slice a1 l1 cap1, .slice a2 l2 cap2] w fun e w' => e = .returned (.bool true) ∧ Below w.heap.size w w' := by
  by_cases hb : 100 < l0
  · clear h
    go_enter Try.func5, Try.ntmps5
    go_wp2_with fail
    refine (begun_any w).mono ?_
    rintro e w1 ⟨rfl, hb1⟩
    go_wp2
    go_ret
    exact ⟨rfl, hb1⟩
  · by_cases hc : 100 < l1
    · clear h
      go_enter Try.func5, Try.ntmps5
      go_wp2_with fail
      refine (begun_any w).mono ?_
      rintro e w1 ⟨rfl, hb1⟩
      go_wp2
      go_ret
      exact ⟨rfl, hb1⟩
    · have hd : 100 < l2 := by omega
      clear h
      go_enter Try.func5, Try.ntmps5
      go_wp2_with fail
      refine (begun_any w).mono ?_
      rintro e w1 ⟨rfl, hb1⟩
      go_wp2
      go_ret
      exact ⟨rfl, hb1⟩
end Go.Proofs.Ytjkbapjdojhdeaa
