/-
  The walk of OctetBytes: how bytes stand in bytes, and are read.
-/
import Derived.Test.YtjkbapjdojhdeaaRefb
import Derived.Test.YtjkbapjdojhdeaaOp2
namespace Go.Proofs.Ytjkbapjdojhdeaa
set_option linter.unusedVariables false
open Go.RowKit

theorem enter18 : ∀ args w, (callFunc 18 args).run Try.prog w = .ok (.enter 18 args) w := run_enter 18 Try.f18 Try.func18 (by kernel_rfl) (by kernel_rfl)
theorem enter19 : ∀ args w, (callFunc 19 args).run Try.prog w = .ok (.enter 19 args) w := run_enter 19 Try.f19 Try.func19 (by kernel_rfl) (by kernel_rfl)

section
variable {ops : Array Oper} {Q : Exit → Act → World → Prop} {A : Tmp → Value → World → Prop} {a0 : Act} {w0 : World} {o : Oper} {d : Tmp}

theorem ok_pb (hw : Wanted ops A o) (hdst : o.dst = some d) (x y : Tmp) (ho : o.op = .call { callee := .value (.func 18), args := #[.tmp x, .tmp y], argTypes := #[22, 22] }) (hx1 : (depSlots ops o).contains x = true) (hy1 : (depSlots ops o).contains y = true)
    (ao so : Option Addr) (l cap m scap : Nat) (bs ss : List UInt8) (hX : ∀ v w, A x v w → v = .slice ao l cap) (hY : ∀ v w, A y v w → v = .slice so m scap) (hR : ∀ w, Ext w0 w → Rd w ao cap bs) (hS : ∀ w, Ext w0 w → Rd w so scap ss) (hl : bs.length = l) (hsl : ss.length = m) (hm : l + m ≤ 140737488350000)
    (hF : ∀ v w, (bytesF (bs ++ be 4 m ++ ss) (l + 4 + m)).holds v w → A d v w) : StepOk Try.prog ops Q A a0 w0 o :=
  ok_call hw hdst 18 _ _ enter18 ho fun a w hx hf hd => by
    have e1 := hX _ _ (hd x hx1)
    have e2 := hY _ _ (hd y hy1)
    simp only [List.map_toArray, List.map_cons, List.map_nil, Act.eval, e1, e2]
    refine (putBytes_rd ao so l cap m scap bs ss w hl (hR w hx) hsl (hS w hx) hm).mono fun e w' h => ?_
    obtain ⟨a2, c2, h1, h2, h3, h4⟩ := h
    exact ⟨_, h1, hF _ _ ⟨a2, c2, rfl, h2, h3⟩, h4⟩

theorem ok_rpb (hw : Wanted ops A o) (hdst : o.dst = some d) (x y : Tmp) (ho : o.op = .call { callee := .value (.func 19), args := #[.tmp x, .tmp y], argTypes := #[22, 22] }) (hx1 : (depSlots ops o).contains x = true) (hy1 : (depSlots ops o).contains y = true)
    (ao so : Option Addr) (l cap m scap : Nat) (bs ss : List UInt8) (hX : ∀ v w, A x v w → v = .slice ao l cap) (hY : ∀ v w, A y v w → v = .slice so m scap) (hR : ∀ w, Ext w0 w → Rd w ao cap bs) (hS : ∀ w, Ext w0 w → Rd w so scap ss) (hl : bs.length = l) (hsl : ss.length = m) (hm : l + m ≤ 140737488350000)
    (hF : ∀ v w, (bytesF (bs ++ be 4 m ++ ss) (l + 4 + m)).holds v w → A d v w) : StepOk Try.prog ops Q A a0 w0 o :=
  ok_call hw hdst 19 _ _ enter19 ho fun a w hx hf hd => by
    have e1 := hX _ _ (hd x hx1)
    have e2 := hY _ _ (hd y hy1)
    simp only [List.map_toArray, List.map_cons, List.map_nil, Act.eval, e1, e2]
    refine (rputBytes_rd ao so l cap m scap bs ss w hl (hR w hx) hsl (hS w hx) hm).mono fun e w' h => ?_
    obtain ⟨a2, c2, h1, h2, h3, h4⟩ := h
    exact ⟨_, h1, hF _ _ ⟨a2, c2, rfl, h2, h3⟩, h4⟩

end

set_option maxHeartbeats 1000000 in
theorem bytes_walk (a0 : Option Addr) (l0 cap0 : Nat) (bs : List UInt8) (a1 : Option Addr) (l1 cap1 : Nat) (ss : List UInt8) (w : World) (h0 : bs.length = l0) (Rb : Rd w a0 cap0 bs) (h1 : ss.length = l1) (Rs : Rd w a1 cap1 ss) (hl0 : l0 ≤ 100) (hl1 : l1 ≤ 100) :
    Calls Try.prog 4 #[.slice a0 l0 cap0, .slice a1 l1 cap1] w fun e w' => e = .returned (.bool true) ∧ Below w.heap.size w w' := by
  subst h0 h1
  go_enter Try.func4, Try.ntmps4
  go_wp2_with fail
  refine (begun_any w).mono ?_
  rintro e w1 ⟨rfl, hb1⟩
  have R01 := Rb.below hb1
  go_wp2_with fail
  refine (takeBytes_rd a0 _ cap0 bs w1 rfl R01 (by omega)).mono ?_
  rintro e w2 ⟨a2, c2, rfl, R2, hb2⟩
  have hb12 := hb1.trans (hb2.mono hb1.size)
  have R02 := Rb.below hb12
  clear R01 hb1 hb2
  go_wp2_with fail
  refine (rtakeBytes_rd a0 _ cap0 bs w2 rfl R02 (by omega)).mono ?_
  rintro e w3 ⟨a3, c3, rfl, R3, hb3⟩
  have hb13 := hb12.trans (hb3.mono hb12.size)
  have R0 := Rb.below hb13
  have R1 := Rs.below hb13
  have R23 := R2.below hb3
  clear R02 R2 hb3 hb12
  generalize tkb bs = t at *
  go_wp2_with fail
  have S2 : ∀ v wx, v = Value.slice a2 t.bytes.length c2 → Ext w3 wx → ∃ ao cap, v = .slice ao t.bytes.length cap ∧ Rd wx ao cap t.bytes ∧ t.bytes.length = t.bytes.length := fun v wx e hx => ⟨_, _, e, R23.below hx, rfl⟩
  have S3 : ∀ v wx, v = Value.slice a3 t.bytes.length c3 → Ext w3 wx → ∃ ao cap, v = .slice ao t.bytes.length cap ∧ Rd wx ao cap t.bytes ∧ t.bytes.length = t.bytes.length := fun v wx e hx => ⟨_, _, e, R3.below hx, rfl⟩
  refine wp_region_open (A := knows [(4, isF (.bool true)), (33, isF (.slice a0 bs.length cap0)), (34, isF (.slice a1 ss.length cap1)), (36, isF (.string ⟨(bs ++ be 4 ss.length ++ ss).toArray⟩)), (37, isF (.slice a0 bs.length cap0)), (38, isF (.slice a1 ss.length cap1)), (40, isF (.string ⟨(bs ++ be 4 ss.length ++ ss).toArray⟩)), (41, isF (.bool true)), (42, isF (.bool true)), (43, isF (.slice a2 t.bytes.length c2)), (44, isF (.string ⟨t.bytes.toArray⟩)), (45, isF (.slice a3 t.bytes.length c3)), (46, isF (.string ⟨t.bytes.toArray⟩)), (47, isF (.bool true)), (48, isF (.bool true)), (49, isF (.bool true)), (50, isF (.int .i64 (t.read : Int))), (51, isF (.int .i64 (t.read : Int))), (52, isF (.bool true)), (53, isF (.bool true)), (54, isF (.bool true)), (55, isF (.int .i64 (t.err : Int))), (56, isF (.int .i64 (t.err : Int))), (57, isF (.bool true)), (58, isF (.bool true)), (35, bytesF (bs ++ be 4 ss.length ++ ss) (bs.length + 4 + ss.length)), (39, bytesF (bs ++ be 4 ss.length ++ ss) (bs.length + 4 + ss.length))]) (by kernel_rfl) (by kernel_rfl) (knows_mono _) (steps_of ?_) ?_
  refine allOps_cons (ok_fixed (.inl rfl) rfl 0 (.slice a0 bs.length cap0) (.inl rfl) (by kernel_rfl) rfl (fun _ _ => rfl)) ?_
  refine allOps_cons (ok_fixed (.inl rfl) rfl 1 (.slice a1 ss.length cap1) (.inl rfl) (by kernel_rfl) rfl (fun _ _ => rfl)) ?_
  refine allOps_cons (ok_pb (.inl rfl) rfl 33 34 rfl (by kernel_rfl) (by kernel_rfl) a0 a1 bs.length cap0 ss.length cap1 bs ss (fun _ _ h => h) (fun _ _ h => h) (fun wx hx => R0.below hx) (fun wx hx => R1.below hx) rfl rfl (by omega) (fun _ _ h => h)) ?_
  refine allOps_cons (ok_conv (.inl rfl) rfl 35 rfl (by kernel_rfl) _ _ (fun _ _ h _ => h) (fun _ => rfl)) ?_
  refine allOps_cons (ok_fixed (.inl rfl) rfl 0 (.slice a0 bs.length cap0) (.inl rfl) (by kernel_rfl) rfl (fun _ _ => rfl)) ?_
  refine allOps_cons (ok_fixed (.inl rfl) rfl 1 (.slice a1 ss.length cap1) (.inl rfl) (by kernel_rfl) rfl (fun _ _ => rfl)) ?_
  refine allOps_cons (ok_rpb (.inl rfl) rfl 37 38 rfl (by kernel_rfl) (by kernel_rfl) a0 a1 bs.length cap0 ss.length cap1 bs ss (fun _ _ h => h) (fun _ _ h => h) (fun wx hx => R0.below hx) (fun wx hx => R1.below hx) rfl rfl (by omega) (fun _ _ h => h)) ?_
  refine allOps_cons (ok_conv (.inl rfl) rfl 39 rfl (by kernel_rfl) _ _ (fun _ _ h _ => h) (fun _ => rfl)) ?_
  refine allOps_cons (ok_eql_str (.inl rfl) rfl 36 40 _ _ rfl (by kernel_rfl) (by kernel_rfl) _ _ (fun _ _ h => h) (fun _ _ h => h) (fun _ => congrArg Value.bool (beq_self_eq_true _))) ?_
  refine allOps_cons (ok_move (.inl rfl) rfl 41 (.inl rfl) (by kernel_rfl) (fun _ _ h => h)) ?_
  refine allOps_cons (ok_fixed (.inr ⟨9, true, 42, rfl, by kernel_rfl, by kernel_rfl, fun _ _ h => h⟩) rfl 5 (.slice a2 t.bytes.length c2) (.inl rfl) (by kernel_rfl) rfl (fun _ _ => rfl)) ?_
  refine allOps_cons (ok_conv (.inr ⟨9, true, 42, rfl, by kernel_rfl, by kernel_rfl, fun _ _ h => h⟩) rfl 43 rfl (by kernel_rfl) _ _ S2 (fun _ => rfl)) ?_
  refine allOps_cons (ok_fixed (.inr ⟨9, true, 42, rfl, by kernel_rfl, by kernel_rfl, fun _ _ h => h⟩) rfl 8 (.slice a3 t.bytes.length c3) (.inl rfl) (by kernel_rfl) rfl (fun _ _ => rfl)) ?_
  refine allOps_cons (ok_conv (.inr ⟨9, true, 42, rfl, by kernel_rfl, by kernel_rfl, fun _ _ h => h⟩) rfl 45 rfl (by kernel_rfl) _ _ S3 (fun _ => rfl)) ?_
  refine allOps_cons (ok_eql_str (.inr ⟨9, true, 42, rfl, by kernel_rfl, by kernel_rfl, fun _ _ h => h⟩) rfl 44 46 _ _ rfl (by kernel_rfl) (by kernel_rfl) _ _ (fun _ _ h => h) (fun _ _ h => h) (fun _ => congrArg Value.bool (beq_self_eq_true _))) ?_
  refine allOps_cons (ok_pick (.inl rfl) rfl 42 47 _ rfl (by kernel_rfl) (by kernel_rfl) (fun _ _ h => h) (fun _ _ h => h)) ?_
  refine allOps_cons (ok_move (.inl rfl) rfl 48 (.inl rfl) (by kernel_rfl) (fun _ _ h => h)) ?_
  refine allOps_cons (ok_fixed (.inr ⟨16, true, 49, rfl, by kernel_rfl, by kernel_rfl, fun _ _ h => h⟩) rfl 6 (.int .i64 (t.read : Int)) (.inl rfl) (by kernel_rfl) rfl (fun _ _ => rfl)) ?_
  refine allOps_cons (ok_fixed (.inr ⟨16, true, 49, rfl, by kernel_rfl, by kernel_rfl, fun _ _ h => h⟩) rfl 9 (.int .i64 (t.read : Int)) (.inl rfl) (by kernel_rfl) rfl (fun _ _ => rfl)) ?_
  refine allOps_cons (ok_eql_int (.inr ⟨16, true, 49, rfl, by kernel_rfl, by kernel_rfl, fun _ _ h => h⟩) rfl 50 51 _ _ rfl (by kernel_rfl) (by kernel_rfl) .i64 _ _ (fun _ _ h => h) (fun _ _ h => h) (fun _ => congrArg Value.bool (beq_self_eq_true _))) ?_
  refine allOps_cons (ok_pick (.inl rfl) rfl 49 52 _ rfl (by kernel_rfl) (by kernel_rfl) (fun _ _ h => h) (fun _ _ h => h)) ?_
  refine allOps_cons (ok_move (.inl rfl) rfl 53 (.inl rfl) (by kernel_rfl) (fun _ _ h => h)) ?_
  refine allOps_cons (ok_fixed (.inr ⟨21, true, 54, rfl, by kernel_rfl, by kernel_rfl, fun _ _ h => h⟩) rfl 7 (.int .i64 (t.err : Int)) (.inl rfl) (by kernel_rfl) rfl (fun _ _ => rfl)) ?_
  refine allOps_cons (ok_fixed (.inr ⟨21, true, 54, rfl, by kernel_rfl, by kernel_rfl, fun _ _ h => h⟩) rfl 10 (.int .i64 (t.err : Int)) (.inl rfl) (by kernel_rfl) rfl (fun _ _ => rfl)) ?_
  refine allOps_cons (ok_eql_int (.inr ⟨21, true, 54, rfl, by kernel_rfl, by kernel_rfl, fun _ _ h => h⟩) rfl 55 56 _ _ rfl (by kernel_rfl) (by kernel_rfl) .i64 _ _ (fun _ _ h => h) (fun _ _ h => h) (fun _ => congrArg Value.bool (beq_self_eq_true _))) ?_
  refine allOps_cons (ok_pick (.inl rfl) rfl 54 57 _ rfl (by kernel_rfl) (by kernel_rfl) (fun _ _ h => h) (fun _ _ h => h)) ?_
  refine allOps_cons (ok_move (.inl rfl) rfl 58 (.inr rfl) (by kernel_rfl) (fun _ _ h => h)) ?_
  exact allOps_nil
  · intro a wz hx hsz hdef hfix hkn
    refine ‹∀ (a : Act) (w : World), Code.wp Try.prog Code.ret _ a w → _› a wz ?_
    have h6 : a.tmps.getD 4 undef = .bool true := hkn 4 (by kernel_rfl)
    go_wp2
    exact bodyPost_ret (v := .bool true) (by rw [results_tmp rfl, h6]) hdef ⟨rfl, hb13.trans (hx.mono hb13.size)⟩

theorem bytes_big (a0 : Option Addr) (l0 cap0 : Nat) (a1 : Option Addr) (l1 cap1 : Nat) (w : World) (h : 100 < l0 ∨ 100 < l1) (h0 : l0 ≤ 9223372036854775807) (h1 : l1 ≤ 9223372036854775807) :
    Calls Try.prog 4 #[.slice a0 l0 cap0, .slice a1 l1 cap1] w fun e w' => e = .returned (.bool true) ∧ Below w.heap.size w w' := by
  by_cases hb : 100 < l0
  · go_enter Try.func4, Try.ntmps4
    go_wp2_with fail
    refine (begun_any w).mono ?_
    rintro e w1 ⟨rfl, hb1⟩
    go_wp2
    go_ret
    exact ⟨rfl, hb1⟩
  · have hb2 : 100 < l1 := by omega
    clear h
    go_enter Try.func4, Try.ntmps4
    go_wp2_with fail
    refine (begun_any w).mono ?_
    rintro e w1 ⟨rfl, hb1⟩
    go_wp2
    go_ret
    exact ⟨rfl, hb1⟩
end Go.Proofs.Ytjkbapjdojhdeaa
