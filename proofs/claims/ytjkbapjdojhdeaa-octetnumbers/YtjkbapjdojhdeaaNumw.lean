/-
  The walk of OctetNumbers: which bytes numbers have, and which number bytes are.
-/
import Derived.Test.YtjkbapjdojhdeaaTwn
import Derived.Test.YtjkbapjdojhdeaaOp2
namespace Go.Proofs.Ytjkbapjdojhdeaa
set_option linter.unusedVariables false
open Go.RowKit

def tkv (bs : List UInt8) (n : Int) : Nat := if n < 0 ∨ 8 < n then 0 else if bs.length < n.toNat then 0 else num (bs.take n.toNat)
def tke (bs : List UInt8) (n : Int) : Nat := if n < 0 ∨ 8 < n then 1 else if bs.length < n.toNat then 3 else 0

theorem take_rd (ao : Option Addr) (l cap : Nat) (n : Int) (bs : List UInt8) (w : World) (hl : bs.length = l) (h : Rd w ao cap bs) :
    Calls Try.prog 13 #[.slice ao l cap, .int .i64 n] w fun e w' => e = .returned (.tuple #[.int .u64 (tkv bs n : Int), .int .i64 (tke bs n : Int)]) ∧ w' = w := by
  subst hl
  unfold tkv tke
  by_cases hn : n < 0 ∨ 8 < n
  · rw [if_pos hn, if_pos hn]
    exact take_arg ao _ cap n w hn
  · rw [if_neg hn, if_neg hn]
    obtain ⟨m, rfl⟩ := Int.eq_ofNat_of_zero_le (show 0 ≤ n by omega)
    simp only [Int.toNat_natCast]
    by_cases hs : bs.length < m
    · rw [if_pos hs, if_pos hs]
      exact take_short ao _ cap m w (by omega) hs
    · rw [if_neg hs, if_neg hs]
      exact take_ok ao _ cap m bs w rfl h (by omega) (by omega)

theorem rtake_rd (ao : Option Addr) (l cap : Nat) (n : Int) (bs : List UInt8) (w : World) (hl : bs.length = l) (h : Rd w ao cap bs) :
    Calls Try.prog 14 #[.slice ao l cap, .int .i64 n] w fun e w' => e = .returned (.tuple #[.int .u64 (tkv bs n : Int), .int .i64 (tke bs n : Int)]) ∧ w' = w := by
  subst hl
  unfold tkv tke
  by_cases hn : n < 0 ∨ 8 < n
  · rw [if_pos hn, if_pos hn]
    exact rtake_arg ao _ cap n w hn
  · rw [if_neg hn, if_neg hn]
    obtain ⟨m, rfl⟩ := Int.eq_ofNat_of_zero_le (show 0 ≤ n by omega)
    simp only [Int.toNat_natCast]
    by_cases hs : bs.length < m
    · rw [if_pos hs, if_pos hs]
      exact rtake_short ao _ cap m w (by omega) hs
    · rw [if_neg hs, if_neg hs]
      exact rtake_ok ao _ cap m bs w rfl h (by omega) (by omega)

theorem enter15 : ∀ args w, (callFunc 15 args).run Try.prog w = .ok (.enter 15 args) w := run_enter 15 Try.f15 Try.func15 (by kernel_rfl) (by kernel_rfl)

section
variable {ops : Array Oper} {Q : Exit → Act → World → Prop} {A : Tmp → Value → World → Prop} {a0 : Act} {w0 : World} {o : Oper} {d : Tmp}

theorem ok_rput (hw : Wanted ops A o) (hdst : o.dst = some d) (x y z : Tmp) (ho : o.op = .call { callee := .value (.func 15), args := #[.tmp x, .tmp y, .tmp z], argTypes := #[22, 23, 3] }) (hx1 : (depSlots ops o).contains x = true) (hy1 : (depSlots ops o).contains y = true) (hz1 : (depSlots ops o).contains z = true)
    (ao : Option Addr) (l cap : Nat) (bs : List UInt8) (V : Nat) (n : Int) (hX : ∀ v w, A x v w → v = .slice ao l cap) (hR : ∀ w, Ext w0 w → Rd w ao cap bs) (hY : ∀ v w, A y v w → v = .int .u64 (V : Int)) (hZ : ∀ v w, A z v w → v = .int .i64 n) (hl : bs.length = l) (hm : l ≤ 140737488350000)
    (hF : ∀ v w, (bytesF (bs ++ be (psz n) V) (l + psz n)).holds v w → A d v w) : StepOk Try.prog ops Q A a0 w0 o :=
  ok_call hw hdst 15 _ _ enter15 ho fun a w hx hf hd => by
    have e1 := hX _ _ (hd x hx1)
    have e2 := hY _ _ (hd y hy1)
    have e3 := hZ _ _ (hd z hz1)
    simp only [List.map_toArray, List.map_cons, List.map_nil, Act.eval, e1, e2, e3]
    refine (rput_rd ao l cap V n bs w hl (hR w hx) hm).mono fun e w' h => ?_
    obtain ⟨a2, c2, h1, h2, h3, h4⟩ := h
    exact ⟨_, h1, hF _ _ ⟨a2, c2, rfl, h2, h3⟩, h4⟩
end

set_option maxHeartbeats 1000000 in
theorem numbers_walk (a0 : Option Addr) (l0 cap0 : Nat) (bs : List UInt8) (v n : Int) (w : World) (h0 : bs.length = l0) (R0 : Rd w a0 cap0 bs) (hv : 0 ≤ v) (hl0 : l0 ≤ 40) :
    Calls Try.prog 3 #[.slice a0 l0 cap0, .int .u64 v, .int .i64 n] w fun e w' => e = .returned (.bool true) ∧ Below w.heap.size w w' := by
  subst h0
  obtain ⟨V, rfl⟩ := Int.eq_ofNat_of_zero_le hv
  go_enter Try.func3, Try.ntmps3
  go_wp2_with fail
  refine (begun_any w).mono ?_
  rintro e w1 ⟨rfl, hb1⟩
  have R1 := R0.below hb1
  go_wp2_with fail
  refine (twin_any a0 _ cap0 bs w1 rfl R1 (by omega)).mono ?_
  rintro e w2 ⟨g, rfl, own2, hb2⟩
  have hb12 := hb1.trans (hb2.mono hb1.size)
  have R2 : Rd w2 (some ⟨g, 0, none⟩) (bs.length + 3) bs := by
    have := (Rd.of_owned_at own2).take bs.length
    rwa [List.take_append_of_le_length (Nat.le_refl _), List.take_of_length_le (Nat.le_refl _)] at this
  go_wp2_with fail
  refine (put_rd _ _ _ V n bs w2 rfl R2 (by omega)).mono ?_
  rintro e w3 ⟨a3, c3, rfl, R3, hn3, hb3⟩
  have hb13 := hb12.trans (hb3.mono hb12.size)
  have own3 := owns_below own2 hb3
  have R5 := R0.below hb13
  clear own2 R2 R1 hb1 hb2 hb12 hb3
  go_wp2_with fail
  refine (kept_any g a0 _ cap0 bs w3 _ rfl R5 (by omega) own3).mono ?_
  rintro e w4 ⟨rfl, rfl⟩
  clear own3
  go_wp2_with fail
  refine (take_rd a0 _ cap0 n bs w4 rfl R5).mono ?_
  rintro e w5 ⟨rfl, rfl⟩
  go_wp2_with fail
  refine (rtake_rd a0 _ cap0 n bs w5 rfl R5).mono ?_
  rintro e w6 ⟨rfl, rfl⟩
  go_wp2_with fail
  have S3 : ∀ v wx, v = Value.slice a3 (bs.length + psz n) c3 → Ext w6 wx → ∃ ao cap, v = .slice ao (bs.length + psz n) cap ∧ Rd wx ao cap (bs ++ be (psz n) V) ∧ (bs ++ be (psz n) V).length = bs.length + psz n := fun v wx e hx => ⟨_, _, e, R3.below hx, hn3⟩
  refine wp_region_open (A := knows [(6, isF (.bool true)), (40, isF (.bool true)), (41, isF (.bool true)), (42, isF (.slice a3 (bs.length + psz n) c3)), (43, isF (.string ⟨(bs ++ be (psz n) V).toArray⟩)), (44, isF (.slice a0 bs.length cap0)), (45, isF (.int .u64 (V : Int))), (46, isF (.int .i64 n)), (48, isF (.string ⟨(bs ++ be (psz n) V).toArray⟩)), (49, isF (.bool true)), (50, isF (.bool true)), (51, isF (.bool true)), (52, isF (.int .u64 (tkv bs n : Int))), (53, isF (.int .u64 (tkv bs n : Int))), (54, isF (.bool true)), (55, isF (.bool true)), (56, isF (.bool true)), (57, isF (.int .i64 (tke bs n : Int))), (58, isF (.int .i64 (tke bs n : Int))), (59, isF (.bool true)), (60, isF (.bool true)), (47, bytesF (bs ++ be (psz n) V) (bs.length + psz n))]) (by kernel_rfl) (by kernel_rfl) (knows_mono _) (steps_of ?_) ?_
  refine allOps_cons (ok_fixed (.inl rfl) rfl 9 (.bool true) (.inl rfl) (by kernel_rfl) rfl (fun _ _ => rfl)) ?_
  refine allOps_cons (ok_move (.inl rfl) rfl 40 (.inl rfl) (by kernel_rfl) (fun _ _ h => h)) ?_
  refine allOps_cons (ok_fixed (.inr ⟨1, true, 41, rfl, by kernel_rfl, by kernel_rfl, fun _ _ h => h⟩) rfl 8 (.slice a3 (bs.length + psz n) c3) (.inl rfl) (by kernel_rfl) rfl (fun _ _ => rfl)) ?_
  refine allOps_cons (ok_conv (.inr ⟨1, true, 41, rfl, by kernel_rfl, by kernel_rfl, fun _ _ h => h⟩) rfl 42 rfl (by kernel_rfl) _ _ S3 (fun _ => rfl)) ?_
  refine allOps_cons (ok_fixed (.inr ⟨1, true, 41, rfl, by kernel_rfl, by kernel_rfl, fun _ _ h => h⟩) rfl 0 (.slice a0 bs.length cap0) (.inl rfl) (by kernel_rfl) rfl (fun _ _ => rfl)) ?_
  refine allOps_cons (ok_fixed (.inr ⟨1, true, 41, rfl, by kernel_rfl, by kernel_rfl, fun _ _ h => h⟩) rfl 1 (.int .u64 (V : Int)) (.inl rfl) (by kernel_rfl) rfl (fun _ _ => rfl)) ?_
  refine allOps_cons (ok_fixed (.inr ⟨1, true, 41, rfl, by kernel_rfl, by kernel_rfl, fun _ _ h => h⟩) rfl 2 (.int .i64 n) (.inl rfl) (by kernel_rfl) rfl (fun _ _ => rfl)) ?_
  refine allOps_cons (ok_rput (.inr ⟨1, true, 41, rfl, by kernel_rfl, by kernel_rfl, fun _ _ h => h⟩) rfl 44 45 46 rfl (by kernel_rfl) (by kernel_rfl) (by kernel_rfl) a0 bs.length cap0 bs V n (fun _ _ h => h) (fun wx hx => R5.below hx) (fun _ _ h => h) (fun _ _ h => h) rfl (by omega) (fun _ _ h => h)) ?_
  refine allOps_cons (ok_conv (.inr ⟨1, true, 41, rfl, by kernel_rfl, by kernel_rfl, fun _ _ h => h⟩) rfl 47 rfl (by kernel_rfl) _ _ (fun _ _ h _ => h) (fun _ => rfl)) ?_
  refine allOps_cons (ok_eql_str (.inr ⟨1, true, 41, rfl, by kernel_rfl, by kernel_rfl, fun _ _ h => h⟩) rfl 43 48 _ _ rfl (by kernel_rfl) (by kernel_rfl) _ _ (fun _ _ h => h) (fun _ _ h => h) (fun _ => congrArg Value.bool (beq_self_eq_true _))) ?_
  refine allOps_cons (ok_pick (.inl rfl) rfl 41 49 _ rfl (by kernel_rfl) (by kernel_rfl) (fun _ _ h => h) (fun _ _ h => h)) ?_
  refine allOps_cons (ok_move (.inl rfl) rfl 50 (.inl rfl) (by kernel_rfl) (fun _ _ h => h)) ?_
  refine allOps_cons (ok_fixed (.inr ⟨11, true, 51, rfl, by kernel_rfl, by kernel_rfl, fun _ _ h => h⟩) rfl 10 (.int .u64 (tkv bs n : Int)) (.inl rfl) (by kernel_rfl) rfl (fun _ _ => rfl)) ?_
  refine allOps_cons (ok_fixed (.inr ⟨11, true, 51, rfl, by kernel_rfl, by kernel_rfl, fun _ _ h => h⟩) rfl 12 (.int .u64 (tkv bs n : Int)) (.inl rfl) (by kernel_rfl) rfl (fun _ _ => rfl)) ?_
  refine allOps_cons (ok_eql_int (.inr ⟨11, true, 51, rfl, by kernel_rfl, by kernel_rfl, fun _ _ h => h⟩) rfl 52 53 _ _ rfl (by kernel_rfl) (by kernel_rfl) .u64 _ _ (fun _ _ h => h) (fun _ _ h => h) (fun _ => congrArg Value.bool (beq_self_eq_true _))) ?_
  refine allOps_cons (ok_pick (.inl rfl) rfl 51 54 _ rfl (by kernel_rfl) (by kernel_rfl) (fun _ _ h => h) (fun _ _ h => h)) ?_
  refine allOps_cons (ok_move (.inl rfl) rfl 55 (.inl rfl) (by kernel_rfl) (fun _ _ h => h)) ?_
  refine allOps_cons (ok_fixed (.inr ⟨16, true, 56, rfl, by kernel_rfl, by kernel_rfl, fun _ _ h => h⟩) rfl 11 (.int .i64 (tke bs n : Int)) (.inl rfl) (by kernel_rfl) rfl (fun _ _ => rfl)) ?_
  refine allOps_cons (ok_fixed (.inr ⟨16, true, 56, rfl, by kernel_rfl, by kernel_rfl, fun _ _ h => h⟩) rfl 13 (.int .i64 (tke bs n : Int)) (.inl rfl) (by kernel_rfl) rfl (fun _ _ => rfl)) ?_
  refine allOps_cons (ok_eql_int (.inr ⟨16, true, 56, rfl, by kernel_rfl, by kernel_rfl, fun _ _ h => h⟩) rfl 57 58 _ _ rfl (by kernel_rfl) (by kernel_rfl) .i64 _ _ (fun _ _ h => h) (fun _ _ h => h) (fun _ => congrArg Value.bool (beq_self_eq_true _))) ?_
  refine allOps_cons (ok_pick (.inl rfl) rfl 56 59 _ rfl (by kernel_rfl) (by kernel_rfl) (fun _ _ h => h) (fun _ _ h => h)) ?_
  refine allOps_cons (ok_move (.inl rfl) rfl 60 (.inr rfl) (by kernel_rfl) (fun _ _ h => h)) ?_
  exact allOps_nil
  · intro a wz hx hsz hdef hfix hkn
    refine ‹∀ (a : Act) (w : World), Code.wp Try.prog Code.ret _ a w → _› a wz ?_
    have h6 : a.tmps.getD 6 undef = .bool true := hkn 6 (by kernel_rfl)
    go_wp2
    exact bodyPost_ret (v := .bool true) (by rw [results_tmp rfl, h6]) hdef ⟨rfl, hb13.trans (hx.mono hb13.size)⟩

theorem numbers_big (a0 : Option Addr) (l0 cap0 : Nat) (v n : Int) (w : World) (h : 40 < l0) (h0 : l0 ≤ 9223372036854775807) :
    Calls Try.prog 3 #[.slice a0 l0 cap0, .int .u64 v, .int .i64 n] w fun e w' => e = .returned (.bool true) ∧ Below w.heap.size w w' := by
  go_enter Try.func3, Try.ntmps3
  go_wp2_with fail
  refine (begun_any w).mono ?_
  rintro e w1 ⟨rfl, hb1⟩
  go_wp2
  go_ret
  exact ⟨rfl, hb1⟩
end Go.Proofs.Ytjkbapjdojhdeaa
