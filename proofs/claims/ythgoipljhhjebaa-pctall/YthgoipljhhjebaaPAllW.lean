/-
  The walk of PctAll.
-/
import Derived.Test.YthgoipljhhjebaaPctQ
import Derived.Test.YthgoipljhhjebaaPctL
namespace Go.Proofs.Ythgoipljhhjebaa
set_option linter.unusedVariables false
open Go.RowKit

section
variable {ops : Array Oper} {Q : Exit → Act → World → Prop} {A : Tmp → Value → World → Prop} {a0 : Act} {w0 : World} {o : Oper} {d : Tmp}

theorem entersRin (args : Array Value) (w : World) : (callFunc 10 args).run Try.prog w = .ok (.enter 10 args) w := run_enter 10 _ Try.func10 (by kernel_rfl) (by kernel_rfl) args w
theorem entersRenc (args : Array Value) (w : World) : (callFunc 12 args).run Try.prog w = .ok (.enter 12 args) w := run_enter 12 _ Try.func12 (by kernel_rfl) (by kernel_rfl) args w
theorem entersRdec (args : Array Value) (w : World) : (callFunc 14 args).run Try.prog w = .ok (.enter 14 args) w := run_enter 14 _ Try.func14 (by kernel_rfl) (by kernel_rfl) args w

theorem plain_any (l : List UInt8) (w : World) (hm : l.length ≤ 1000000) : Calls Try.prog 14 #[S l] w (Gives w ((decd l).map B)) :=
  (plain_own l w hm).mono fun e w' ⟨v, he, h1, h2⟩ => by subst he; exact gives_of_owned h1 h2

theorem ok_rdec (hw : Wanted ops A o) (hdst : o.dst = some d) (x : Tmp) (ats : Array TypeId) (ho : o.op = .call { callee := .value (.func 14), args := #[.tmp x], argTypes := ats }) (hx1 : (depSlots ops o).contains x = true) (l : List UInt8) (hm : l.length ≤ 1000000)
    (hX : ∀ v w, A x v w → v = S l) (hF : ∀ v w, (cellsF ((decd l).map B)).holds v w → A d v w) : StepOk Try.prog ops Q A a0 w0 o :=
  ok_gives hw hdst _ _ _ entersRdec ho ((decd l).map B) (fun a w hx hf hd => by
    rw [args1, hX _ _ (hd x hx1)]
    exact plain_any l w hm) hF

theorem ok_renc (hw : Wanted ops A o) (hdst : o.dst = some d) (x y : Tmp) (ats : Array TypeId) (ho : o.op = .call { callee := .value (.func 12), args := #[.tmp x, .tmp y], argTypes := ats }) (hx1 : (depSlots ops o).contains x = true) (hy1 : (depSlots ops o).contains y = true) (s : Int) (bs : List UInt8) (hm : bs.length ≤ 1000000)
    (hX : ∀ v w, A x v w → v = .int .i64 s) (hY : ∀ v w, A y v w → (cellsF (bs.map B)).holds v w) (hF : ∀ w, A d (S (encd s bs)) w) : StepOk Try.prog ops Q A a0 w0 o :=
  ok_is hw hdst _ _ _ entersRenc ho (S (encd s bs)) (fun a w hx hf hd => by
    obtain ⟨ao, cap, e, hr⟩ := hY _ _ (hd y hy1)
    rw [args2, hX _ _ (hd x hx1), e]
    exact percent_own s ao _ cap bs w (by simp) (by simpa using hm) hr) hF

theorem ok_rin (hw : Wanted ops A o) (hdst : o.dst = some d) (x y : Tmp) (ats : Array TypeId) (ho : o.op = .call { callee := .value (.func 10), args := #[.tmp x, .tmp y], argTypes := ats }) (hx1 : (depSlots ops o).contains x = true) (hy1 : (depSlots ops o).contains y = true) (s : Int) (b : UInt8)
    (hX : ∀ v w, A x v w → v = .int .i64 s) (hY : ∀ v w, A y v w → v = B b) (hF : ∀ w, A d (.bool (inS s b)) w) : StepOk Try.prog ops Q A a0 w0 o :=
  ok_is hw hdst _ _ _ entersRin ho (.bool (inS s b)) (fun a w hx hf hd => by
    rw [args2, hX _ _ (hd x hx1), hY _ _ (hd y hy1)]
    exact (rin_any s b w).mono fun e w' ⟨h1, h2⟩ => ⟨h1, by rw [h2]; exact Ext.refl w⟩) hF
end

set_option maxHeartbeats 800000 in
theorem all_walk (s : Int) (ao : Option Addr) (n cap : Nat) (bs : List UInt8) (c : UInt8) (l : List UInt8) (w : World) (hl : bs.length = n) (h : RdV w ao cap (bs.map B)) :
    Calls Try.prog 3 #[.int .i64 s, .slice ao n cap, B c, S l] w fun e w' => e = .returned (.bool true) ∧ Below w.heap.size w w' := by
  subst hl
  have hsz := size_S l
  go_enter Try.func3, Try.ntmps3
  go_wp2_with fail
  refine (begun_yes _).mono ?_
  rintro e w1 ⟨rfl, hx1⟩
  by_cases g1 : 60 < bs.length
  · go_wp2
    go_ret
    exact ⟨rfl, hx1⟩
  · by_cases g2 : 60 < l.length
    · go_wp2
      go_ret
      exact ⟨rfl, hx1⟩
    · have hB := h.below hx1
      go_wp2_with fail
      refine wp_region_open (A := knows [(19, isF (.int .i64 s)), (20, isF (B c)), (21, isF (.bool (inS s c))), (22, isF (.int .i64 s)), (23, isF (B c)), (24, isF (.bool (inS s c))), (25, isF (.bool true)), (26, isF (.bool true)), (27, isF (.int .i64 s)), (28, cellsF (bs.map B)), (29, isF (S (encd s bs))), (30, isF (.int .i64 s)), (31, cellsF (bs.map B)), (32, isF (S (encd s bs))), (33, isF (.bool true)), (34, isF (.bool true)), (35, isF (.bool true)), (36, isF (S l)), (37, cellsF ((decd l).map B)), (38, isF (S (decd l))), (39, isF (S l)), (40, cellsF ((decd l).map B)), (41, isF (S (decd l))), (42, isF (.bool true)), (43, isF (.bool true)), (8, isF (.bool true))]) (by kernel_rfl) (by kernel_rfl) (knows_mono _) (steps_of ?_) ?_
      · skip
        refine allOps_cons (ok_fixed (.inl rfl) rfl 0 (.int .i64 s) (.inl rfl) (by kernel_rfl) rfl (fun _ _ => rfl)) ?_
        refine allOps_cons (ok_fixed (.inl rfl) rfl 2 (B c) (.inl rfl) (by kernel_rfl) rfl (fun _ _ => rfl)) ?_
        refine allOps_cons (ok_in (.inl rfl) rfl 19 20 _ rfl (by kernel_rfl) (by kernel_rfl) s c (fun _ _ h => h) (fun _ _ h => h) (fun _ => rfl)) ?_
        refine allOps_cons (ok_fixed (.inl rfl) rfl 0 (.int .i64 s) (.inl rfl) (by kernel_rfl) rfl (fun _ _ => rfl)) ?_
        refine allOps_cons (ok_fixed (.inl rfl) rfl 2 (B c) (.inl rfl) (by kernel_rfl) rfl (fun _ _ => rfl)) ?_
        refine allOps_cons (ok_rin (.inl rfl) rfl 22 23 _ rfl (by kernel_rfl) (by kernel_rfl) s c (fun _ _ h => h) (fun _ _ h => h) (fun _ => rfl)) ?_
        refine allOps_cons (ok_eql_bool (.inl rfl) rfl 21 24 _ _ rfl (by kernel_rfl) (by kernel_rfl) (inS s c) (inS s c) Try.underlying4 (fun _ _ h => h) (fun _ _ h => h) (fun _ => congrArg Value.bool (beq_self_eq_true _))) ?_
        refine allOps_cons (ok_move (.inl rfl) rfl 25 (.inl rfl) (by kernel_rfl) (fun _ _ h => h)) ?_
        refine allOps_cons (ok_fixed (.inr ⟨7, true, 26, rfl, by kernel_rfl, by kernel_rfl, fun _ _ h => h⟩) rfl 0 (.int .i64 s) (.inl rfl) (by kernel_rfl) rfl (fun _ _ => rfl)) ?_
        refine allOps_cons (ok_fixed (.inr ⟨7, true, 26, rfl, by kernel_rfl, by kernel_rfl, fun _ _ h => h⟩) rfl 1 (.slice ao bs.length cap) (.inl rfl) (by kernel_rfl) rfl (fun wx hx => ⟨ao, cap, by simp, hB.below hx⟩)) ?_
        refine allOps_cons (ok_enc (.inr ⟨7, true, 26, rfl, by kernel_rfl, by kernel_rfl, fun _ _ h => h⟩) rfl 27 28 _ rfl (by kernel_rfl) (by kernel_rfl) s bs (by omega) (fun _ _ h => h) (fun _ _ h => h) (fun _ => rfl)) ?_
        refine allOps_cons (ok_fixed (.inr ⟨7, true, 26, rfl, by kernel_rfl, by kernel_rfl, fun _ _ h => h⟩) rfl 0 (.int .i64 s) (.inl rfl) (by kernel_rfl) rfl (fun _ _ => rfl)) ?_
        refine allOps_cons (ok_fixed (.inr ⟨7, true, 26, rfl, by kernel_rfl, by kernel_rfl, fun _ _ h => h⟩) rfl 1 (.slice ao bs.length cap) (.inl rfl) (by kernel_rfl) rfl (fun wx hx => ⟨ao, cap, by simp, hB.below hx⟩)) ?_
        refine allOps_cons (ok_renc (.inr ⟨7, true, 26, rfl, by kernel_rfl, by kernel_rfl, fun _ _ h => h⟩) rfl 30 31 _ rfl (by kernel_rfl) (by kernel_rfl) s bs (by omega) (fun _ _ h => h) (fun _ _ h => h) (fun _ => rfl)) ?_
        refine allOps_cons (ok_same (.inr ⟨7, true, 26, rfl, by kernel_rfl, by kernel_rfl, fun _ _ h => h⟩) rfl 29 32 _ _ rfl (by kernel_rfl) (by kernel_rfl) (encd s bs) (fun _ _ h => h) (fun _ _ h => h) (fun _ => rfl)) ?_
        refine allOps_cons (ok_pick (.inl rfl) rfl 26 33 _ rfl (by kernel_rfl) (by kernel_rfl) (fun _ _ h => h) (fun _ _ h => h)) ?_
        refine allOps_cons (ok_move (.inl rfl) rfl 34 (.inl rfl) (by kernel_rfl) (fun _ _ h => h)) ?_
        refine allOps_cons (ok_fixed (.inr ⟨16, true, 35, rfl, by kernel_rfl, by kernel_rfl, fun _ _ h => h⟩) rfl 3 (S l) (.inl rfl) (by kernel_rfl) rfl (fun _ _ => rfl)) ?_
        refine allOps_cons (ok_dec (.inr ⟨16, true, 35, rfl, by kernel_rfl, by kernel_rfl, fun _ _ h => h⟩) rfl 36 _ rfl (by kernel_rfl) l (by omega) (fun _ _ h => h) (fun _ _ h => h)) ?_
        refine allOps_cons (ok_str (.inr ⟨16, true, 35, rfl, by kernel_rfl, by kernel_rfl, fun _ _ h => h⟩) rfl 37 rfl (by kernel_rfl) (decd l) (fun _ _ h => h) (fun _ => rfl)) ?_
        refine allOps_cons (ok_fixed (.inr ⟨16, true, 35, rfl, by kernel_rfl, by kernel_rfl, fun _ _ h => h⟩) rfl 3 (S l) (.inl rfl) (by kernel_rfl) rfl (fun _ _ => rfl)) ?_
        refine allOps_cons (ok_rdec (.inr ⟨16, true, 35, rfl, by kernel_rfl, by kernel_rfl, fun _ _ h => h⟩) rfl 39 _ rfl (by kernel_rfl) l (by omega) (fun _ _ h => h) (fun _ _ h => h)) ?_
        refine allOps_cons (ok_str (.inr ⟨16, true, 35, rfl, by kernel_rfl, by kernel_rfl, fun _ _ h => h⟩) rfl 40 rfl (by kernel_rfl) (decd l) (fun _ _ h => h) (fun _ => rfl)) ?_
        refine allOps_cons (ok_same (.inr ⟨16, true, 35, rfl, by kernel_rfl, by kernel_rfl, fun _ _ h => h⟩) rfl 38 41 _ _ rfl (by kernel_rfl) (by kernel_rfl) (decd l) (fun _ _ h => h) (fun _ _ h => h) (fun _ => rfl)) ?_
        refine allOps_cons (ok_pick (.inl rfl) rfl 35 42 _ rfl (by kernel_rfl) (by kernel_rfl) (fun _ _ h => h) (fun _ _ h => h)) ?_
        refine allOps_cons (ok_move (.inl rfl) rfl 43 (.inr rfl) (by kernel_rfl) (fun _ _ h => h)) ?_
        exact allOps_nil
      · intro a wz hx hsz hdef hfix hkn
        refine ‹∀ (a : Act) (w : World), Code.wp Try.prog Code.ret _ a w → _› a wz ?_
        have h8 : a.tmps.getD 8 undef = .bool true := hkn 8 (by kernel_rfl)
        go_wp2
        exact bodyPost_ret (v := .bool true) (by rw [results_tmp rfl, h8]) hdef ⟨rfl, hx1.trans hx⟩
end Go.Proofs.Ythgoipljhhjebaa
