/-
  The walk of UtfAll.
-/
import Derived.Test.YtanhoohekjconaaUtfD
namespace Go.Proofs.Ytanhoohekjconaa
set_option linter.unusedVariables false
open Go.RowKit

theorem entersRDec (args : Array Value) (w : World) : (callFunc 11 args).run Try.prog w = .ok (.enter 11 args) w := run_enter 11 _ Try.func11 (by kernel_rfl) (by kernel_rfl) args w
theorem entersREnc (args : Array Value) (w : World) : (callFunc 13 args).run Try.prog w = .ok (.enter 13 args) w := run_enter 13 _ Try.func13 (by kernel_rfl) (by kernel_rfl) args w
theorem entersRVal (args : Array Value) (w : World) : (callFunc 15 args).run Try.prog w = .ok (.enter 15 args) w := run_enter 15 _ Try.func15 (by kernel_rfl) (by kernel_rfl) args w

section
variable {ops : Array Oper} {Q : Exit → Act → World → Prop} {A : Tmp → Value → World → Prop} {a0 : Act} {w0 : World} {o : Oper} {d : Tmp}

theorem ok_rdec (hw : Wanted ops A o) (hdst : o.dst = some d) (x : Tmp) (ats : Array TypeId) (ho : o.op = .call { callee := .value (.func 11), args := #[.tmp x], argTypes := ats }) (hx1 : (depSlots ops o).contains x = true) (bs : List UInt8) (hm : bs.length ≤ 1000000)
    (hX : ∀ v w, A x v w → (cellsF (bs.map B)).holds v w) (hF : ∀ v w, (cellsF ((dec bs).map R)).holds v w → A d v w) : StepOk Try.prog ops Q A a0 w0 o :=
  ok_gives hw hdst _ _ _ entersRDec ho ((dec bs).map R) (fun a w hx hf hd => by
    obtain ⟨ao, cap, e, hr⟩ := hX _ _ (hd x hx1)
    rw [args1, e]
    exact rdecode_any ao _ cap bs w (by simp) (by simpa using hm) hr) hF

theorem ok_renc (hw : Wanted ops A o) (hdst : o.dst = some d) (x : Tmp) (ats : Array TypeId) (ho : o.op = .call { callee := .value (.func 13), args := #[.tmp x], argTypes := ats }) (hx1 : (depSlots ops o).contains x = true) (rs : List Int) (hm : rs.length ≤ 1000000) (hr : ∀ r ∈ rs, -2147483648 ≤ r ∧ r ≤ 2147483647)
    (hX : ∀ v w, A x v w → (cellsF (rs.map R)).holds v w) (hF : ∀ v w, (cellsF ((enc rs).map B)).holds v w → A d v w) : StepOk Try.prog ops Q A a0 w0 o :=
  ok_gives hw hdst _ _ _ entersREnc ho ((enc rs).map B) (fun a w hx hf hd => by
    obtain ⟨ao, cap, e, h⟩ := hX _ _ (hd x hx1)
    rw [args1, e]
    exact rEncode_any ao _ cap rs w (by simp) (by simpa using hm) hr h) hF

theorem ok_rvld (hw : Wanted ops A o) (hdst : o.dst = some d) (x : Tmp) (ats : Array TypeId) (ho : o.op = .call { callee := .value (.func 15), args := #[.tmp x], argTypes := ats }) (hx1 : (depSlots ops o).contains x = true) (bs : List UInt8) (hm : bs.length ≤ 1000000)
    (hX : ∀ v w, A x v w → (cellsF (bs.map B)).holds v w) (hF : ∀ w, A d (.bool (vld bs)) w) : StepOk Try.prog ops Q A a0 w0 o :=
  ok_is hw hdst _ _ _ entersRVal ho (.bool (vld bs)) (fun a w hx hf hd => by
    obtain ⟨ao, cap, e, hr⟩ := hX _ _ (hd x hx1)
    rw [args1, e]
    exact rvalid_any ao _ cap bs w (by simp) (by simpa using hm) hr) hF
end

set_option maxHeartbeats 1000000 in
theorem all_walk (bo ao : Option Addr) (lb la cb ca : Nat) (bs : List UInt8) (rs : List Int) (w : World) (hlb : bs.length = lb) (hla : rs.length = la) (hr : ∀ r ∈ rs, -2147483648 ≤ r ∧ r ≤ 2147483647) (hb : RdV w bo cb (bs.map B)) (ha : RdV w ao ca (rs.map R)) :
    Calls Try.prog 3 #[.slice bo lb cb, .slice ao la ca] w fun e w' => e = .returned (.bool true) ∧ Ext w w' := by
  subst hla
  subst hlb
  go_enter Try.func3, Try.ntmps3
  go_wp2_with fail
  refine (begun_yes _).mono ?_
  rintro e w1 ⟨rfl, hx1⟩
  by_cases g1 : 60 < bs.length
  · go_wp2
    go_ret
    exact ⟨rfl, hx1⟩
  · by_cases g2 : 30 < rs.length
    · go_wp2
      go_ret
      exact ⟨rfl, hx1⟩
    · have ha1 := ha.below hx1
      have hb1 := hb.below hx1
      clear ha hb
      go_wp2_with fail
      refine wp_region_open (A := knows [(4, isF (.bool true)), (15, cellsF ((bs).map B)), (16, cellsF ((dec bs).map R)), (17, cellsF ((bs).map B)), (18, cellsF ((dec bs).map R)), (19, isF (.bool true)), (20, isF (.bool true)), (21, cellsF ((rs).map R)), (22, cellsF ((enc rs).map B)), (23, isF (.string ⟨(enc rs).toArray⟩)), (24, cellsF ((rs).map R)), (25, cellsF ((enc rs).map B)), (26, isF (.string ⟨(enc rs).toArray⟩)), (27, isF (.bool true)), (28, isF (.bool true)), (29, isF (.bool true)), (30, cellsF ((bs).map B)), (31, isF (.bool (vld bs))), (32, cellsF ((bs).map B)), (33, isF (.bool (vld bs))), (34, isF (.bool true)), (35, isF (.bool true))]) (by kernel_rfl) (by kernel_rfl) (knows_mono _) (steps_of ?_) ?_
      · skip
        refine allOps_cons (ok_fixed (.inl rfl) rfl 0 (.slice bo bs.length cb) (.inl rfl) (by kernel_rfl) rfl (fun wx hx => ⟨bo, cb, by simp, hb1.below hx⟩)) ?_
        refine allOps_cons (ok_dec (.inl rfl) rfl 15 _ rfl (by kernel_rfl) (bs) (by omega) (fun _ _ h => h) (fun _ _ h => h)) ?_
        refine allOps_cons (ok_fixed (.inl rfl) rfl 0 (.slice bo bs.length cb) (.inl rfl) (by kernel_rfl) rfl (fun wx hx => ⟨bo, cb, by simp, hb1.below hx⟩)) ?_
        refine allOps_cons (ok_rdec (.inl rfl) rfl 17 _ rfl (by kernel_rfl) (bs) (by omega) (fun _ _ h => h) (fun _ _ h => h)) ?_
        refine allOps_cons (ok_same (.inl rfl) rfl 16 18 _ rfl (by kernel_rfl) (by kernel_rfl) (dec bs) (fun _ _ h => h) (fun _ _ h => h) (fun _ => rfl)) ?_
        refine allOps_cons (ok_move (.inl rfl) rfl 19 (.inl rfl) (by kernel_rfl) (fun _ _ h => h)) ?_
        refine allOps_cons (ok_fixed (.inr ⟨5, true, 20, rfl, by kernel_rfl, by kernel_rfl, fun _ _ h => h⟩) rfl 1 (.slice ao rs.length ca) (.inl rfl) (by kernel_rfl) rfl (fun wx hx => ⟨ao, ca, by simp, ha1.below hx⟩)) ?_
        refine allOps_cons (ok_enc (.inr ⟨5, true, 20, rfl, by kernel_rfl, by kernel_rfl, fun _ _ h => h⟩) rfl 21 _ rfl (by kernel_rfl) (rs) (by omega) (fun _ _ h => h) (fun _ _ h => h)) ?_
        refine allOps_cons (ok_str (.inr ⟨5, true, 20, rfl, by kernel_rfl, by kernel_rfl, fun _ _ h => h⟩) rfl 22 rfl (by kernel_rfl) (enc rs) (fun _ _ h => h) (fun _ => rfl)) ?_
        refine allOps_cons (ok_fixed (.inr ⟨5, true, 20, rfl, by kernel_rfl, by kernel_rfl, fun _ _ h => h⟩) rfl 1 (.slice ao rs.length ca) (.inl rfl) (by kernel_rfl) rfl (fun wx hx => ⟨ao, ca, by simp, ha1.below hx⟩)) ?_
        refine allOps_cons (ok_renc (.inr ⟨5, true, 20, rfl, by kernel_rfl, by kernel_rfl, fun _ _ h => h⟩) rfl 24 _ rfl (by kernel_rfl) (rs) (by omega) hr (fun _ _ h => h) (fun _ _ h => h)) ?_
        refine allOps_cons (ok_str (.inr ⟨5, true, 20, rfl, by kernel_rfl, by kernel_rfl, fun _ _ h => h⟩) rfl 25 rfl (by kernel_rfl) (enc rs) (fun _ _ h => h) (fun _ => rfl)) ?_
        refine allOps_cons (ok_eql_str (.inr ⟨5, true, 20, rfl, by kernel_rfl, by kernel_rfl, fun _ _ h => h⟩) rfl 23 26 _ _ rfl (by kernel_rfl) (by kernel_rfl) _ _ (fun _ _ h => h) (fun _ _ h => h) (fun _ => congrArg Value.bool (beq_self_eq_true _))) ?_
        refine allOps_cons (ok_pick (.inl rfl) rfl 20 27 _ rfl (by kernel_rfl) (by kernel_rfl) (fun _ _ h => h) (fun _ _ h => h)) ?_
        refine allOps_cons (ok_move (.inl rfl) rfl 28 (.inl rfl) (by kernel_rfl) (fun _ _ h => h)) ?_
        refine allOps_cons (ok_fixed (.inr ⟨14, true, 29, rfl, by kernel_rfl, by kernel_rfl, fun _ _ h => h⟩) rfl 0 (.slice bo bs.length cb) (.inl rfl) (by kernel_rfl) rfl (fun wx hx => ⟨bo, cb, by simp, hb1.below hx⟩)) ?_
        refine allOps_cons (ok_vld (.inr ⟨14, true, 29, rfl, by kernel_rfl, by kernel_rfl, fun _ _ h => h⟩) rfl 30 _ rfl (by kernel_rfl) (bs) (fun _ _ h => h) (fun _ => rfl)) ?_
        refine allOps_cons (ok_fixed (.inr ⟨14, true, 29, rfl, by kernel_rfl, by kernel_rfl, fun _ _ h => h⟩) rfl 0 (.slice bo bs.length cb) (.inl rfl) (by kernel_rfl) rfl (fun wx hx => ⟨bo, cb, by simp, hb1.below hx⟩)) ?_
        refine allOps_cons (ok_rvld (.inr ⟨14, true, 29, rfl, by kernel_rfl, by kernel_rfl, fun _ _ h => h⟩) rfl 32 _ rfl (by kernel_rfl) (bs) (by omega) (fun _ _ h => h) (fun _ => rfl)) ?_
        refine allOps_cons (ok_eql_bool (.inr ⟨14, true, 29, rfl, by kernel_rfl, by kernel_rfl, fun _ _ h => h⟩) rfl 31 33 _ _ rfl (by kernel_rfl) (by kernel_rfl) _ _ Try.underlying4 (fun _ _ h => h) (fun _ _ h => h) (fun _ => congrArg Value.bool (beq_self_eq_true _))) ?_
        refine allOps_cons (ok_pick (.inl rfl) rfl 29 34 _ rfl (by kernel_rfl) (by kernel_rfl) (fun _ _ h => h) (fun _ _ h => h)) ?_
        refine allOps_cons (ok_move (.inl rfl) rfl 35 (.inr rfl) (by kernel_rfl) (fun _ _ h => h)) ?_
        exact allOps_nil
      · intro a wz hx hsz hdef hfix hkn
        refine ‹∀ (a : Act) (w : World), Code.wp Try.prog Code.ret _ a w → _› a wz ?_
        have h4 : a.tmps.getD 4 undef = .bool true := hkn 4 (by kernel_rfl)
        go_wp2
        exact bodyPost_ret (v := .bool true) (by rw [results_tmp rfl, h4]) hdef ⟨rfl, hx1.trans hx⟩
end Go.Proofs.Ytanhoohekjconaa
