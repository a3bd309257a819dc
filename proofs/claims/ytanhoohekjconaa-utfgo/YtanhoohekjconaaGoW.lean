/-
  The walk of UtfGo.
-/
import Derived.Test.YtanhoohekjconaaOp3
namespace Go.Proofs.Ytanhoohekjconaa
set_option linter.unusedVariables false
open Go.RowKit

set_option maxHeartbeats 1000000 in
theorem go_walk (ao : Option Addr) (l cap : Nat) (bs : List UInt8) (w : World) (hl : bs.length = l) (h : RdV w ao cap (bs.map B)) :
    Calls Try.prog 5 #[.slice ao l cap] w fun e w' => e = .returned (.bool true) ∧ Ext w w' := by
  subst hl
  go_enter Try.func5, Try.ntmps5
  go_wp2_with fail
  refine (begun_yes _).mono ?_
  rintro e w1 ⟨rfl, hx1⟩
  by_cases g1 : 60 < bs.length
  · go_wp2
    go_ret
    exact ⟨rfl, hx1⟩
  · have h1 := h.below hx1
    go_wp2_with fail
    refine wp_region_open (A := knows [(8, cellsF (bs.map B)), (9, cellsF ((dec bs).map R)), (10, cellsF (bs.map B)), (11, isF (.string ⟨bs.toArray⟩)), (12, cellsF ((dec bs).map R)), (13, isF (.bool true)), (2, isF (.bool true))]) (by kernel_rfl) (by kernel_rfl) (knows_mono _) (steps_of ?_) ?_
    · refine allOps_cons (ok_fixed (.inl rfl) rfl 0 (.slice ao bs.length cap) (.inl rfl) (by kernel_rfl) rfl (fun wx hx => ⟨ao, cap, by simp, h1.below hx⟩)) ?_
      refine allOps_cons (ok_dec (.inl rfl) rfl 8 _ rfl (by kernel_rfl) bs (by omega) (fun _ _ h => h) (fun _ _ h => h)) ?_
      refine allOps_cons (ok_fixed (.inl rfl) rfl 0 (.slice ao bs.length cap) (.inl rfl) (by kernel_rfl) rfl (fun wx hx => ⟨ao, cap, by simp, h1.below hx⟩)) ?_
      refine allOps_cons (ok_str (.inl rfl) rfl 10 rfl (by kernel_rfl) bs (fun _ _ h => h) (fun _ => rfl)) ?_
      refine allOps_cons (ok_runes (.inl rfl) rfl 11 rfl (by kernel_rfl) bs (by omega) (fun _ _ h => h) (fun _ _ h => h)) ?_
      refine allOps_cons (ok_same (.inl rfl) rfl 9 12 _ rfl (by kernel_rfl) (by kernel_rfl) (dec bs) (fun _ _ h => h) (fun _ _ h => h) (fun _ => rfl)) ?_
      refine allOps_cons (ok_move (.inl rfl) rfl 13 (.inr rfl) (by kernel_rfl) (fun _ _ h => h)) ?_
      exact allOps_nil
    · intro a wz hx hsz hdef hfix hkn
      refine ‹∀ (a : Act) (w : World), Code.wp Try.prog Code.ret _ a w → _› a wz ?_
      have h2 : a.tmps.getD 2 undef = .bool true := hkn 2 (by kernel_rfl)
      go_wp2
      exact bodyPost_ret (v := .bool true) (by rw [results_tmp rfl, h2]) hdef ⟨rfl, hx1.trans hx⟩
end Go.Proofs.Ytanhoohekjconaa
