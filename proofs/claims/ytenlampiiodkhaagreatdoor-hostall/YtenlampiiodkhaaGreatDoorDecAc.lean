/-
  DecA.
-/
import Derived.Test.YtenlampiiodkhaaGreatDoorEncBc
namespace Go.Proofs.YtenlampiiodkhaaGreatDoor
set_option linter.unusedVariables false
open Go.RowKit
set_option maxHeartbeats 1000000 in
set_option maxRecDepth 100000 in
theorem digit_any (b : UInt8) (w : World) : Calls Tryz.prog 201 #[B b] w fun e w' => e = .returned (.tuple #[.int .i64 (((dv b).getD 0 : Nat) : Int), .bool (dv b).isSome]) ∧ w' = w := by
  have hb := b.toNat_lt; have fin : ∀ (z : Int) (t : Bool), (z, t) = ((((dv b).getD 0 : Nat) : Int), (dv b).isSome) → Ending.returned (.tuple #[.int .i64 z, .bool t]) = .returned (.tuple #[.int .i64 (((dv b).getD 0 : Nat) : Int), .bool (dv b).isSome]) := fun z t h => by
    rw [Prod.mk.injEq] at h; rw [h.1, h.2]
  have FIN := hide fin; clear fin; unfold B; have HDV := hide (show dv b = dv b from rfl); have hdv : dv b = if 97 ≤ b.toNat ∧ b.toNat ≤ 122 then some (b.toNat - 97) else if 48 ≤ b.toNat ∧ b.toNat ≤ 57 then some (b.toNat - 22) else if 65 ≤ b.toNat ∧ b.toNat ≤ 90 then some (b.toNat - 65) else none := rfl; have HD := hide hdv; clear hdv HDV; generalize b.toNat = z at *; go_enter Tryz.func201, Tryz.ntmps201; by_cases h1 : 97 ≤ z
  · by_cases h2 : z ≤ 122
    · have h1' : (97 : Int) ≤ (z : Int) := by omega
      have h2' : (z : Int) ≤ 122 := by omega
      have e := unhide HD; rw [if_pos ⟨h1, h2⟩] at e; have HE := hide e; clear HD e; go_wp2; go_ret2; exact ⟨unhide FIN _ _ (by rw [unhide HE]; simp; omega), rfl⟩
    · have h1' : (97 : Int) ≤ (z : Int) := by omega
      have h2' : ¬ (z : Int) ≤ 122 := by omega
      have h3' : (65 : Int) ≤ (z : Int) := by omega
      have h4' : ¬ (z : Int) ≤ 90 := by omega
      have h5' : (48 : Int) ≤ (z : Int) := by omega
      have h6' : ¬ (z : Int) ≤ 57 := by omega
      have e := unhide HD; rw [if_neg (by omega), if_neg (by omega), if_neg (by omega)] at e; have HE := hide e; clear HD e; go_wp2; go_ret2; exact ⟨unhide FIN _ _ (by rw [unhide HE]; rfl), rfl⟩
  · have h1' : ¬ (97 : Int) ≤ (z : Int) := by omega
    by_cases h3 : 65 ≤ z
    · have h3' : (65 : Int) ≤ (z : Int) := by omega
      by_cases h4 : z ≤ 90
      · have h4' : (z : Int) ≤ 90 := by omega
        have e := unhide HD; rw [if_neg (by omega), if_neg (by omega), if_pos ⟨h3, h4⟩] at e; have HE := hide e; clear HD e; go_wp2; go_ret2; exact ⟨unhide FIN _ _ (by rw [unhide HE]; simp; omega), rfl⟩
      · have h4' : ¬ (z : Int) ≤ 90 := by omega
        have h5' : (48 : Int) ≤ (z : Int) := by omega
        have h6' : ¬ (z : Int) ≤ 57 := by omega
        have e := unhide HD; rw [if_neg (by omega), if_neg (by omega), if_neg (by omega)] at e; have HE := hide e; clear HD e; go_wp2; go_ret2; exact ⟨unhide FIN _ _ (by rw [unhide HE]; rfl), rfl⟩
    · have h3' : ¬ (65 : Int) ≤ (z : Int) := by omega
      by_cases h5 : 48 ≤ z
      · have h5' : (48 : Int) ≤ (z : Int) := by omega
        by_cases h6 : z ≤ 57
        · have h6' : (z : Int) ≤ 57 := by omega
          have e := unhide HD; rw [if_neg (by omega), if_pos ⟨h5, h6⟩] at e; have HE := hide e; clear HD e; go_wp2; go_ret2; exact ⟨unhide FIN _ _ (by rw [unhide HE]; simp; omega), rfl⟩
        · have h6' : ¬ (z : Int) ≤ 57 := by omega
          have e := unhide HD; rw [if_neg (by omega), if_neg (by omega), if_neg (by omega)] at e; have HE := hide e; clear HD e; go_wp2; go_ret2; exact ⟨unhide FIN _ _ (by rw [unhide HE]; rfl), rfl⟩
      · have h5' : ¬ (48 : Int) ≤ (z : Int) := by omega
        have e := unhide HD; rw [if_neg (by omega), if_neg (by omega), if_neg (by omega)] at e; have HE := hide e; clear HD e; go_wp2; go_ret2; exact ⟨unhide FIN _ _ (by rw [unhide HE]; rfl), rfl⟩
def cutI (s : List UInt8) : Int := match cutAt s with | some k => (k : Int) | none => -1
set_option maxHeartbeats 1000000 in
set_option maxRecDepth 100000 in
theorem lastByte_any (s : List UInt8) (w : World) (hs : s.length ≤ 1000) : Calls Tryz.prog 143 #[S s, .int .u8 45] w fun e w' => e = .returned (.int .i64 (cutI s)) ∧ w' = w := by
  have hsl : (⟨s.toArray⟩ : ByteArray).size = s.length := size_S s; have fin : ∀ z : Int, z = cutI s → Ending.returned (.int .i64 z) = .returned (.int .i64 (cutI s)) := fun z h => by rw [h]
  have FIN := hide fin; clear fin; go_enter Tryz.func143, Tryz.ntmps143; go_wp2_with fail
  go_loopw [5] (fun i wr => ∃ j : Nat, j ≤ s.length ∧ i = .int .i64 ((j : Int) - 1) ∧ Hid (∀ x ∈ s.drop j, x ≠ 45) ∧ wr = w) (fun i _ => ((intOf i) + 1).toNat)
  case atStart => exact ⟨s.length, Nat.le_refl _, by simp, hide (by simp), rfl⟩
  case round =>
    obtain ⟨j, hj, rfl, HN, hw⟩ := hrel; subst hw; by_cases hj0 : 0 < j
    · obtain ⟨p, rfl⟩ : ∃ p, j = p + 1 := ⟨j - 1, by omega⟩; have hi := fun w => idx_str w s .i64 p (by omega); have hbt := (s.getD p 0).toNat_lt; have HDR := hide (show s.drop p = s.getD p 0 :: s.drop (p + 1) by rw [List.drop_eq_getElem_cons (by omega)]; simp [List.getD, show p < s.length by omega]); rw [show (((p + 1 : Nat) : Int) - 1) = (p : Int) by omega]; unfold B at hi; by_cases hx : s.getD p 0 = 45
      · have hx' : (((s.getD p 0).toNat : Nat) : Int) = 45 := by rw [hx]; rfl
        have hc : cutI s = (p : Int) := by
          have e : s = s.take p ++ 45 :: s.drop (p + 1) := by
            conv => lhs; rw [← List.take_append_drop p s]
            rw [unhide HDR, hx]
          have := cutAt_some (s.take p) (s.drop (p + 1)) (unhide HN); rw [← e, List.length_take, Nat.min_eq_left (by omega)] at this; unfold cutI; rw [this]
        have HC := hide hc; clear hc HDR HN hx; generalize (s.getD p 0).toNat = z at *; go_wp2; go_ret; exact ⟨unhide FIN _ (unhide HC).symm, rfl⟩
      · have hx' : ¬ ((((s.getD p 0).toNat : Nat) : Int) = 45) := fun e => hx (UInt8.toNat_inj.1 (by show (s.getD p 0).toNat = 45; omega)); have hx2 : (((s.getD p 0).toNat : Int) == 45) = false := beq_eq_false_iff_ne.2 hx'; have HN2 : Hid (∀ x ∈ s.drop p, x ≠ 45) := by
          show ∀ x ∈ s.drop p, x ≠ 45; rw [unhide HDR]; intro x hm; rcases List.mem_cons.1 hm with rfl | hm
          · exact hx
          · exact unhide HN x hm
        clear HDR HN hx; generalize (s.getD p 0).toNat = z at *; go_wp2; exact ⟨⟨p, by omega, rfl, HN2, by first | rfl | trivial⟩, (show ((p : Int) - 1 + 1).toNat < ((p : Int) + 1).toNat by omega)⟩
    · have e : j = 0 := by omega
      subst e; have hc : cutI s = -1 := by
        unfold cutI; rw [cutAt_none (by have := unhide HN; simpa using this)]
      have HC := hide hc; clear hc HN; go_wp2; go_ret; exact ⟨unhide FIN _ (by rw [unhide HC]), rfl⟩
end Go.Proofs.YtenlampiiodkhaaGreatDoor
