/-
  The walks of the laws of fold, over what Map and Text of package fold tell (FMap, FText).
-/
import Derived.Test.YthfogdmddijjnaaDoorFoldT
namespace Go.Proofs.YthfogdmddijjnaaDoor
set_option linter.unusedVariables false
open Go.RowKit

theorem tabs_on {w : World} (tb : Tabs w) : ∀ w', Ext w w' → Tabs w' := fun w' hx => tb.below hx

def FMap : Prop := ∀ (r : Int) (w : World), Tabs w → -2147483648 ≤ r ∧ r ≤ 2147483647 → Calls Tryd.prog 9 #[R r] w fun e w' => e = .returned (.tuple #[R (mpo r), .bool (mpk r)]) ∧ Ext w w'
def FText : Prop := ∀ (ao : Option Addr) (l cap : Nat) (rs : List Int) (w : World), Tabs w → rs.length = l → l ≤ 1000000 → (∀ r ∈ rs, -2147483648 ≤ r ∧ r ≤ 2147483647) → RdV w ao cap (rs.map R) → Calls Tryd.prog 12 #[.slice ao l cap] w (Gives w ((txt rs).map R))

theorem mp_65 : mpo 65 = 97 ∧ mpk 65 = true := mp_is (by omega) (by unfold Lost; omega) (by rw [small_u (by omega)]; rfl)
theorem mp_173 : mpo 173 = 0 ∧ mpk 173 = false := mp_lost (by unfold Lost; omega)
theorem txt_begun : txt [65, 173] = [97] := by
  rw [txt, mp_65.1, mp_65.2, txt, mp_173.2, txt]
  simp

theorem range2 (a b : Int) (ha : -2147483648 ≤ a ∧ a ≤ 2147483647) (hb : -2147483648 ≤ b ∧ b ≤ 2147483647) : ∀ r ∈ [a, b], -2147483648 ≤ r ∧ r ≤ 2147483647 := by
  intro r hr
  simp only [List.mem_cons, List.not_mem_nil, or_false] at hr
  rcases hr with rfl | rfl
  · exact ha
  · exact hb

set_option maxHeartbeats 400000 in
theorem begun_yes (FM : FMap) (FT : FText) (w : World) (tb : Tabs w) : Calls Tryd.prog 8 #[] w fun e w' => e = .returned (.bool true) ∧ Ext w w' := by
  have HM := hide FM
  have HT := hide FT
  have TB := hide (tabs_on tb)
  clear FM FT tb
  go_enter Tryd.func8, Tryd.ntmps8
  go_wp2_with fail
  refine (unhide HM 65 _ (unhide TB _ (Ext.refl _)) (by omega)).mono ?_
  rw [mp_65.1, mp_65.2]
  rintro e w1 ⟨rfl, hx1⟩
  go_wp2_with fail
  refine (unhide HM 173 _ (unhide TB _ hx1) (by omega)).mono ?_
  rw [mp_173.1, mp_173.2]
  rintro e w2 ⟨rfl, hx2⟩
  have hx2 := hx1.trans hx2
  clear hx1
  have R2 : RdV (w2.alloc (.cells #[.int .i32 65, .int .i32 173] 21)) (some ⟨w2.heap.size, 0, none⟩) 2 (([65, 173] : List Int).map R) := RdV.lit w2 [.int .i32 65, .int .i32 173] 21 (0, 0) (show 2 ≤ 9223372036854775807 by omega)
  have HE := hide (unhide HT _ 2 2 [65, 173] _ (unhide TB _ (hx2.trans (Ext.alloc w2 _))) rfl (by omega) (range2 65 173 (by omega) (by omega)) R2)
  rw [txt_begun] at HE
  clear R2
  go_wp2_with fail
  refine (unhide HE).mono ?_
  rintro e w3 ⟨ao, cap, rfl, hr3, hx3⟩
  have hx3 : Ext w w3 := (hx2.trans (Ext.alloc w2 _)).trans hx3
  clear HE hx2 hr3
  go_wp2
  go_ret
  exact ⟨rfl, hx3⟩

set_option maxHeartbeats 400000 in
theorem maps_walk (FM : FMap) (FT : FText) (r : Int) (hr : -2147483648 ≤ r ∧ r ≤ 2147483647) (w : World) (tb : Tabs w) : Calls Tryd.prog 3 #[R r] w fun e w' => e = .returned (.bool true) ∧ Below w.heap.size w w' := by
  have HB := hide (begun_yes FM FT w tb)
  have TB := hide (tabs_on tb)
  clear tb
  have HM := hide (fun w tb => FM r w tb hr)
  have HR := hide (fun w => rmap_any r w hr)
  clear FM FT
  generalize mpo r = y at *
  generalize mpk r = k at *
  go_enter Tryd.func3, Tryd.ntmps3
  go_wp2_with fail
  refine (unhide HB).mono ?_
  rintro e w1 ⟨rfl, hx1⟩
  go_wp2_with fail
  refine (unhide HM _ (unhide TB _ hx1)).mono ?_
  rintro e w2 ⟨rfl, hx2⟩
  have hx2 := hx1.trans hx2
  go_wp2_with fail
  refine (unhide HR _).mono ?_
  rintro e w3 ⟨rfl, hw3⟩
  subst hw3
  go_wp2
  go_ret
  exact ⟨by simp, hx2⟩

set_option maxHeartbeats 400000 in
theorem stays_walk (FM : FMap) (FT : FText) (r : Int) (hr : -2147483648 ≤ r ∧ r ≤ 2147483647) (w : World) (tb : Tabs w) : Calls Tryd.prog 5 #[R r] w fun e w' => e = .returned (.bool true) ∧ Below w.heap.size w w' := by
  have HB := hide (begun_yes FM FT w tb)
  have TB := hide (tabs_on tb)
  clear tb
  have HM := hide (fun w tb => FM r w tb hr)
  have HM2 := hide (fun w tb => FM (mpo r) w tb (mp_range r hr))
  have hs := mp_stays r
  have h0 : mpk r = false → mpo r = 0 := by
    intro h
    unfold mpo
    rw [if_pos (by unfold mpk at h; simpa using h)]
  clear FM FT
  generalize mpo r = y at *
  generalize mpk r = k at *
  go_enter Tryd.func5, Tryd.ntmps5
  go_wp2_with fail
  refine (unhide HB).mono ?_
  rintro e w1 ⟨rfl, hx1⟩
  go_wp2_with fail
  refine (unhide HM _ (unhide TB _ hx1)).mono ?_
  rintro e w2 ⟨rfl, hx2⟩
  have hx2 := hx1.trans hx2
  go_wp2_with fail
  refine (unhide HM2 _ (unhide TB _ hx2)).mono ?_
  rintro e w3 ⟨rfl, hx3⟩
  have hx3 := hx2.trans hx3
  clear hx1 hx2 HM HM2 HB
  cases k
  · obtain rfl := h0 rfl
    clear hs h0
    go_wp2
    go_ret
    exact ⟨by simp, hx3⟩
  · obtain ⟨e1, e2⟩ := hs rfl
    rw [e1, e2]
    clear h0
    go_wp2
    go_ret
    exact ⟨by simp, hx3⟩
end Go.Proofs.YthfogdmddijjnaaDoor
