/-
  Which texts are addresses: some.
-/
import Derived.Test.YtclbekmihimdmaaDoorI4G
namespace Go.Proofs.YtclbekmihimdmaaDoor
set_option linter.unusedVariables false
open Go.RowKit

def goodL : List (List UInt8) := [[48], [49, 46, 50, 46, 51, 46, 52], [49, 46, 50, 46, 51], [48, 120], [48, 88, 46, 48], [52, 50, 57, 52, 57, 54, 55, 50, 57, 53], [50, 53, 53, 46, 50, 53, 53, 46, 50, 53, 53, 46, 50, 53, 53], [48, 49, 48], [49, 46, 50, 46, 51, 46, 52, 46], [48, 120, 102, 102, 46, 49, 54, 55, 55, 55, 50, 49, 53], [49, 46, 54, 53, 53, 51, 53, 46], [48, 48]]
def numL : List Nat := [0, 16909060, 16908291, 0, 0, 4294967295, 4294967295, 8, 16909060, 4294967295, 16842751, 0]
def badL : List (List UInt8) := [[], [46], [49, 46, 46, 50], [49, 46, 50, 46, 51, 46, 52, 46, 53], [50, 53, 54, 46, 49], [52, 50, 57, 52, 57, 54, 55, 50, 57, 54], [49, 46, 50, 46, 51, 46, 50, 53, 54], [48, 57], [48, 120, 103], [97], [49, 46, 49, 54, 55, 55, 55, 50, 49, 54], [49, 46, 50, 46, 54, 53, 53, 51, 54], [57, 57, 57, 57, 57, 57, 57, 57, 57, 57, 57, 57, 57, 57, 57, 57, 57, 57, 57, 57, 57, 57, 57], [45, 49], [49, 46, 50, 46, 51, 46, 52, 46, 46], [43, 49], [49, 32]]
theorem good_all : ∀ i : Fin 12, prs (goodL.getD i.val []) = some (numL.getD i.val 0) ∧ ends (goodL.getD i.val []) = true ∧ (goodL.getD i.val []).length ≤ 100000 := by decide +kernel
theorem bad_all : ∀ i : Fin 17, prs (badL.getD i.val []) = none ∧ (badL.getD i.val []).length ≤ 100000 := by decide +kernel
set_option maxHeartbeats 4000000 in
set_option maxRecDepth 100000 in
theorem forms_walk (w : World) (tb : Tb4 w) : Calls Tryd.prog 6 #[] w fun e w' => e = .returned (.bool true) ∧ Ext w w' := by
  have HB := hide (begun_yes w tb)
  have TB := hide (fun (w' : World) (hx : Ext w w') => tb.below hx)
  clear tb
  go_enter Tryd.func6, Tryd.ntmps6
  go_wp2_with fail
  refine (unhide HB).mono ?_
  rintro e w1 ⟨rfl, hx1⟩
  clear HB
  have rG : RdV (w1.alloc (.cells (goodL.map S).toArray 9 (0, 0))) (some ⟨w1.heap.size, 0, none⟩) 12 (goodL.map S) := RdV.lit w1 (goodL.map S) 9 (0, 0) (by decide)
  have xG := Ext.alloc w1 (.cells (goodL.map S).toArray 9 (0, 0))
  have sG : (w1.alloc (.cells (goodL.map S).toArray 9 (0, 0))).heap.size = w1.heap.size + 1 := by simp
  have rN := RdV.lit (w1.alloc (.cells (goodL.map S).toArray 9 (0, 0))) (numL.map fun n : Nat => Value.int .u32 (n : Int)) 22 (0, 0) (by decide)
  have xN := Ext.alloc (w1.alloc (.cells (goodL.map S).toArray 9 (0, 0))) (.cells (numL.map fun n : Nat => Value.int .u32 (n : Int)).toArray 22 (0, 0))
  rw [sG] at rN
  have rG2 := rG.below xN
  have hx2 := hx1.trans (xG.trans xN)
  clear xG xN rG sG
  have RG := hide rG2
  have RN := hide rN
  have HX := hide hx2
  clear rG2 rN hx2
  obtain ⟨w2, hw2⟩ : ∃ w2, w2 = (w1.alloc (.cells (goodL.map S).toArray 9 (0, 0))).alloc (.cells (numL.map fun n : Nat => Value.int .u32 (n : Int)).toArray 22 (0, 0)) := ⟨_, rfl⟩
  rw [← hw2] at RG RN HX
  have HW2 := hide hw2
  clear hw2
  obtain ⟨b1, hb1⟩ : ∃ b1, b1 = w1.heap.size := ⟨_, rfl⟩
  rw [← hb1] at RG RN
  have HB1 := hide hb1
  clear hb1
  go_wp2_with fail
  go_loopw [3] (fun i wr => ∃ (k : Nat), k ≤ 12 ∧ i = .int .i64 k ∧ Ext w2 wr) (fun i _ => 12 - (intOf i).toNat)
  case atStart => exact ⟨0, by omega, rfl, by rw [unhide HW2]; exact Ext.refl _⟩
  case round =>
    obtain ⟨k, hk, rfl, hxr⟩ := hrel
    rw [← unhide HB1]
    by_cases hkl : k < 12
    · have hkl' : (k : Int) < 12 := by omega
      obtain ⟨g1, g2, g3⟩ := good_all ⟨k, hkl⟩
      simp only at g1 g2 g3
      have c1 : wr.cell? ⟨b1, k, none⟩ = some (S (goodL.getD k [])) := by
        obtain ⟨b', off', eb, hc⟩ := ((unhide RG).below hxr).cell k hkl
        simp only [Option.some.injEq, Addr.mk.injEq] at eb
        obtain ⟨rfl, rfl, _⟩ := eb
        rw [Nat.zero_add] at hc
        rw [hc, List.getElem?_map, List.getElem?_eq_getElem (show k < goodL.length from hkl)]
        simp [List.getD, show k < goodL.length from hkl]
      have c2 : wr.cell? ⟨b1 + 1, k, none⟩ = some (.int .u32 ((numL.getD k 0 : Nat) : Int)) := by
        obtain ⟨b', off', eb, hc⟩ := ((unhide RN).below hxr).cell k hkl
        simp only [Option.some.injEq, Addr.mk.injEq] at eb
        obtain ⟨rfl, rfl, _⟩ := eb
        rw [Nat.zero_add] at hc
        rw [hc, List.getElem?_map, List.getElem?_eq_getElem (show k < numL.length from hkl)]
        simp [List.getD, show k < numL.length from hkl]
      have H1 := hide (parse_lit _ _ g1 g3 wr (unhide TB wr ((unhide HX).trans hxr)))
      have H2 := hide (fun v => ends_lit _ _ g2 g3 v)
      have XX := hide hxr
      have e1 : numV (some (numL.getD k 0)) = ((numL.getD k 0 : Nat) : Int) := rfl
      have e2 : perr (some (numL.getD k 0)) = 0 := rfl
      rw [e1, e2] at H1
      clear g1 g2 g3 e1 e2 hxr
      generalize goodL.getD k [] = p at *
      generalize numL.getD k 0 = n at *
      have C1 := hide (fun (v : World) (hx : Ext wr v) => (show v.cell? ⟨b1, k, none⟩ = some (S p) from (hx.cell (p := ⟨b1, k, none⟩) (cell_lt c1)).trans c1))
      have C2 := hide (fun (v : World) (hx : Ext wr v) => (show v.cell? ⟨b1 + 1, k, none⟩ = some (.int .u32 (n : Int)) from (hx.cell (p := ⟨b1 + 1, k, none⟩) (cell_lt c2)).trans c2))
      clear c2
      go_wp2_with fail
      refine (unhide H1).mono ?_
      rintro e w3 ⟨rfl, hx3⟩
      clear H1 c1
      have c1 := unhide C1 w3 hx3
      have c2 := unhide C2 w3 hx3
      go_wp2_with fail
      refine (unhide H2 _).mono ?_
      rintro e w4 ⟨rfl, hw⟩
      subst hw
      clear H2 C1 C2
      have X2 := hide ((unhide XX).trans hx3)
      clear XX hx3 c1 c2
      go_wp2
      exact ⟨⟨k + 1, by omega, by simp, unhide X2⟩, (show 12 - ((k : Int) + 1).toNat < 12 - ((k : Int)).toNat by omega)⟩
    · have hkl' : ¬ (k : Int) < 12 := by omega
      have rB := RdV.lit wr (badL.map S) 9 (0, 0) (by decide)
      have xB := Ext.alloc wr (.cells (badL.map S).toArray 9 (0, 0))
      have HY := hide (((unhide HX).trans hxr).trans xB)
      have RB := hide rB
      clear rB xB hxr
      obtain ⟨w5, hw5⟩ : ∃ w5, w5 = wr.alloc (.cells (badL.map S).toArray 9 (0, 0)) := ⟨_, rfl⟩
      rw [← hw5] at RB HY
      have HW5 := hide hw5
      clear hw5
      obtain ⟨b2, hb2⟩ : ∃ b2, b2 = wr.heap.size := ⟨_, rfl⟩
      rw [← hb2] at RB
      have HB2 := hide hb2
      clear hb2
      go_wp2_with fail
      go_loopw [7] (fun i wq => ∃ (k : Nat), k ≤ 17 ∧ i = .int .i64 k ∧ Ext w5 wq) (fun i _ => 17 - (intOf i).toNat)
      case atStart => exact ⟨0, by omega, rfl, by rw [unhide HW5]; exact Ext.refl _⟩
      case round =>
        obtain ⟨j, hj, rfl, hxq⟩ := hrel
        rw [← unhide HB2]
        by_cases hjl : j < 17
        · have hjl' : (j : Int) < 17 := by omega
          obtain ⟨g1, g3⟩ := bad_all ⟨j, hjl⟩
          simp only at g1 g3
          have c1 : wr.cell? ⟨b2, j, none⟩ = some (S (badL.getD j [])) := by
            obtain ⟨b', off', eb, hc⟩ := ((unhide RB).below hxq).cell j hjl
            simp only [Option.some.injEq, Addr.mk.injEq] at eb
            obtain ⟨rfl, rfl, _⟩ := eb
            rw [Nat.zero_add] at hc
            rw [hc, List.getElem?_map, List.getElem?_eq_getElem (show j < badL.length from hjl)]
            simp [List.getD, show j < badL.length from hjl]
          have H1 := hide (parse_lit _ _ g1 g3 wr (unhide TB wr ((unhide HY).trans hxq)))
          have XX := hide hxq
          have e1 : numV none = 0 := rfl
          have e2 : perr none = 5 := rfl
          rw [e1, e2] at H1
          clear g1 g3 e1 e2 hxq
          generalize badL.getD j [] = p at *
          go_wp2_with fail
          refine (unhide H1).mono ?_
          rintro e w6 ⟨rfl, hx6⟩
          clear H1 c1
          have X2 := hide ((unhide XX).trans hx6)
          clear XX hx6
          go_wp2
          exact ⟨⟨j + 1, by omega, by simp, unhide X2⟩, (show 17 - ((j : Int) + 1).toNat < 17 - ((j : Int)).toNat by omega)⟩
        · have hjl' : ¬ (j : Int) < 17 := by omega
          have E1 : Hid (∀ v, Calls Tryd.prog 11 #[.string ⟨#[48, 57]⟩] v fun e w' => e = .returned (.bool true) ∧ w' = v) := fun v => ends_lit [48, 57] true (by decide +kernel) (by decide) v
          have E2 : Hid (∀ v, Calls Tryd.prog 11 #[.string ⟨#[97, 46, 48, 120, 49, 102, 46]⟩] v fun e w' => e = .returned (.bool true) ∧ w' = v) := fun v => ends_lit [97, 46, 48, 120, 49, 102, 46] true (by decide +kernel) (by decide) v
          have E3 : Hid (∀ v, Calls Tryd.prog 11 #[.string ⟨#[97, 46, 48, 120, 103]⟩] v fun e w' => e = .returned (.bool false) ∧ w' = v) := fun v => ends_lit [97, 46, 48, 120, 103] false (by decide +kernel) (by decide) v
          have E4 : Hid (∀ v, Calls Tryd.prog 11 #[.string ⟨#[]⟩] v fun e w' => e = .returned (.bool false) ∧ w' = v) := fun v => ends_lit [] false (by decide +kernel) (by decide) v
          have E5 : Hid (∀ v, Calls Tryd.prog 11 #[.string ⟨#[49, 46]⟩] v fun e w' => e = .returned (.bool true) ∧ w' = v) := fun v => ends_lit [49, 46] true (by decide +kernel) (by decide) v
          have E6 : Hid (∀ v, Calls Tryd.prog 11 #[.string ⟨#[97, 46, 46]⟩] v fun e w' => e = .returned (.bool false) ∧ w' = v) := fun v => ends_lit [97, 46, 46] false (by decide +kernel) (by decide) v
          have HZ := hide ((unhide HY).trans hxq)
          clear hxq
          go_wp2_with fail
          refine (unhide E1 _).mono ?_
          rintro e w6 ⟨rfl, hw⟩
          subst hw
          go_wp2_with fail
          refine (unhide E2 _).mono ?_
          rintro e w6 ⟨rfl, hw⟩
          subst hw
          go_wp2_with fail
          refine (unhide E3 _).mono ?_
          rintro e w6 ⟨rfl, hw⟩
          subst hw
          go_wp2_with fail
          refine (unhide E4 _).mono ?_
          rintro e w6 ⟨rfl, hw⟩
          subst hw
          go_wp2_with fail
          refine (unhide E5 _).mono ?_
          rintro e w6 ⟨rfl, hw⟩
          subst hw
          go_wp2_with fail
          refine (unhide E6 _).mono ?_
          rintro e w6 ⟨rfl, hw⟩
          subst hw
          go_wp2
          go_ret
          exact ⟨rfl, unhide HZ⟩
end Go.Proofs.YtclbekmihimdmaaDoor
