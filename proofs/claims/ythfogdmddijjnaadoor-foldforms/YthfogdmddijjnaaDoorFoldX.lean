/-
  The walk of FoldForms, over what Map and Text of package fold tell.
-/
import Derived.Test.YthfogdmddijjnaaDoorFoldW
namespace Go.Proofs.YthfogdmddijjnaaDoor
set_option linter.unusedVariables false
open Go.RowKit

def fromL : List Int := [65, 90, 91, 64, 192, 215, 222, 223, 256, 257, 302, 304, 913, 930, 937, 938, 1024, 1039, 1040, 1071, 1072, 12290, 65294, 65313, 65377, 65375, -1]
def toL : List Int := [97, 122, 91, 64, 224, 215, 254, 223, 257, 257, 303, 304, 945, 930, 969, 938, 1104, 1119, 1072, 1103, 1072, 46, 46, 97, 46, 65375, -1]

theorem forms_ok : ∀ j : Fin 27, mpk (fromL.getD j.val 0) = true ∧ mpo (fromL.getD j.val 0) = toL.getD j.val 0 ∧ -2147483648 ≤ fromL.getD j.val 0 ∧ fromL.getD j.val 0 ≤ 2147483647 := by decide +kernel
theorem out_ok : txt [173, 8203, 8205, 8288, 65279] = [] := by decide +kernel
theorem out_range : ∀ r ∈ ([173, 8203, 8205, 8288, 65279] : List Int), -2147483648 ≤ r ∧ r ≤ 2147483647 := by decide +kernel

def wF (w : World) : World := w.alloc (.cells #[.int .i32 65, .int .i32 90, .int .i32 91, .int .i32 64, .int .i32 192, .int .i32 215, .int .i32 222, .int .i32 223, .int .i32 256, .int .i32 257, .int .i32 302, .int .i32 304, .int .i32 913, .int .i32 930, .int .i32 937, .int .i32 938, .int .i32 1024, .int .i32 1039, .int .i32 1040, .int .i32 1071, .int .i32 1072, .int .i32 12290, .int .i32 65294, .int .i32 65313, .int .i32 65377, .int .i32 65375, .int .i32 (-1)] 21)
def wT (w : World) : World := w.alloc (.cells #[.int .i32 97, .int .i32 122, .int .i32 91, .int .i32 64, .int .i32 224, .int .i32 215, .int .i32 254, .int .i32 223, .int .i32 257, .int .i32 257, .int .i32 303, .int .i32 304, .int .i32 945, .int .i32 930, .int .i32 969, .int .i32 938, .int .i32 1104, .int .i32 1119, .int .i32 1072, .int .i32 1103, .int .i32 1072, .int .i32 46, .int .i32 46, .int .i32 97, .int .i32 46, .int .i32 65375, .int .i32 (-1)] 21)
theorem rd_from (w : World) : RdV (wF w) (some ⟨w.heap.size, 0, none⟩) 27 (fromL.map R) := RdV.lit w (fromL.map R) 21 (0, 0) (show 27 ≤ 9223372036854775807 by omega)
theorem rd_to (w : World) : RdV (wT w) (some ⟨w.heap.size, 0, none⟩) 27 (toL.map R) := RdV.lit w (toL.map R) 21 (0, 0) (show 27 ≤ 9223372036854775807 by omega)
theorem ext_wF (w : World) : Ext w (wF w) := Ext.alloc w _
theorem ext_wT (w : World) : Ext w (wT w) := Ext.alloc w _
theorem size_wF (w : World) : (wF w).heap.size = w.heap.size + 1 := by
  show (w.heap.push _).size = _
  simp

theorem row_cell {w : World} {g : Nat} {ls : List Int} (h : RdV w (some ⟨g, 0, none⟩) 27 (ls.map R)) (hl : ls.length = 27) (k : Nat) (hk : k < 27) : w.cell? ⟨g, k, none⟩ = some (R (ls.getD k 0)) := by
  obtain ⟨b, off, e, hc⟩ := h.cells (by simp; omega)
  simp only [Option.some.injEq, Addr.mk.injEq] at e
  obtain ⟨rfl, rfl, _⟩ := e
  have := hc k (by simp; omega)
  rw [Nat.zero_add] at this
  rw [this, getR ls k (by omega)]

set_option maxHeartbeats 800000 in
theorem forms_walk (FM : FMap) (FT : FText) (w : World) (tb : Tabs w) : Calls Tryd.prog 6 #[] w fun e w' => e = .returned (.bool true) ∧ Below w.heap.size w w' := by
  have HB := hide (begun_yes FM FT w tb)
  have TB := hide (tabs_on tb)
  clear tb
  have HM := hide FM
  have HT := hide FT
  clear FM FT
  go_enter Tryd.func6, Tryd.ntmps6
  go_wp2_with fail
  refine (unhide HB).mono ?_
  rintro e w1 ⟨rfl, hx1⟩
  clear HB
  go_wp2_with fail
  have hF := (rd_from w1).below (ext_wT (wF w1))
  have hT := rd_to (wF w1)
  have hxL := (hx1.trans (ext_wF w1)).trans (ext_wT (wF w1))
  rw [size_wF] at hT
  change Code.wp _ _ _ _ (wT (wF w1))
  generalize wT (wF w1) = wL at *
  generalize hg : w1.heap.size + 1 = gt at *
  generalize w1.heap.size = gf at *
  clear hx1 hg
  go_loopw [3] (fun i wr => ∃ j : Nat, j ≤ 27 ∧ i = .int .i64 j ∧ Ext wL wr) (fun i _ => 27 - (intOf i).toNat)
  case atStart => exact ⟨0, by omega, rfl, Ext.refl _⟩
  case round =>
    obtain ⟨j, hj, rfl, hxr⟩ := hrel
    by_cases hjl : j < 27
    · have c1 := row_cell (hF.below hxr) rfl j hjl
      have hc2 := fun (w' : World) (hx : Ext wL w') => row_cell (hT.below hx) rfl j hjl
      obtain ⟨f1, f2, f3⟩ := forms_ok ⟨j, hjl⟩
      simp only at f1 f2 f3
      have HC := hide hc2
      clear hc2
      have HX := hide (fun w tb => unhide HM (fromL.getD j 0) w tb f3)
      rw [f1, f2] at HX
      clear f1 f2 f3 hF hT
      generalize fromL.getD j 0 = a at *
      generalize toL.getD j 0 = b at *
      go_wp2_with fail
      refine (unhide HX _ (unhide TB _ (hxL.trans hxr))).mono ?_
      rintro e w2 ⟨rfl, hx2⟩
      have hx2 := hxr.trans hx2
      have c2 := unhide HC w2 hx2
      clear HX HC c1 hxr
      go_wp2
      go_roundw
      case rel => exact ⟨j + 1, by omega, by go_num, hx2⟩
      case measure => simp [intOf]; omega
    · have hx3 := hxL.trans hxr
      clear hF hT hxL hxr
      have R5 : RdV (wr.alloc (.cells #[.int .i32 173, .int .i32 8203, .int .i32 8205, .int .i32 8288, .int .i32 65279] 21)) (some ⟨wr.heap.size, 0, none⟩) 5 (([173, 8203, 8205, 8288, 65279] : List Int).map R) := RdV.lit wr (([173, 8203, 8205, 8288, 65279] : List Int).map R) 21 (0, 0) (show 5 ≤ 9223372036854775807 by omega)
      have HE := hide (unhide HT _ 5 5 [173, 8203, 8205, 8288, 65279] _ (unhide TB _ (hx3.trans (Ext.alloc wr _))) rfl (by omega) out_range R5)
      rw [out_ok] at HE
      clear R5 HT HM
      go_wp2_with fail
      refine (unhide HE).mono ?_
      rintro e w4 ⟨ao, cap, rfl, hr4, hx4⟩
      have hx4 := (hx3.trans (Ext.alloc wr _)).trans hx4
      clear HE hr4
      go_wp2
      go_ret
      exact ⟨rfl, hx4⟩
end Go.Proofs.YthfogdmddijjnaaDoor
