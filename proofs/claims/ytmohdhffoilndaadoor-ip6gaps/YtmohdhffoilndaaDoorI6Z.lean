/-
  A row of pieces that comes in.
-/
import Derived.Test.YtmohdhffoilndaaDoorI6J
namespace Go.Proofs.YtmohdhffoilndaaDoor
set_option linter.unusedVariables false
open Go.RowKit

theorem bounds_u16 {n : Int} (h : (Lit.int .u16 n).wf = true) : 0 ≤ n ∧ n < 65536 := by
  simp [Lit.wf, IntKind.bits, IntKind.signed, IntKind.min, IntKind.max] at h
  omega
/-- An argument of pieces reads as pieces. -/
theorem rd_u16 {w : World} {a : Option Addr} {len cap : Nat} {zs : List Int}
    (h : (a = none ∧ len = 0 ∧ cap = 0 ∧ zs = []) ∨ ∃ x, a = some x ∧ len ≤ cap ∧ cap ≤ maxLen ∧ zs.length = cap ∧ (∀ i, i < zs.length → w.cell? (x.add i) = some (.int .u16 (zs.getD i 0))) ∧ ∀ n ∈ zs, (Lit.int .u16 n).wf = true) :
    ∃ l : List Nat, l.length = len ∧ small l ∧ RdV w a cap (l.map U) := by
  rcases h with ⟨rfl, rfl, rfl, rfl⟩ | ⟨x, rfl, hl, hm, hz, hc, hw⟩
  · exact ⟨[], rfl, fun v hv => absurd hv (by simp), RdV.nothing w⟩
  · refine ⟨(zs.take len).map Int.toNat, by simp; omega, fun v hv => ?_, ⟨by simp; omega, by unfold maxLen at hm; omega, fun e => (by cases e), fun i hi => ?_⟩⟩
    · obtain ⟨z, hz', rfl⟩ := List.mem_map.1 hv
      have := bounds_u16 (hw z (List.mem_of_mem_take hz'))
      omega
    · have hi' : i < len ∧ i < zs.length := by simp at hi; omega
      have hci := hc i hi'.2
      obtain ⟨b, off, spot⟩ := x
      have hs : spot = none := by simpa [Addr.add] using World.cell?_spot (hc 0 (by omega))
      subst hs
      refine ⟨b, off, rfl, ?_⟩
      have hb := bounds_u16 (hw (zs.getD i 0) (by simp [List.getD, hi'.2]))
      rw [Addr.add_lit] at hci
      rw [hci]
      have e : zs.getD i 0 = zs[i]'hi'.2 := by simp [List.getD, hi'.2]
      rw [List.getElem?_map, List.getElem?_map, List.getElem?_take_of_lt hi'.1, List.getElem?_eq_getElem hi'.2]
      simp only [Option.map_some, U]
      rw [e] at hb ⊢
      congr 2
      omega
end Go.Proofs.YtmohdhffoilndaaDoor
