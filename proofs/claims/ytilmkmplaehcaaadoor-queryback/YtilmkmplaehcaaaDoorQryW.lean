/-
  What was asked of package query is so; what arguments of pairs are.
-/
import Derived.Test.YtilmkmplaehcaaaDoorQryU
import Derived.Test.YtilmkmplaehcaaaDoorQryV
import Derived.Deep.SlicePairs
import Derived.ChangeArms
namespace Go.Proofs.YtilmkmplaehcaaaDoor
set_option linter.unusedVariables false
open Go.RowKit Go.ChangeShapes Go.WideShapes

theorem parse_ok : ParseOk := parse_any
theorem show_ok : ShowOk := show_any

theorem open_pairs {H : Type} {enc : TypeId × Value → H} {W : World} {a : Option Addr} {len cap : Nat} {d : DataW H} {p : List MemPlace} (h : DataW.Trod enc Tryd.prog W 0 (fun _ => true) true 22 (.slice a len cap) d p) :
    ∃ ps : List Pr, ps.length = len ∧ RdP W a cap ps := by
  obtain ⟨fuel, hf⟩ := h
  rcases Go.Deep.open_slice_pairs Tryd.underlying22 Tryd.underlying25 (by kernel_rfl) (by kernel_rfl) (by kernel_rfl) (by kernel_rfl) (by kernel_rfl) hf with ⟨hcs, hx⟩ | ⟨x, l, c, m, n, V0, V1, D0, D1, P0, P1, hcs, _, hl, hm, hmm, hx, hcell⟩
  · simp [Value.cells] at hcs
    obtain ⟨rfl, rfl, rfl⟩ := hcs
    exact ⟨[], rfl, RdP.nothing W⟩
  · simp [Value.cells] at hcs
    obtain ⟨rfl, e2, e3⟩ := hcs
    simp only [if_true] at hmm
    have each : ∀ i, i < m → ∃ q : Pr, V0 i = S q.1 ∧ V1 i = S q.2 := by
      intro i hi
      obtain ⟨_, _, h0, h1⟩ := hcell i hi
      obtain ⟨s0, k0, _, _⟩ := DataW.trod_string Tryd.underlying9 h0
      obtain ⟨s1, k1, _, _⟩ := DataW.trod_string Tryd.underlying9 h1
      exact ⟨(s0.data.toList, s1.data.toList), by simpa [S] using k0, by simpa [S] using k1⟩
    obtain ⟨q, hq⟩ := Go.Deep.choose_lt each
    obtain ⟨b, off, spot⟩ := x
    refine ⟨(List.range len).map q, by simp, ⟨by simp; omega, by unfold maxLen at hm; omega, fun e => (by cases e), fun i hi => ?_⟩⟩
    have hi' : i < len := by simpa using hi
    obtain ⟨h0, h1, _, _⟩ := hcell i (by omega)
    have hs : spot = none := by simpa [Addr.add] using World.cell?_spot (hcell 0 (by omega)).1
    subst hs
    refine ⟨b, off, rfl, ?_, ?_⟩
    · rw [Addr.add_lit] at h0
      rw [h0, (hq i (by omega)).1]
      simp [List.getD, hi']
    · rw [Addr.add_lit] at h1
      rw [Nat.add_assoc, h1, (hq i (by omega)).2]
      simp [List.getD, hi']
end Go.Proofs.YtilmkmplaehcaaaDoor
