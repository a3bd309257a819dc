/-
  I6M.
-/
import Derived.Test.YtenlampiiodkhaaGreatDoorBXb
import Derived.OpenShut
import Derived.WideShapes
namespace Go.Proofs.YtenlampiiodkhaaGreatDoor
set_option linter.unusedVariables false
open Go.RowKit Go.ChangeShapes

theorem cells16 : Tryz.prog.cellsOf 35 = 1 := by kernel_rfl
theorem cells8t : Tryz.prog.cellsOf 36 = 8 := by kernel_rfl
set_option maxRecDepth 100000 in
theorem open8 {H : Type} {enc : TypeId × Value → H} {W : World} {base b0 : Nat} {v : Value} {d : DataW H} {p : List MemPlace} {sp : Nat → Bool} {held : Bool}
    (hv : Value.okWide Tryz.prog W .any base 36 v) (h : DataW.Trod enc Tryz.prog W b0 sp held 36 v d p) :
    ∃ a0 a1 a2 a3 a4 a5 a6 a7 : Nat, v = .agg #[U a0, U a1, U a2, U a3, U a4, U a5, U a6, U a7] ∧ i6small [a0, a1, a2, a3, a4, a5, a6, a7] := by
  obtain ⟨cs, rfl, hsz, _⟩ : ∃ cs, v = .agg cs ∧ cs.size = Tryz.prog.cellsOf 36 ∧ Row.okWide Tryz.prog W .any base 36 cs := by
    simpa [Value.okWide, Tryz.underlying36] using hv
  rw [cells8t] at hsz
  obtain ⟨l⟩ := cs
  obtain ⟨fuel, hf⟩ := h
  have hf : DataW.trod enc Tryz.prog W b0 sp held fuel 36 l = some (d, p) := by simpa [Value.cells] using hf
  obtain ⟨xs, m, _, _, _, hl, hel⟩ := DataW.trod_array Tryz.underlying36 hf
  have hll : l.length = 8 := by simpa using hsz
  have key : ∀ i, i < 8 → ∃ n : Nat, l[i]? = some (U n) ∧ n < 65536 := by
    intro i hi
    have h1 := hel i hi
    rw [cells16, Nat.mul_one] at h1
    rw [List.getElem?_eq_getElem (show i < xs.length by omega)] at h1
    rw [List.drop_eq_getElem_cons (show i < l.length by omega), List.take_succ_cons, List.take_zero] at h1
    obtain ⟨x, e0, _, wf⟩ := DataW.trod_int Tryz.underlying35 h1
    simp at e0
    have hb := bounds_u16 wf
    refine ⟨x.toNat, ?_, by omega⟩
    rw [List.getElem?_eq_getElem (show i < l.length by omega), e0]
    congr 2
    omega
  obtain ⟨a0, h0, s0⟩ := key 0 (by decide)
  obtain ⟨a1, h1, s1⟩ := key 1 (by decide)
  obtain ⟨a2, h2, s2⟩ := key 2 (by decide)
  obtain ⟨a3, h3, s3⟩ := key 3 (by decide)
  obtain ⟨a4, h4, s4⟩ := key 4 (by decide)
  obtain ⟨a5, h5, s5⟩ := key 5 (by decide)
  obtain ⟨a6, h6, s6⟩ := key 6 (by decide)
  obtain ⟨a7, h7, s7⟩ := key 7 (by decide)
  refine ⟨a0, a1, a2, a3, a4, a5, a6, a7, ?_, ?_⟩
  · match l, hll with
    | [c0, c1, c2, c3, c4, c5, c6, c7], _ =>
      simp at h0 h1 h2 h3 h4 h5 h6 h7
      rw [h0, h1, h2, h3, h4, h5, h6, h7]
  · intro v hv
    simp only [List.mem_cons, List.not_mem_nil, or_false] at hv
    rcases hv with rfl | rfl | rfl | rfl | rfl | rfl | rfl | rfl <;> assumption
end Go.Proofs.YtenlampiiodkhaaGreatDoor
