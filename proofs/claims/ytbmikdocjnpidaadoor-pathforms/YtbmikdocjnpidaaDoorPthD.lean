/-
  Show of package path.
-/
import Derived.Test.YtbmikdocjnpidaaDoorPthC
namespace Go.Proofs.YtbmikdocjnpidaaDoor
set_option linter.unusedVariables false
open Go.RowKit Go.Shelf

theorem shw_snoc (l : List (List UInt8)) (x : List UInt8) : shw (l ++ [x]) = shw l ++ 47 :: x := by simp [shw]
theorem shw_le (l : List (List UInt8)) (k : Nat) : (shw (l.take k)).length ≤ (shw l).length := by
  have h := congrArg List.length (congrArg shw (List.take_append_drop k l))
  have e : shw (l.take k ++ l.drop k) = shw (l.take k) ++ shw (l.drop k) := by unfold shw; rw [List.flatMap_append]
  rw [e, List.length_append] at h
  omega

set_option maxHeartbeats 1000000 in
theorem show_any (ao : Option Addr) (cap : Nat) (ps : List (List UInt8)) (w : World) (hs : (shw ps).length ≤ 100000000) (h : RdV w ao cap (ps.map S)) :
    Calls Tryd.prog 16 #[.slice ao ps.length cap] w fun e w' => e = .returned (S (shw ps)) ∧ Ext w w' := by
  have hle := h.le
  have hmx := h.max
  simp only [List.length_map] at hle
  have h0 : Lib.IsBuilderF 45 5 w.heap.size w.heap.size [] (w.alloc (.cells #[.pointer none, .slice none 0 0] 45)) := Lib.IsBuilderF.of (Lib.fresh_isBuilder 45 5 w)
  have b0 : Below w.heap.size w (w.alloc (.cells #[.pointer none, .slice none 0 0] 45)) := (Below.refl _ w).alloc (Nat.le_refl _) _
  have ST : Hid (∃ k : Nat, k ≤ ps.length ∧ Value.int .i64 0 = .int .i64 (k : Int) ∧ Lib.IsBuilderF 45 5 w.heap.size w.heap.size (Lib.byteCells (shw (ps.take k))) (w.alloc (.cells #[.pointer none, .slice none 0 0] 45)) ∧ Below w.heap.size w (w.alloc (.cells #[.pointer none, .slice none 0 0] 45))) :=
    ⟨0, by omega, rfl, h0, b0⟩
  have HR := hide h
  clear h h0 b0
  go_enter Tryd.func16, Tryd.ntmps16
  go_wp2
  go_loopw [8] (fun i wr => ∃ k : Nat, k ≤ ps.length ∧ i = .int .i64 (k : Int) ∧ Lib.IsBuilderF 45 5 w.heap.size w.heap.size (Lib.byteCells (shw (ps.take k))) wr ∧ Below w.heap.size w wr) (fun i _ => ps.length - (intOf i).toNat)
  case atStart => exact unhide ST
  case round =>
    clear ST
    obtain ⟨k, hk, rfl, hB, hbr⟩ := hrel
    by_cases hkl : k < ps.length
    · obtain ⟨b, off, rfl, hc⟩ := (unhide HR).cells (by simp; omega)
      have c0 : wr.cell? ⟨b, off + k, none⟩ = some (S (ps.getD k [])) := by
        have := hc k (by simpa using hkl)
        rw [show (ps.map S)[k]? = some (S (ps.getD k [])) by simp [List.getD, hkl]] at this
        rw [← this]
        exact hbr.cell (p := ⟨b, off + k, none⟩) (cell_lt this)
      have hkl' : (k : Int) < (ps.length : Int) := by omega
      have HT : Hid (shw (ps.take (k + 1)) = shw (ps.take k) ++ 47 :: ps.getD k []) := by
        rw [take_snoc ps k [] hkl, shw_snoc]
        rfl
      have hL : (shw (ps.take (k + 1))).length ≤ 100000000 := Nat.le_trans (shw_le ps (k + 1)) hs
      rw [unhide HT, List.length_append, List.length_cons] at hL
      clear hc HR
      generalize ps.getD k [] = p at *
      generalize shw (ps.take k) = L at *
      have hW := hide (bwrite w.heap.size w.heap.size (Lib.byteCells L) ⟨#[47]⟩ wr hB (by rw [Lib.byteCells_length]; show L.length + 1 ≤ _; omega) hbr.size)
      clear hB
      go_wp2_with fail
      refine (unhide hW).mono ?_
      rintro e w1 ⟨rfl, h1, b1, _⟩
      clear hW
      have h1' : Lib.IsBuilderF 45 5 w.heap.size w.heap.size (Lib.byteCells (L ++ [47])) w1 := by
        rw [Lib.strCells_eq, ← Lib.byteCells_append] at h1
        exact Or.inr h1
      have bb1 := hbr.trans b1
      have hW2 := hide (bwrite w.heap.size w.heap.size (Lib.byteCells (L ++ [47])) ⟨p.toArray⟩ w1 h1' (by rw [Lib.byteCells_length, size_S, List.length_append, List.length_singleton]; omega) bb1.size)
      clear h1 h1' b1 hbr c0
      go_wp2_with fail
      refine (unhide hW2).mono ?_
      rintro e w2 ⟨rfl, h2, b2, _⟩
      clear hW2
      have FF : Hid ((∃ k' : Nat, k' ≤ ps.length ∧ Value.int .i64 ((k : Int) + 1) = .int .i64 (k' : Int) ∧ Lib.IsBuilderF 45 5 w.heap.size w.heap.size (Lib.byteCells (shw (ps.take k'))) w2 ∧ Below w.heap.size w w2) ∧ ps.length - ((k : Int) + 1).toNat < ps.length - k) := by
        refine ⟨⟨k + 1, by omega, by simp, ?_, bb1.trans b2⟩, by omega⟩
        rw [unhide HT]
        rw [Lib.strCells_eq, ← Lib.byteCells_append] at h2
        have e : L ++ 47 :: p = L ++ [47] ++ p := by simp
        rw [e]
        exact Or.inr h2
      clear h2 b2 bb1 HT
      go_wp2
      exact unhide FF
    · have hk2 : k = ps.length := by omega
      subst hk2
      rw [List.take_length] at hB
      have HS := hide (Tryd.Builder_String_any_k w.heap.size w.heap.size (shw ps) wr hB hbr.size)
      have hbr' := hbr
      clear hB HR
      obtain ⟨R, hR⟩ : ∃ R, R = shw ps := ⟨_, rfl⟩
      rw [← hR] at HS
      go_wp2_with fail
      refine (unhide HS).mono ?_
      rintro e w1 ⟨rfl, _, b1, _⟩
      clear HS
      have FF : Hid (Ext w w1) := hbr'.trans b1
      clear hbr hbr' b1
      go_wp2
      go_ret
      exact ⟨by rw [← hR]; rfl, unhide FF⟩
end Go.Proofs.YtbmikdocjnpidaaDoor
