/-
  What query stands on: the Builder's writing, texts cut at a byte, plus signs as spaces; a name or a value as what it stands for.
-/
import Derived.Test.YtilmkmplaehcaaaDoorQryF
import Derived.Test.YtilmkmplaehcaaaDoorQryC
import Derived.Test.YtilmkmplaehcaaaDoorCut
import Derived.Test.YtilmkmplaehcaaaDoorU8
import Derived.Test.YtilmkmplaehcaaaDoorPctD
import Derived.Test.YtilmkmplaehcaaaDoorShelf
import Derived.Laws.IdiomStrings
import Derived.Lib.ReplaceLaws
import Derived.Lib.Replace
namespace Go.Proofs.YtilmkmplaehcaaaDoor
set_option linter.unusedVariables false
open Go.RowKit Go.Shelf

/-- What strings.Cut tells, at one byte. -/
theorem cutq_any (c : UInt8) (s : List UInt8) (w : World) (hs : s.length ≤ 1000000) (hM : MaxL w) :
    Calls Tryd.prog 15 #[S s, .string ⟨#[c]⟩] w fun e w' => ∃ more : Bool, e = .returned (.tuple #[S (cut1 c s).1, S (cut1 c s).2, .bool more]) ∧ (∃ n, w' = w.drewN n) ∧
      ((more = false ∧ pcs c s = [(cut1 c s).1]) ∨ (more = true ∧ pcs c s = (cut1 c s).1 :: pcs c (cut1 c s).2 ∧ (cut1 c s).2.length < s.length)) := by
  obtain ⟨m, hm⟩ := hM
  refine (Tryd.strings_Cut ⟨s.toArray⟩ ⟨#[c]⟩ m w (by rw [size_S]; omega) hm).mono ?_
  rintro e w' ⟨rfl, hw⟩
  have e0 : Lib.index s [c] = Lib.indexByte s c := Lib.index_one s c
  have hg := Lib.indexByte_ge s c
  have hl := Lib.index_le s [c]
  by_cases h : Lib.indexByte s c = -1
  · have e1 : Lib.cut s [c] = (s, [], false) := by
      unfold Lib.cut
      rw [e0, h, if_neg (by omega)]
    refine ⟨false, ?_, hw, .inl ⟨rfl, ?_⟩⟩
    · show Ending.returned (.tuple #[S (Lib.cut s [c]).1, S (Lib.cut s [c]).2.1, .bool (Lib.cut s [c]).2.2]) = _
      rw [e1, cut1_miss c s h]
    · rw [cut1_miss c s h]
      exact pcs_miss c s h
  · obtain ⟨i, hi⟩ : ∃ i : Nat, Lib.indexByte s c = i := ⟨(Lib.indexByte s c).toNat, by omega⟩
    have hlt := (List.getElem?_eq_some_iff.1 (Lib.indexByte_some hi).1).1
    have e1 : Lib.cut s [c] = (s.take i, s.drop (i + 1), true) := by
      unfold Lib.cut
      rw [e0, hi, if_pos (by omega)]
      simp
    refine ⟨true, ?_, hw, .inr ⟨rfl, ?_, ?_⟩⟩
    · show Ending.returned (.tuple #[S (Lib.cut s [c]).1, S (Lib.cut s [c]).2.1, .bool (Lib.cut s [c]).2.2]) = _
      rw [e1, cut1_hit c s i hi]
    · rw [cut1_hit c s i hi]
      exact pcs_hit c s i hi
    · rw [cut1_hit c s i hi, List.length_drop]
      omega

theorem plus_same (s : List UInt8) (h : ∀ x ∈ s, x ≠ 43) : s.map Pct.plus = s := by
  induction s with
  | nil => rfl
  | cons x r ih =>
    rw [List.map_cons, ih fun y hy => h y (by simp [hy])]
    congr 1
    have := h x (by simp)
    unfold Pct.plus
    rw [if_neg this]
theorem replq_k : ∀ (k : Nat) (s : List UInt8), Lib.count s [43] = k → Lib.replaceK [43] [32] k s = s.map Pct.plus
  | 0, s, h => by
    rw [Lib.replaceK, plus_same s fun x hx => ?_]
    rintro rfl
    by_cases hm : Lib.indexByte s 43 = -1
    · obtain ⟨k, hk⟩ := List.getElem?_of_mem hx
      exact Lib.indexByte_none hm k hk
    · have hg := Lib.indexByte_ge s 43
      obtain ⟨i, hi⟩ : ∃ i : Nat, Lib.indexByte s 43 = i := ⟨(Lib.indexByte s 43).toNat, by omega⟩
      have := Lib.count_hit (s := s) (sub := [43]) (i := i) (by simp) (by rw [Lib.index_one]; exact hi)
      omega
  | k + 1, s, h => by
    have hg := Lib.indexByte_ge s 43
    by_cases hm : Lib.indexByte s 43 = -1
    · have := Lib.count_miss (s := s) (sub := [43]) (by rw [Lib.index_one]; exact hm)
      omega
    · obtain ⟨i, hi⟩ : ∃ i : Nat, Lib.indexByte s 43 = i := ⟨(Lib.indexByte s 43).toNat, by omega⟩
      have hc := Lib.count_hit (s := s) (sub := [43]) (i := i) (by simp) (by rw [Lib.index_one]; exact hi)
      rw [Lib.replaceK_hit _ _ k s i (by rw [Lib.index_one]; exact hi)]
      simp only [List.length_singleton] at hc ⊢
      rw [replq_k k _ (by omega)]
      obtain ⟨hx, hn⟩ := Lib.indexByte_some hi
      have hlt := (List.getElem?_eq_some_iff.1 hx).1
      have e : s = s.take i ++ 43 :: s.drop (i + 1) := by
        have e1 := List.take_append_drop i s
        have e2 : s.drop i = 43 :: s.drop (i + 1) := by
          rw [List.drop_eq_getElem_cons hlt]
          congr 1
          have := List.getElem?_eq_getElem hlt
          rw [hx] at this
          exact (Option.some.inj this).symm
        rw [e2] at e1
        exact e1.symm
      have ht : (s.take i).map Pct.plus = s.take i := plus_same _ fun x hx2 => by
        rintro rfl
        obtain ⟨j, hj⟩ := List.getElem?_of_mem hx2
        rw [List.getElem?_take] at hj
        split at hj
        · exact hn j (by assumption) hj
        · cases hj
      conv => rhs; rw [e]
      rw [List.map_append, List.map_cons, ht]
      simp [show Pct.plus 43 = 32 by decide]
theorem replq_any (s : List UInt8) (w : World) (hs : s.length ≤ 1000000) (hM : MaxL w) :
    Calls Tryd.prog 36 #[S s, .string ⟨#[43]⟩, .string ⟨#[32]⟩] w fun e w' => e = .returned (S (s.map Pct.plus)) ∧ Ext w w' := by
  obtain ⟨m, hm⟩ := hM
  have hc : Lib.countB ⟨s.toArray⟩ ⟨#[43]⟩ ≤ s.length := by
    have := Lib.countB_mul_le ⟨#[43]⟩ (by decide) s.length ⟨s.toArray⟩ (by rw [size_S]; omega)
    have e1 : (⟨#[43]⟩ : ByteArray).size = 1 := rfl
    have e2 := size_S s
    rw [e1, e2] at this
    omega
  refine (Tryd.strings_ReplaceAll ⟨s.toArray⟩ ⟨#[43]⟩ ⟨#[32]⟩ m w (by rw [size_S]; omega) hm (by decide) (by have e1 : (⟨#[32]⟩ : ByteArray).size = 1 := rfl; have e2 := size_S s; rw [e1, e2]; omega)).mono ?_
  rintro e w' ⟨rfl, hx⟩
  refine ⟨?_, hx⟩
  have : Lib.replaceAll s [43] [32] = s.map Pct.plus := by
    unfold Lib.replaceAll Lib.replace Lib.replaceNum
    rw [if_neg (by decide), if_pos (by omega)]
    exact replq_k _ s rfl
  show Ending.returned (S (Lib.replaceAll s [43] [32])) = _
  rw [this]
end Go.Proofs.YtilmkmplaehcaaaDoor
