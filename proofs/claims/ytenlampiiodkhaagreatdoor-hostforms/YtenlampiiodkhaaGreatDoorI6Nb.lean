/-
  I6N.
-/
import Derived.Test.YtenlampiiodkhaaGreatDoorBXb
import Derived.Test.YtenlampiiodkhaaGreatDoorBNb
import Derived.Laws.BitsAllLaws
namespace Go.Proofs.YtenlampiiodkhaaGreatDoor
set_option linter.unusedVariables false
open Go.RowKit

/-! What is written behind so many places -/
def sW (a : List Nat) (fr en i : Nat) : List UInt8 := if i ≤ fr then jp (a.take i) else jp (a.take fr) ++ [58, 58] ++ jp ((a.take i).drop en)
def lst (s : List UInt8) : UInt8 := s.getD (s.length - 1) 0
theorem lst_app (p s : List UInt8) (h : s ≠ []) : lst (p ++ s) = lst s := by
  unfold lst
  have hl := List.length_pos_iff.2 h
  simp only [List.getD]
  rw [List.length_append, List.getElem?_append_right (by omega)]
  congr 2
  omega
theorem lst_mem (s : List UInt8) (h : s ≠ []) : lst s ∈ s := by
  have hl := List.length_pos_iff.2 h
  unfold lst
  have : s.length - 1 < s.length := by omega
  simp [List.getD, this]
theorem bdg_col (v : Nat) : noCol (bdg 16 v) := fun x hx e => by
  have := (bdg_mem 16 (by decide) (by decide) v x hx).1
  rw [e, dgV_58] at this
  omega
theorem jp_last (l : List Nat) (h : l ≠ []) : jp l ≠ [] ∧ lst (jp l) ≠ 58 := by
  obtain ⟨t, v, rfl⟩ : ∃ t v, l = t ++ [v] := ⟨l.dropLast, l.getLast h, (List.dropLast_concat_getLast h).symm⟩
  have hv : lst (bdg 16 v) ≠ 58 := bdg_col v _ (lst_mem _ (bdg_ne _ _))
  by_cases ht : t = []
  · subst ht
    exact ⟨bdg_ne _ _, hv⟩
  · rw [jp_snoc t v ht]
    exact ⟨by simp, by rw [lst_app _ _ (bdg_ne _ _)]; exact hv⟩
theorem sW_zero (a : List Nat) (fr en : Nat) : sW a fr en 0 = [] := by
  unfold sW
  rw [if_pos (Nat.zero_le _)]
  rfl
/-- A piece behind others: with a colon ahead of it, or none. -/
theorem sW_colon (a : List Nat) (fr en i : Nat) (hi : i < a.length) (h0 : 0 < i) (hv : i < fr ∨ en < i) (hfe : fr ≤ en) : sW a fr en (i + 1) = sW a fr en i ++ [58] ++ bdg 16 (a.getD i 0) ∧ sW a fr en i ≠ [] ∧ lst (sW a fr en i) ≠ 58 := by
  unfold sW
  rcases hv with hv | hv
  · rw [if_pos (show i + 1 ≤ fr by omega), if_pos (show i ≤ fr by omega), take_snoc a i 0 hi]
    have hne : a.take i ≠ [] := fun e => by
      have := congrArg List.length e
      rw [List.length_take, List.length_nil] at this
      omega
    obtain ⟨h1, h2⟩ := jp_last _ hne
    exact ⟨jp_snoc _ _ hne, h1, h2⟩
  · rw [if_neg (show ¬ i + 1 ≤ fr by omega), if_neg (show ¬ i ≤ fr by omega), take_snoc a i 0 hi]
    have hne : (a.take i).drop en ≠ [] := fun e => by
      have := congrArg List.length e
      rw [List.length_drop, List.length_take, List.length_nil] at this
      omega
    obtain ⟨h1, h2⟩ := jp_last _ hne
    rw [List.drop_append_of_le_length (by rw [List.length_take]; omega), jp_snoc _ _ hne]
    exact ⟨by simp, by simp, by rw [lst_app _ _ h1]; exact h2⟩
theorem sW_plain (a : List Nat) (fr en i : Nat) (hi : i < a.length) (hfe : fr < en ∨ fr = a.length) (h : i = 0 ∧ i < fr ∨ i = en ∧ fr < en) : sW a fr en (i + 1) = sW a fr en i ++ bdg 16 (a.getD i 0) ∧ (sW a fr en i = [] ∨ lst (sW a fr en i) = 58) := by
  unfold sW
  rcases h with ⟨h0, hv⟩ | ⟨h0, hv⟩
  · subst h0
    rw [if_pos (show 0 + 1 ≤ fr by omega), if_pos (show 0 ≤ fr by omega), take_snoc a 0 0 hi]
    exact ⟨rfl, .inl rfl⟩
  · subst h0
    rw [if_neg (show ¬ i + 1 ≤ fr by omega), if_neg (show ¬ i ≤ fr by omega), take_snoc a i 0 hi]
    have hd : (a.take i).drop i = [] := List.drop_of_length_le (by rw [List.length_take]; omega)
    rw [List.drop_append_of_le_length (by rw [List.length_take]; omega), hd]
    refine ⟨?_, .inr ?_⟩
    · show jp (a.take fr) ++ [58, 58] ++ bdg 16 (a.getD i 0) = jp (a.take fr) ++ [58, 58] ++ [] ++ bdg 16 (a.getD i 0)
      simp
    · show lst (jp (a.take fr) ++ [58, 58] ++ []) = 58
      rw [List.append_nil, lst_app _ _ (by simp)]
      rfl
theorem sW_gap (a : List Nat) (fr en : Nat) (h : fr < en) : sW a fr en en = sW a fr en fr ++ [58, 58] := by
  unfold sW
  rw [if_neg (by omega), if_pos (Nat.le_refl _), List.drop_of_length_le (by rw [List.length_take]; omega)]
  show jp (a.take fr) ++ [58, 58] ++ [] = _
  rw [List.append_nil]
theorem sW_end (a : List Nat) (h8 : a.length = 8) : sW a (rowOf (zb a)).1 (rowOf (zb a)).2 8 = shw6 a := by
  obtain ⟨h1, h2, h3, h4⟩ := row_facts a h8
  unfold sW shw6
  by_cases hlt : (rowOf (zb a)).1 < (rowOf (zb a)).2
  · rw [if_pos hlt, if_neg (by omega), List.take_of_length_le (show a.length ≤ 8 by omega)]
    simp
  · rw [if_neg hlt, (h4 hlt).1, if_pos (Nat.le_refl _), List.append_nil]
theorem sW_len (a : List Nat) (h8 : a.length = 8) (hs : i6small a) (fr en i : Nat) : (sW a fr en i).length ≤ 100 := by
  have h1 := jp_len (a.take i) (small_take hs _)
  have h2 := jp_len (a.take fr) (small_take hs _)
  have h3 := jp_len ((a.take i).drop en) (small_drop (small_take hs _) _)
  rw [List.length_take] at h1 h2
  rw [List.length_drop, List.length_take] at h3
  unfold sW
  split
  · omega
  · rw [List.length_append, List.length_append]
    simp
    omega
/-- The document's longest row, step by step: from what it was to what it is. -/
theorem drow_yes (bs : List Bool) (k z : Nat) (hz : z = runB (bs.drop k)) (h : (drow bs k).2 < z) : drow bs (k + 1) = ((k : Int), z) := by
  rw [drow, ← hz, if_pos h]
theorem drow_no (bs : List Bool) (k z : Nat) (hz : z = runB (bs.drop k)) (h : ¬ (drow bs k).2 < z) : drow bs (k + 1) = drow bs k := by
  rw [drow, ← hz, if_neg h]
theorem drow_le (bs : List Bool) : ∀ k, (drow bs k).2 ≤ bs.length + 1
  | 0 => by show 1 ≤ _; omega
  | k + 1 => by
    have ih := drow_le bs k
    have hr : ∀ l : List Bool, runB l ≤ l.length := by
      intro l
      induction l with
      | nil => exact Nat.le_refl _
      | cons b l ih => cases b <;> simp [runB]; omega
    have := hr (bs.drop k)
    rw [List.length_drop] at this
    rw [drow]
    split
    · show runB (bs.drop k) ≤ _
      omega
    · exact ih

end Go.Proofs.YtenlampiiodkhaaGreatDoor
