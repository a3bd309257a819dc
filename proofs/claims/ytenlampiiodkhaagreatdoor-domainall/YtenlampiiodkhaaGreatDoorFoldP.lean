/-
  Plain facts of letters made alike: which code point another one is, and which are left out. Nothing is proved of the program here.
-/
import Derived.Test.YtenlampiiodkhaaGreatDoorSame
namespace Go.Proofs.YtenlampiiodkhaaGreatDoor
set_option linter.unusedVariables false
open Go.RowKit

/-- Is it left out? -/
def lost (r : Int) : Bool := decide (r = 173) || (decide (8203 ≤ r) && decide (r ≤ 8205)) || decide (r = 8288) || decide (r = 65279)
def wide (r : Int) : Int := if 65281 ≤ r ∧ r ≤ 65374 then r - 65248 else r
def small (r : Int) : Int :=
  if r = 12290 ∨ r = 65377 then 46
  else if (65 ≤ r ∧ r ≤ 90) ∨ (192 ≤ r ∧ r ≤ 222 ∧ r ≠ 215) ∨ (913 ≤ r ∧ r ≤ 937 ∧ r ≠ 930) ∨ (1040 ≤ r ∧ r ≤ 1071) then r + 32
  else if 1024 ≤ r ∧ r ≤ 1039 then r + 80
  else if 256 ≤ r ∧ r ≤ 303 then r + (1 - r % 2)
  else r
/-- The document's Map: what is told of r, and whether it is kept. -/
def mpo (r : Int) : Int := if lost r then 0 else small (wide r)
def mpk (r : Int) : Bool := !lost r

theorem lost_iff (r : Int) : lost r = true ↔ (r = 173 ∨ (8203 ≤ r ∧ r ≤ 8205) ∨ r = 8288 ∨ r = 65279) := by
  unfold lost
  simp only [Bool.or_eq_true, Bool.and_eq_true, decide_eq_true_eq]
  omega

theorem lost_false {r : Int} (h : ¬ (r = 173 ∨ (8203 ≤ r ∧ r ≤ 8205) ∨ r = 8288 ∨ r = 65279)) : lost r = false := by
  cases e : lost r
  · rfl
  · exact absurd ((lost_iff r).1 e) h

/-- What one of the six ways of 'small' gives. -/
theorem small_cases (r : Int) : ((r = 12290 ∨ r = 65377) ∧ small r = 46) ∨ (((65 ≤ r ∧ r ≤ 90) ∨ (192 ≤ r ∧ r ≤ 222 ∧ r ≠ 215) ∨ (913 ≤ r ∧ r ≤ 937 ∧ r ≠ 930) ∨ (1040 ≤ r ∧ r ≤ 1071)) ∧ small r = r + 32) ∨ ((1024 ≤ r ∧ r ≤ 1039) ∧ small r = r + 80)
    ∨ ((256 ≤ r ∧ r ≤ 303) ∧ small r = r + (1 - r % 2)) ∨ ((¬ (r = 12290 ∨ r = 65377) ∧ ¬ ((65 ≤ r ∧ r ≤ 90) ∨ (192 ≤ r ∧ r ≤ 222 ∧ r ≠ 215) ∨ (913 ≤ r ∧ r ≤ 937 ∧ r ≠ 930) ∨ (1040 ≤ r ∧ r ≤ 1071)) ∧ ¬ (1024 ≤ r ∧ r ≤ 1039) ∧ ¬ (256 ≤ r ∧ r ≤ 303)) ∧ small r = r) := by
  unfold small
  split
  · rename_i h; exact .inl ⟨h, rfl⟩
  · rename_i h0
    split
    · rename_i h; exact .inr (.inl ⟨h, rfl⟩)
    · rename_i h1
      split
      · rename_i h; exact .inr (.inr (.inl ⟨h, rfl⟩))
      · rename_i h2
        split
        · rename_i h; exact .inr (.inr (.inr (.inl ⟨h, rfl⟩)))
        · rename_i h3; exact .inr (.inr (.inr (.inr ⟨⟨h0, h1, h2, h3⟩, rfl⟩)))

theorem wide_cases (r : Int) : ((65281 ≤ r ∧ r ≤ 65374) ∧ wide r = r - 65248) ∨ (¬ (65281 ≤ r ∧ r ≤ 65374) ∧ wide r = r) := by
  unfold wide
  split
  · rename_i h; exact .inl ⟨h, rfl⟩
  · rename_i h; exact .inr ⟨h, rfl⟩

theorem stay_of (q : Int) (h1 : ¬ (65281 ≤ q ∧ q ≤ 65374)) (h2 : ¬ (q = 12290 ∨ q = 65377)) (h3 : ¬ ((65 ≤ q ∧ q ≤ 90) ∨ (192 ≤ q ∧ q ≤ 222 ∧ q ≠ 215) ∨ (913 ≤ q ∧ q ≤ 937 ∧ q ≠ 930) ∨ (1040 ≤ q ∧ q ≤ 1071))) (h4 : ¬ (1024 ≤ q ∧ q ≤ 1039)) (h5 : 256 ≤ q ∧ q ≤ 303 → q % 2 = 1) : small (wide q) = q := by
  have e : wide q = q := by unfold wide; rw [if_neg h1]
  rw [e]
  unfold small
  rw [if_neg h2, if_neg h3, if_neg h4]
  split
  · rename_i h
    have := h5 h
    omega
  · rfl

def Lost (q : Int) : Prop := q = 173 ∨ (8203 ≤ q ∧ q ≤ 8205) ∨ q = 8288 ∨ q = 65279

theorem key1 (z : Int) (hs : z = 12290 ∨ z = 65377) : ¬ Lost 46 ∧ small (wide 46) = 46 := by
  unfold Lost
  exact ⟨by omega, stay_of _ (by omega) (by omega) (by omega) (by omega) (by omega)⟩
theorem key2 (z : Int) (hs : (65 ≤ z ∧ z ≤ 90) ∨ (192 ≤ z ∧ z ≤ 222 ∧ z ≠ 215) ∨ (913 ≤ z ∧ z ≤ 937 ∧ z ≠ 930) ∨ (1040 ≤ z ∧ z ≤ 1071)) : ¬ Lost (z + 32) ∧ small (wide (z + 32)) = z + 32 := by
  unfold Lost
  exact ⟨by omega, stay_of _ (by omega) (by omega) (by omega) (by omega) (by omega)⟩
theorem key3 (z : Int) (hs : 1024 ≤ z ∧ z ≤ 1039) : ¬ Lost (z + 80) ∧ small (wide (z + 80)) = z + 80 := by
  unfold Lost
  exact ⟨by omega, stay_of _ (by omega) (by omega) (by omega) (by omega) (by omega)⟩
theorem key4 (z : Int) (hs : 256 ≤ z ∧ z ≤ 303) : ¬ Lost (z + (1 - z % 2)) ∧ small (wide (z + (1 - z % 2))) = z + (1 - z % 2) := by
  unfold Lost
  exact ⟨by omega, stay_of _ (by omega) (by omega) (by omega) (by omega) (by omega)⟩

theorem small_stays (z : Int) (hw : ¬ (65281 ≤ z ∧ z ≤ 65374)) (hn : ¬ Lost z) : ¬ Lost (small z) ∧ small (wide (small z)) = small z := by
  rcases small_cases z with ⟨hs, es⟩ | ⟨hs, es⟩ | ⟨hs, es⟩ | ⟨hs, es⟩ | ⟨hs, es⟩
  · rw [es]; exact key1 z hs
  · rw [es]; exact key2 z hs
  · rw [es]; exact key3 z hs
  · rw [es]; exact key4 z hs
  · rw [es]
    obtain ⟨h2, h3, h4, h5⟩ := hs
    exact ⟨hn, stay_of z hw h2 h3 h4 fun h => absurd h h5⟩

theorem mpo_of {r : Int} (h : lost r = false) : mpo r = small (wide r) := by
  unfold mpo
  rw [if_neg (by rw [h]; simp)]
theorem mpk_of {r : Int} (h : lost r = false) : mpk r = true := by
  unfold mpk
  rw [h, Bool.not_false]

/-- What was mapped is mapped to itself. -/
theorem mp_stays (r : Int) (h : mpk r = true) : mpk (mpo r) = true ∧ mpo (mpo r) = mpo r := by
  have hl : lost r = false := by simpa [mpk] using h
  have hn : ¬ Lost r := by
    intro e
    rw [(lost_iff r).2 e] at hl
    cases hl
  rw [mpo_of hl]
  have key : ¬ Lost (small (wide r)) ∧ small (wide (small (wide r))) = small (wide r) := by
    rcases wide_cases r with ⟨hw, ew⟩ | ⟨hw, ew⟩
    · rw [ew]
      exact small_stays _ (by omega) (by unfold Lost; omega)
    · rw [ew]
      exact small_stays _ hw hn
  obtain ⟨k1, k2⟩ := key
  have k3 := lost_false k1
  exact ⟨mpk_of k3, by rw [mpo_of k3]; exact k2⟩

theorem mp_range (r : Int) (h : -2147483648 ≤ r ∧ r ≤ 2147483647) : -2147483648 ≤ mpo r ∧ mpo r ≤ 2147483647 := by
  unfold mpo
  split
  · omega
  · rcases wide_cases r with ⟨hw, ew⟩ | ⟨hw, ew⟩ <;> rw [ew] <;>
    rcases small_cases (wide r) with ⟨hs, es⟩ | ⟨hs, es⟩ | ⟨hs, es⟩ | ⟨hs, es⟩ | ⟨hs, es⟩ <;> rw [ew] at hs es <;> rw [es] <;> omega

/-- The document's Text. -/
def txt : List Int → List Int
  | [] => []
  | r :: l => if mpk r then mpo r :: txt l else txt l

theorem txt_app (a b : List Int) : txt (a ++ b) = txt a ++ txt b := by
  induction a with
  | nil => rfl
  | cons r l ih =>
    rw [List.cons_append, txt, txt]
    split
    · rw [ih]; rfl
    · exact ih
theorem txt_snoc (a : List Int) (r : Int) : txt (a ++ [r]) = txt a ++ (if mpk r then [mpo r] else []) := by
  rw [txt_app]
  congr 1
theorem txt_len (a : List Int) : (txt a).length ≤ a.length := by
  induction a with
  | nil => simp [txt]
  | cons r l ih =>
    rw [txt]
    split <;> simp <;> omega
theorem txt_txt (a : List Int) : txt (txt a) = txt a := by
  induction a with
  | nil => rfl
  | cons r l ih =>
    rw [txt]
    split
    · rename_i h
      obtain ⟨h1, h2⟩ := mp_stays r h
      rw [txt, if_pos h1, h2, ih]
    · exact ih
theorem txt_range {a : List Int} (h : ∀ r ∈ a, -2147483648 ≤ r ∧ r ≤ 2147483647) : ∀ r ∈ txt a, -2147483648 ≤ r ∧ r ≤ 2147483647 := by
  induction a with
  | nil => simp [txt]
  | cons x l ih =>
    have ih := ih fun r hr => h r (List.mem_cons_of_mem _ hr)
    rw [txt]
    split
    · intro r hr
      rcases List.mem_cons.1 hr with rfl | hr
      · exact mp_range x (h x (List.mem_cons_self ..))
      · exact ih r hr
    · exact ih
end Go.Proofs.YtenlampiiodkhaaGreatDoor
