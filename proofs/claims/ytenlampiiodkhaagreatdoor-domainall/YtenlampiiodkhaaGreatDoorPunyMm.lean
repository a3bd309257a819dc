/-
  Plain facts for reading numbers of a changing base digit by digit, with bounds on the way: where a bound is passed nothing is read. Nothing is proved of the program here.
-/
import Derived.Test.YtenlampiiodkhaaGreatDoorMPu
namespace Go.Proofs.YtenlampiiodkhaaGreatDoor
set_option linter.unusedVariables false
open Go.RowKit

/-- What comes of a whole number T, with the digits r behind it. -/
def stepT (f n bias was : Nat) (l : List Nat) (T : Nat) (r : List Nat) : Option (List Nat) :=
  if cp (n + T / (l.length + 1)) = true ∧ l.length < 63 then rd f (n + T / (l.length + 1)) (T % (l.length + 1) + 1) (adp (T - was) (l.length + 1) (was == 0)) (ins l (T % (l.length + 1)) (n + T / (l.length + 1))) r else none
/-- What comes of a number that is read in part: i so far, the next place worth w. -/
def midT (f n bias was : Nat) (l : List Nat) (i w k : Nat) (ds : List Nat) : Option (List Nat) :=
  match vDec bias ds k with
  | none => none
  | some (v, r) => stepT f n bias was l (i + w * v) r

theorem rd_mid (f n i bias : Nat) (l ds : List Nat) (h : ds ≠ []) : rd (f + 1) n i bias l ds = midT f n bias i l i 1 36 ds := by
  cases ds with
  | nil => exact absurd rfl h
  | cons d ds =>
    rw [rd]
    unfold midT stepT
    cases vDec bias (d :: ds) 36 with
    | none => rfl
    | some p =>
      obtain ⟨v, r⟩ := p
      simp only [Nat.one_mul, Nat.add_sub_cancel_left]

theorem mid_nil (f n bias was : Nat) (l : List Nat) (i w k : Nat) : midT f n bias was l i w k [] = none := by
  unfold midT
  simp [vDec]

theorem mid_end {f n bias was : Nat} {l : List Nat} {i w k d : Nat} {ds : List Nat} (h : d < thr k bias) : midT f n bias was l i w k (d :: ds) = stepT f n bias was l (i + w * d) ds := by
  unfold midT
  rw [vDec, if_pos h]

theorem mid_more {f n bias was : Nat} {l : List Nat} {i w k d : Nat} {ds : List Nat} (h : ¬ d < thr k bias) : midT f n bias was l i w k (d :: ds) = midT f n bias was l (i + w * d) (w * (36 - thr k bias)) (k + 36) ds := by
  unfold midT
  rw [vDec, if_neg h]
  cases vDec bias ds (k + 36) with
  | none => rfl
  | some p =>
    obtain ⟨v, r⟩ := p
    simp only [Option.map_some]
    rw [show i + w * (d + (36 - thr k bias) * v) = i + w * d + w * (36 - thr k bias) * v by rw [Nat.mul_add, ← Nat.mul_assoc, Nat.add_assoc]]

/-- A number too great is no code point. -/
theorem step_big {f n bias was : Nat} {l : List Nat} {T : Nat} {r : List Nat} (h : 71303168 ≤ T) : stepT f n bias was l T r = none := by
  unfold stepT
  rw [if_neg]
  rintro ⟨h1, h2⟩
  have h3 : n + T / (l.length + 1) ≤ 1114111 := by
    unfold cp at h1
    simp at h1
    omega
  have h4 : T / 64 ≤ T / (l.length + 1) := Nat.div_le_div_left (by omega) (by omega)
  omega

theorem mid_big {f n bias was : Nat} {l : List Nat} {i w k : Nat} {ds : List Nat} (h : 71303168 ≤ i) : midT f n bias was l i w k ds = none := by
  unfold midT
  cases vDec bias ds k with
  | none => rfl
  | some p =>
    obtain ⟨v, r⟩ := p
    exact step_big (Nat.le_trans h (Nat.le_add_right _ _))

theorem vDec_ge {bias k d v : Nat} {ds r : List Nat} (h : vDec bias (d :: ds) k = some (v, r)) : d ≤ v := by
  rw [vDec] at h
  split at h
  · simp only [Option.some.injEq, Prod.mk.injEq] at h
    omega
  · cases hv : vDec bias ds (k + 36) with
    | none => rw [hv] at h; simp at h
    | some p =>
      rw [hv] at h
      simp only [Option.map_some, Option.some.injEq, Prod.mk.injEq] at h
      rw [← h.1]
      exact Nat.le_add_right _ _

theorem mid_digit {f n bias was : Nat} {l : List Nat} {i w k d : Nat} {ds : List Nat} (h : 71303168 ≤ i + w * d) : midT f n bias was l i w k (d :: ds) = none := by
  unfold midT
  cases hv : vDec bias (d :: ds) k with
  | none => rfl
  | some p =>
    obtain ⟨v, r⟩ := p
    exact step_big (Nat.le_trans h (Nat.add_le_add_left (Nat.mul_le_mul_left _ (vDec_ge hv)) _))

/-- What is worth more than it was read for is great already. -/
theorem weight_big {i w : Nat} (hw : w = 1 ∨ w ≤ 35 * i) (h : 1099511627776 < w) : 71303168 ≤ i := by omega
theorem weight_next {i w d t : Nat} (hd : t ≤ d) (ht : 1 ≤ t) : w * (36 - t) ≤ 35 * (i + w * d) := by
  have h1 : w * (36 - t) ≤ w * 35 := Nat.mul_le_mul_left _ (by omega)
  have h2 : w * 1 ≤ w * d := Nat.mul_le_mul_left _ (by omega)
  omega
/-- A digit that goes past the bound. -/
theorem digit_big {i w d : Nat} (hw : 1 ≤ w) (hi : i ≤ 1125899906842624) (h : (1125899906842624 - i) / w < d) : 71303168 ≤ i + w * d := by
  have h1 : 1125899906842624 - i < d * w := by
    rw [← Nat.div_lt_iff_lt_mul (by omega)]
    exact h
  rw [Nat.mul_comm] at h1
  omega
theorem digit_fits {i w d : Nat} (hw : 1 ≤ w) (hi : i ≤ 1125899906842624) (h : ¬ (1125899906842624 - i) / w < d) : i + w * d ≤ 1125899906842624 := by
  have h1 : d ≤ (1125899906842624 - i) / w := by omega
  have h2 : d * w ≤ 1125899906842624 - i := by
    rw [Nat.le_div_iff_mul_le (by omega)] at h1
    exact h1
  rw [Nat.mul_comm] at h2
  omega
end Go.Proofs.YtenlampiiodkhaaGreatDoor
