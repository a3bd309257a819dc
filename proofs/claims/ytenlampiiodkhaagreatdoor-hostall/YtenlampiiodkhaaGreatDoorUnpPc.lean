/-
  UnpP.
-/
import Derived.Test.YtenlampiiodkhaaGreatDoorDecPc
import Derived.Test.YtenlampiiodkhaaGreatDoorDecAc
namespace Go.Proofs.YtenlampiiodkhaaGreatDoor
set_option linter.unusedVariables false
open Go.RowKit
theorem cutAt_snoc : ∀ (t : List UInt8) (x : UInt8), cutAt (t ++ [x]) = if x = 45 then some t.length else cutAt t
  | [], x => by simp [cutAt]
  | y :: t, x => by
    rw [List.cons_append, cutAt, cutAt_snoc t x]; by_cases h : x = 45
    · simp [h]
    · simp only [if_neg h]; rw [cutAt]
theorem cutI_snoc (t : List UInt8) (x : UInt8) : cutI (t ++ [x]) = if x = 45 then (t.length : Int) else cutI t := by
  unfold cutI; rw [cutAt_snoc]; by_cases h : x = 45
  · simp [h]
  · simp [h]
theorem cutI_bound (t : List UInt8) : -1 ≤ cutI t ∧ cutI t < (t.length : Int) := by
  unfold cutI
  cases h : cutAt t with
  | none => simp; omega
  | some k =>
    have := (cutAt_is h).1; simp; omega
def lim (x : Option (List Nat)) : Option (List Nat) := x.bind fun l => if l.length ≤ 63 then some l else none
theorem rdB_len {f n i bias : Nat} {l out : List Nat} {t : List UInt8} (ht : t.length ≤ f) (h : rdB f n i bias l t = some out) : (l.length ≤ 63 → out.length ≤ 63) ∧ (63 < l.length → 63 < out.length) := by
  rw [rdB_is _ _ _ _ _ _ ht] at h
  cases hd : dvs t with
  | none => rw [hd] at h; simp at h
  | some ds =>
    rw [hd] at h; simp only [Option.bind_some] at h; exact ⟨rd_len _ _ _ _ _ _ _ h, rd_long _ _ _ _ _ _ _ h⟩
theorem pdec_lim (s : List UInt8) (hs : s.length ≤ 200) (ha : ∀ b ∈ s, b.toNat ≤ 127) : pdec s = lim (rdB (prt s).2.length 128 0 72 ((prt s).1.map UInt8.toNat) (prt s).2) := by
  rw [pdec_rdB s hs]; have hp : ∀ b ∈ (prt s).1, b.toNat ≤ 127 := by
    intro b hb; refine ha b ?_; unfold prt at hb
    cases hc : cutAt s with
    | none => rw [hc] at hb; simp at hb
    | some k =>
      cases k with
      | zero => rw [hc] at hb; simp at hb
      | succ k => rw [hc] at hb; exact List.mem_of_mem_take hb
  unfold lim; by_cases h63 : (prt s).1.length ≤ 63
  · rw [if_pos ⟨h63, hp⟩]
    cases hr : rdB (prt s).2.length 128 0 72 ((prt s).1.map UInt8.toNat) (prt s).2 with
    | none => rfl
    | some l =>
      simp only [Option.bind_some]; rw [if_pos ((rdB_len (Nat.le_refl _) hr).1 (by simpa using h63))]
  · rw [if_neg (fun h => h63 h.1)]
    cases hr : rdB (prt s).2.length 128 0 72 ((prt s).1.map UInt8.toNat) (prt s).2 with
    | none => rfl
    | some l =>
      simp only [Option.bind_some]; rw [if_neg (by have := (rdB_len (Nat.le_refl _) hr).2 (by simp; omega); omega)]
def stepB (f n was : Nat) (l : List Nat) (x : Option (Nat × List UInt8)) : Option (List Nat) :=
  match x with
  | none => none
  | some (T, r) => if cp (n + T / (l.length + 1)) = true ∧ l.length < 63 then lim (rdB f (n + T / (l.length + 1)) (T % (l.length + 1) + 1) (adp (T - was) (l.length + 1) (was == 0)) (ins l (T % (l.length + 1)) (n + T / (l.length + 1))) r) else none
theorem rdB_step (f n i bias : Nat) (l : List Nat) (t : List UInt8) (ht : 0 < t.length) : lim (rdB (f + 1) n i bias l t) = stepB f n i l ((cutN bias t 36).map fun p => (i + 1 * p.1, p.2)) := by
  cases t with
  | nil => simp at ht
  | cons b t =>
    rw [rdB]
    cases cutN bias (b :: t) 36 with
    | none => rfl
    | some p =>
      obtain ⟨v, r⟩ := p; simp only [Option.map_some, stepB, Nat.one_mul, Nat.add_sub_cancel_left]
      split
      · rfl
      · rfl
end Go.Proofs.YtenlampiiodkhaaGreatDoor
