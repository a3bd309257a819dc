/-
  Plain facts: what stands at the front of bytes, told by the first byte, the bytes behind it and the number that they make. Nothing is proved of the program here.
-/
import Derived.Test.YtilmkmplaehcaaaDoorU1
namespace Go.Proofs.YtilmkmplaehcaaaDoor
set_option linter.unusedVariables false

theorem u8_eq {x : UInt8} {y : Nat} (h : x.toNat = y) : UInt8.ofNat y = x := by rw [← h]; simp

/-- Bytes that look like a code point of one byte and so on are one. -/
theorem at1_ok1 (x0 : UInt8) (t : List UInt8) (h0 : x0.toNat < 128) : at1 (x0 :: t) = some (x0.toNat, 1) := by
  have hs : ush ((cand (x0 :: t) 1 : Nat) : Int) = 1 := by
    simp only [cand, List.getD_cons_zero]
    unfold ush
    rw [if_neg (by omega), if_pos (by omega)]
  have hk : okAt (x0 :: t) 1 = true := by
    unfold okAt
    have hne : ush ((cand (x0 :: t) 1 : Nat) : Int) ≠ 0 := by omega
    have ho : one (cand (x0 :: t) 1) = [x0] := by
      rw [one_ok hne, hs]
      simp only [raw, Int.toNat_natCast, cand, List.getD_cons_zero]
      rw [u8_eq rfl]
    rw [ho, hs]
    simp
  have := at1_some hk
  simpa [cand] using this

theorem at1_ok2 (x0 x1 : UInt8) (t : List UInt8) (h0 : 192 ≤ x0.toNat ∧ x0.toNat < 224) (h1 : x1.toNat / 64 = 2) (r : Nat) (hr : r = x0.toNat % 32 * 64 + x1.toNat % 64) (hs : ush (r : Int) = 2) : at1 (x0 :: x1 :: t) = some (r, 2) := by
  have hc : cand (x0 :: x1 :: t) 2 = r := by simp only [cand, List.getD_cons_zero, List.getD_cons_succ, hr]
  have hk : okAt (x0 :: x1 :: t) 2 = true := by
    unfold okAt
    rw [hc]
    have hne : ush (r : Int) ≠ 0 := by omega
    have ho : one (r : Int) = [x0, x1] := by
      rw [one_ok hne, hs]
      simp only [raw, Int.toNat_natCast]
      rw [u8_eq (x := x0) (by omega), u8_eq (x := x1) (by omega)]
    rw [ho, hs]
    simp
  have := at1_some hk
  rwa [hc] at this

theorem at1_ok3 (x0 x1 x2 : UInt8) (t : List UInt8) (h0 : 224 ≤ x0.toNat ∧ x0.toNat < 240) (h1 : x1.toNat / 64 = 2) (h2 : x2.toNat / 64 = 2) (r : Nat) (hr : r = (x0.toNat % 16 * 64 + x1.toNat % 64) * 64 + x2.toNat % 64) (hs : ush (r : Int) = 3) : at1 (x0 :: x1 :: x2 :: t) = some (r, 3) := by
  have hc : cand (x0 :: x1 :: x2 :: t) 3 = r := by simp only [cand, List.getD_cons_zero, List.getD_cons_succ, hr]
  have hk : okAt (x0 :: x1 :: x2 :: t) 3 = true := by
    unfold okAt
    rw [hc]
    have hne : ush (r : Int) ≠ 0 := by omega
    have ho : one (r : Int) = [x0, x1, x2] := by
      rw [one_ok hne, hs]
      simp only [raw, Int.toNat_natCast]
      rw [u8_eq (x := x0) (by omega), u8_eq (x := x1) (by omega), u8_eq (x := x2) (by omega)]
    rw [ho, hs]
    simp
  have := at1_some hk
  rwa [hc] at this

theorem at1_ok4 (x0 x1 x2 x3 : UInt8) (t : List UInt8) (h0 : 240 ≤ x0.toNat ∧ x0.toNat < 248) (h1 : x1.toNat / 64 = 2) (h2 : x2.toNat / 64 = 2) (h3 : x3.toNat / 64 = 2) (r : Nat) (hr : r = ((x0.toNat % 8 * 64 + x1.toNat % 64) * 64 + x2.toNat % 64) * 64 + x3.toNat % 64) (hs : ush (r : Int) = 4) : at1 (x0 :: x1 :: x2 :: x3 :: t) = some (r, 4) := by
  have hc : cand (x0 :: x1 :: x2 :: x3 :: t) 4 = r := by simp only [cand, List.getD_cons_zero, List.getD_cons_succ, hr]
  have hk : okAt (x0 :: x1 :: x2 :: x3 :: t) 4 = true := by
    unfold okAt
    rw [hc]
    have hne : ush (r : Int) ≠ 0 := by omega
    have ho : one (r : Int) = [x0, x1, x2, x3] := by
      rw [one_ok hne, hs]
      simp only [raw, Int.toNat_natCast]
      rw [u8_eq (x := x0) (by omega), u8_eq (x := x1) (by omega), u8_eq (x := x2) (by omega), u8_eq (x := x3) (by omega)]
    rw [ho, hs]
    simp
  have := at1_some hk
  rwa [hc] at this

/-- What a code point's bytes look like. -/
theorem at1_form {bs : List UInt8} {r n : Nat} (h : at1 bs = some (r, n)) :
    ld (bs.getD 0 0).toNat = n ∧ n ≤ bs.length ∧ ush (r : Int) = n ∧ r = cand bs n ∧ (2 ≤ n → (bs.getD 1 0).toNat / 64 = 2) ∧ (3 ≤ n → (bs.getD 2 0).toNat / 64 = 2) ∧ (4 ≤ n → (bs.getD 3 0).toNat / 64 = 2) := by
  obtain ⟨h1, h2, h3, h4, h5, h6, h7⟩ := at1_len h
  have hne : ush (r : Int) ≠ 0 := by omega
  obtain ⟨_, hm, _, b1, b2, b3, b4, _⟩ := sh_bound h6 (by omega)
  rw [one_ok hne, h6] at h7
  simp only [Int.toNat_natCast] at h7
  have hd : ∀ i, i < n → (bs.take n).getD i 0 = bs.getD i 0 := by
    intro i hi
    simp [List.getD, hi]
  have e : ∀ i, i < n → ((raw n r).getD i 0).toNat = (bs.getD i 0).toNat := by
    intro i hi
    rw [h7, hd i hi]
  have c : n = 1 ∨ n = 2 ∨ n = 3 ∨ n = 4 := by omega
  rcases c with rfl | rfl | rfl | rfl
  · have := b1 rfl
    have e0 := e 0 (by omega)
    simp only [raw, List.getD_cons_zero] at e0
    rw [toNat_ofNat _ (by omega)] at e0
    refine ⟨by unfold ld; rw [if_pos (by omega)], h5, h6, h2, by omega, by omega, by omega⟩
  · have := b2 rfl
    have e0 := e 0 (by omega)
    have e1 := e 1 (by omega)
    simp only [raw, List.getD_cons_zero, List.getD_cons_succ] at e0 e1
    rw [toNat_ofNat _ (by omega)] at e0 e1
    refine ⟨by unfold ld; rw [if_neg (by omega), if_neg (by omega), if_pos (by omega)], h5, h6, h2, by omega, by omega, by omega⟩
  · have := b3 rfl
    have e0 := e 0 (by omega)
    have e1 := e 1 (by omega)
    have e2 := e 2 (by omega)
    simp only [raw, List.getD_cons_zero, List.getD_cons_succ] at e0 e1 e2
    rw [toNat_ofNat _ (by omega)] at e0 e1 e2
    refine ⟨by unfold ld; rw [if_neg (by omega), if_neg (by omega), if_neg (by omega), if_pos (by omega)], h5, h6, h2, by omega, by omega, by omega⟩
  · have := b4 rfl
    have e0 := e 0 (by omega)
    have e1 := e 1 (by omega)
    have e2 := e 2 (by omega)
    have e3 := e 3 (by omega)
    simp only [raw, List.getD_cons_zero, List.getD_cons_succ] at e0 e1 e2 e3
    rw [toNat_ofNat _ (by omega)] at e0 e1 e2 e3
    refine ⟨by unfold ld; rw [if_neg (by omega), if_neg (by omega), if_neg (by omega), if_neg (by omega), if_pos (by omega)], h5, h6, h2, by omega, by omega, by omega⟩

theorem at1_no {bs : List UInt8} (h : ∀ r n, at1 bs = some (r, n) → False) : at1 bs = none := by
  cases e : at1 bs with
  | none => rfl
  | some p => exact absurd e (by obtain ⟨r, n⟩ := p; exact fun e => h r n e)

/-- What 'first' tells: the code point and how many bytes it has; twice 0: none. -/
def fst (bs : List UInt8) : Nat := match at1 bs with | some (r, _) => r | none => 0
def snd (bs : List UInt8) : Nat := match at1 bs with | some (_, n) => n | none => 0

theorem fst_some {bs : List UInt8} {r n : Nat} (h : at1 bs = some (r, n)) : fst bs = r ∧ snd bs = n := by unfold fst snd; rw [h]; exact ⟨rfl, rfl⟩
theorem fst_none {bs : List UInt8} (h : at1 bs = none) : fst bs = 0 ∧ snd bs = 0 := by unfold fst snd; rw [h]; exact ⟨rfl, rfl⟩
end Go.Proofs.YtilmkmplaehcaaaDoor
