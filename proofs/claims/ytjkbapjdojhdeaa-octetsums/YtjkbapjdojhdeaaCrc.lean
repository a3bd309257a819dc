/-
  Plain facts on the check sum: one bit's step, its linearity, that it can be turned round, and the row of sixteen.
-/
namespace Go.Proofs.Ytjkbapjdojhdeaa
set_option linter.unusedVariables false

/-- One bit's step. -/
def st (x : Nat) : Nat := if x % 2 = 1 then (x / 2) ^^^ 3988292384 else x / 2

def sts : Nat → Nat → Nat
  | 0, x => x
  | n + 1, x => sts n (st x)

theorem sts_succ (n x : Nat) : sts (n + 1) x = st (sts n x) := by
  induction n generalizing x with
  | zero => rfl
  | succ n ih => rw [sts, ih, ← sts]

theorem sts_add (m n x : Nat) : sts (m + n) x = sts m (sts n x) := by
  induction n generalizing x with
  | zero => rfl
  | succ n ih => rw [← Nat.add_assoc, sts, ih, ← sts]

theorem st_lt (x : Nat) (h : x < 4294967296) : st x < 4294967296 := by
  unfold st
  split
  · exact Nat.xor_lt_two_pow (n := 32) (by omega) (by decide)
  · omega

theorem sts_lt (n x : Nat) (h : x < 4294967296) : sts n x < 4294967296 := by
  induction n generalizing x with
  | zero => exact h
  | succ n ih => exact ih _ (st_lt x h)

theorem xor_div2 (a b : Nat) : (a ^^^ b) / 2 = (a / 2) ^^^ (b / 2) := by
  have := Nat.shiftRight_xor_distrib (a := a) (b := b) (i := 1)
  simpa [Nat.shiftRight_succ] using this

theorem xor_mod2 (a b : Nat) : (a ^^^ b) % 2 = (a % 2 + b % 2) % 2 := by
  have h := Nat.testBit_xor a b 0
  simp only [Nat.testBit_zero] at h
  rcases Nat.mod_two_eq_zero_or_one a with ha | ha <;> rcases Nat.mod_two_eq_zero_or_one b with hb | hb <;> rcases Nat.mod_two_eq_zero_or_one (a ^^^ b) with hc | hc <;> rw [ha, hb, hc] at h <;> first | omega | (exfalso; revert h; decide)

theorem st_xor (a b : Nat) : st (a ^^^ b) = st a ^^^ st b := by
  unfold st
  rw [xor_div2, xor_mod2]
  rcases Nat.mod_two_eq_zero_or_one a with ha | ha <;> rcases Nat.mod_two_eq_zero_or_one b with hb | hb <;> rw [ha, hb] <;> simp
  · rw [Nat.xor_assoc]
  · rw [Nat.xor_assoc, Nat.xor_assoc, Nat.xor_comm (b / 2)]
  · rw [Nat.xor_assoc, Nat.xor_comm 3988292384, Nat.xor_assoc, Nat.xor_self, Nat.xor_zero]

theorem sts_xor (n a b : Nat) : sts n (a ^^^ b) = sts n a ^^^ sts n b := by
  induction n generalizing a b with
  | zero => rfl
  | succ n ih => rw [sts, st_xor, ih]; rfl

theorem st_double (y : Nat) : st (2 * y) = y := by unfold st; rw [if_neg (by omega)]; omega

theorem sts4_shift (y : Nat) : sts 4 (16 * y) = y := by
  have e : 16 * y = 2 * (2 * (2 * (2 * y))) := by omega
  rw [e]
  simp only [sts, st_double]

theorem split16 (s : Nat) : s = (16 * (s / 16)) ^^^ (s % 16) := by
  have h : 16 * (s / 16) ^^^ s % 16 = 16 * (s / 16) + s % 16 := by
    have h1 : 2 ^ 4 * (s / 16) + s % 16 = 2 ^ 4 * (s / 16) ||| s % 16 := Nat.two_pow_add_eq_or_of_lt (by omega) _
    have h2 : (2 ^ 4 * (s / 16)) ^^^ (s % 16) = (2 ^ 4 * (s / 16)) ||| (s % 16) := by
      apply Nat.eq_of_testBit_eq
      intro i
      simp only [Nat.testBit_xor, Nat.testBit_or]
      by_cases hi : i < 4
      · have : (2 ^ 4 * (s / 16)).testBit i = false := by rw [Nat.testBit_two_pow_mul]; simp; omega
        rw [this]; simp
      · have : (s % 16).testBit i = false := Nat.testBit_lt_two_pow (Nat.lt_of_lt_of_le (show s % 16 < 2 ^ 4 by omega) (Nat.pow_le_pow_right (by decide) (by omega)))
        rw [this]; simp
    exact h2.trans h1.symm
  rw [h]
  omega

/-- Half a byte at once, by the row of sixteen. -/
theorem sts4_row (s : Nat) : (s / 16) ^^^ sts 4 (s % 16) = sts 4 s := by
  conv => rhs; rw [split16 s, sts_xor, sts4_shift]

/-- What a byte turns a sum into. -/
def bstep (s : Nat) (x : UInt8) : Nat := sts 8 (s ^^^ x.toNat)

theorem bstep_row (s : Nat) (x : UInt8) (t : Nat) (ht : t = ((s ^^^ x.toNat) / 16) ^^^ sts 4 ((s ^^^ x.toNat) % 16)) : (t / 16) ^^^ sts 4 (t % 16) = bstep s x := by
  rw [sts4_row, ht, sts4_row, ← sts_add]
  rfl

def crcTo (s : Nat) (bs : List UInt8) : Nat := bs.foldl bstep s

theorem bstep_lt (s : Nat) (x : UInt8) (h : s < 4294967296) : bstep s x < 4294967296 :=
  sts_lt _ _ (Nat.xor_lt_two_pow (n := 32) h (by have := x.toNat_lt; omega))

theorem crcTo_lt (s : Nat) (bs : List UInt8) (h : s < 4294967296) : crcTo s bs < 4294967296 := by
  induction bs generalizing s with
  | nil => exact h
  | cons x r ih => exact ih _ (bstep_lt s x h)

theorem crcTo_append (s : Nat) (a b : List UInt8) : crcTo s (a ++ b) = crcTo (crcTo s a) b := by simp [crcTo]

/-- The check sum of bytes. -/
def crc (bs : List UInt8) : Nat := 4294967295 - crcTo 4294967295 bs

theorem crc_lt (bs : List UInt8) : crc bs < 4294967296 := by unfold crc; omega

theorem st_inj (a b : Nat) (ha : a < 4294967296) (hb : b < 4294967296) (h : st a = st b) : a = b := by
  have top : ∀ y : Nat, y < 2147483648 → (y ^^^ 3988292384).testBit 31 = true := by
    intro y hy
    rw [Nat.testBit_xor, Nat.testBit_lt_two_pow (show y < 2 ^ 31 from hy)]
    decide
  have low : ∀ y : Nat, y < 2147483648 → y.testBit 31 = false := fun y hy => Nat.testBit_lt_two_pow (show y < 2 ^ 31 from hy)
  unfold st at h
  rcases Nat.mod_two_eq_zero_or_one a with h1 | h1 <;> rcases Nat.mod_two_eq_zero_or_one b with h2 | h2 <;> simp [h1, h2] at h
  · omega
  · have := low (a / 2) (by omega)
    rw [h, top (b / 2) (by omega)] at this
    simp at this
  · have := low (b / 2) (by omega)
    rw [← h, top (a / 2) (by omega)] at this
    simp at this
  · have e : a / 2 ^^^ 3988292384 ^^^ 3988292384 = b / 2 ^^^ 3988292384 ^^^ 3988292384 := by rw [h]
    rw [Nat.xor_assoc, Nat.xor_assoc, Nat.xor_self, Nat.xor_zero, Nat.xor_zero] at e
    omega

theorem sts_inj (n a b : Nat) (ha : a < 4294967296) (hb : b < 4294967296) (h : sts n a = sts n b) : a = b := by
  induction n generalizing a b with
  | zero => exact h
  | succ n ih => exact st_inj a b ha hb (ih _ _ (st_lt a ha) (st_lt b hb) h)

theorem crcTo_inj (s t : Nat) (bs : List UInt8) (hs : s < 4294967296) (ht : t < 4294967296) (h : crcTo s bs = crcTo t bs) : s = t := by
  induction bs generalizing s t with
  | nil => exact h
  | cons x r ih =>
    have hx := x.toNat_lt
    have := ih _ _ (bstep_lt s x hs) (bstep_lt t x ht) h
    have e := sts_inj 8 _ _ (Nat.xor_lt_two_pow (n := 32) hs (by omega)) (Nat.xor_lt_two_pow (n := 32) ht (by omega)) this
    have e2 : s ^^^ x.toNat ^^^ x.toNat = t ^^^ x.toNat ^^^ x.toNat := by rw [e]
    rwa [Nat.xor_assoc, Nat.xor_assoc, Nat.xor_self, Nat.xor_zero, Nat.xor_zero] at e2

/-- Bytes that part in one place have another sum. -/
theorem crc_ne (a b : List UInt8) (x y : UInt8) (h : x ≠ y) : crc (a ++ x :: b) ≠ crc (a ++ y :: b) := by
  intro e
  have l1 := crcTo_lt 4294967295 (a ++ x :: b) (by decide)
  have l2 := crcTo_lt 4294967295 (a ++ y :: b) (by decide)
  unfold crc at e
  have e1 : crcTo 4294967295 (a ++ x :: b) = crcTo 4294967295 (a ++ y :: b) := by omega
  rw [crcTo_append, crcTo_append] at e1
  have la := crcTo_lt 4294967295 a (by decide)
  have e2 := crcTo_inj (bstep (crcTo 4294967295 a) x) (bstep (crcTo 4294967295 a) y) b (bstep_lt _ _ la) (bstep_lt _ _ la) e1
  have hx := x.toNat_lt
  have hy := y.toNat_lt
  have e3 := sts_inj 8 _ _ (Nat.xor_lt_two_pow (n := 32) la (by omega)) (Nat.xor_lt_two_pow (n := 32) la (by omega)) e2
  generalize crcTo 4294967295 a = s at *
  have e4 : s ^^^ (s ^^^ x.toNat) = s ^^^ (s ^^^ y.toNat) := by rw [e3]
  rw [← Nat.xor_assoc, ← Nat.xor_assoc, Nat.xor_self, Nat.zero_xor, Nat.zero_xor] at e4
  exact h (UInt8.toNat_inj.1 e4)

end Go.Proofs.Ytjkbapjdojhdeaa
