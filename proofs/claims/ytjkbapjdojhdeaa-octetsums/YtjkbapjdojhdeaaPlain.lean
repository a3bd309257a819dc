/-
  Plain facts: what is laid is read; a frame cut off is short; a frame with a bit turned is none. And what an argument of bytes is.
-/
import Derived.Test.YtjkbapjdojhdeaaBegun
namespace Go.Proofs.Ytjkbapjdojhdeaa
set_option linter.unusedVariables false
open Go.RowKit

theorem foldl_num (bs : List UInt8) (s : Nat) : bs.foldl (fun v x => v * 256 + x.toNat) s = s * 256 ^ bs.length + num bs := by
  induction bs generalizing s with
  | nil => simp [num]
  | cons x r ih =>
    simp only [List.foldl_cons, List.length_cons, num]
    rw [ih, ih (0 * 256 + x.toNat), Nat.pow_succ, Nat.add_mul, Nat.zero_mul, Nat.zero_add]
    have : s * 256 * 256 ^ r.length = s * (256 ^ r.length * 256) := by rw [Nat.mul_assoc, Nat.mul_comm 256]
    omega

theorem num_cons (x : UInt8) (r : List UInt8) : num (x :: r) = x.toNat * 256 ^ r.length + num r := by
  have := foldl_num r (0 * 256 + x.toNat)
  simpa [num] using this

theorem num_be (n v : Nat) : num (be n v) = v % 256 ^ n := by
  induction n with
  | zero => simp [be, num, Nat.mod_one]
  | succ n ih =>
    rw [be, num_cons, ih, be_length, Nat.mod_pow_succ]
    have h : (UInt8.ofNat (v / 256 ^ n)).toNat = v / 256 ^ n % 256 := by simp
    rw [h, Nat.mul_comm]
    omega

theorem take_be (n v : Nat) (r : List UInt8) : (be n v ++ r).take n = be n v := by
  rw [List.take_append_of_le_length (by rw [be_length]; exact Nat.le_refl _), List.take_of_length_le (by rw [be_length]; exact Nat.le_refl _)]

theorem drop_be (n v : Nat) (r : List UInt8) : (be n v ++ r).drop n = r := by
  have := List.drop_left (l₁ := be n v) (l₂ := r)
  rwa [be_length] at this

theorem num_be4 (v : Nat) (h : v < 4294967296) : num (be 4 v) = v := by rw [num_be]; omega

theorem fr_eq (bs r : List UInt8) : fr bs ++ r = be 4 bs.length ++ (be 4 (crc bs) ++ (bs ++ r)) := by simp [fr]

theorem fr_len (bs : List UInt8) : (fr bs).length = 8 + bs.length := by simp [fr, be_length]; omega

theorem drop8 (a b : Nat) (r : List UInt8) : (be 4 a ++ (be 4 b ++ r)).drop 8 = r := by
  have : 8 = 4 + 4 := rfl
  rw [this, ← List.drop_drop, drop_be, drop_be]

/-- A frame is read, whatever stands behind it. -/
theorem unf_fr (bs r : List UInt8) (h : bs.length < 4294967296) : unf (fr bs ++ r) = ⟨bs, 8 + bs.length, 0⟩ := by
  have hb : bdy (fr bs ++ r) = bs := by
    unfold bdy
    rw [fr_eq, take_be, drop8, num_be4 _ h]
    simp
  unfold unf
  rw [hb]
  have h1 : num ((fr bs ++ r).take 4) = bs.length := by rw [fr_eq, take_be, num_be4 _ h]
  have h2 : num (((fr bs ++ r).drop 4).take 4) = crc bs := by rw [fr_eq, drop_be, take_be, num_be4 _ (crc_lt bs)]
  rw [h1, h2, if_neg (by simp [fr_len]; omega), if_pos rfl]

/-- A frame that is cut off is short. -/
theorem unf_cut (bs : List UInt8) (h : bs.length < 4294967296) (k : Nat) (hk : k < 8 + bs.length) : unf ((fr bs).take k) = ⟨[], 0, 3⟩ := by
  unfold unf
  refine if_pos ?_
  have hl : ((fr bs).take k).length = k := by simp [fr_len]; omega
  rw [hl]
  by_cases h8 : k < 8
  · exact .inl h8
  · right
    have e : ((fr bs).take k).take 4 = be 4 bs.length := by
      rw [List.take_take, Nat.min_eq_left (by omega)]
      have := fr_eq bs []
      rw [List.append_nil] at this
      rw [this, take_be]
    rw [e, num_be4 _ h]
    omega

theorem tkb_put (bs r : List UInt8) (h : bs.length < 4294967296) : tkb (be 4 bs.length ++ bs ++ r) = ⟨bs, 4 + bs.length, 0⟩ := by
  have e : be 4 bs.length ++ bs ++ r = be 4 bs.length ++ (bs ++ r) := by simp
  unfold tkb
  rw [e, take_be, drop_be, num_be4 _ h, if_neg (by simp [be_length])]
  simp

theorem tkb_cut (bs : List UInt8) (h : bs.length < 4294967296) (k : Nat) (hk : k < 4 + bs.length) : tkb ((be 4 bs.length ++ bs).take k) = ⟨[], 0, 3⟩ := by
  unfold tkb
  refine if_pos ?_
  have hl : ((be 4 bs.length ++ bs).take k).length = k := by simp [be_length]; omega
  rw [hl]
  by_cases h4 : k < 4
  · exact .inl h4
  · right
    rw [List.take_take, Nat.min_eq_left (by omega), take_be, num_be4 _ h]
    omega

/-- An argument of bytes reads as bytes. -/
theorem rd_of_row {w : World} {a : Option Addr} {len cap : Nat} {zs : List Int}
    (h : (a = none ∧ len = 0 ∧ cap = 0 ∧ zs = []) ∨ ∃ x, a = some x ∧ len ≤ cap ∧ cap ≤ maxLen ∧ zs.length = cap ∧ (∀ i, i < zs.length → w.cell? (x.add i) = some (.int .u8 (zs.getD i 0))) ∧ ∀ n ∈ zs, (Lit.int .u8 n).wf = true) :
    ∃ bs : List UInt8, bs.length = len ∧ Rd w a cap bs := by
  rcases h with ⟨rfl, rfl, rfl, rfl⟩ | ⟨x, rfl, hl, hm, hz, hc, hw⟩
  · exact ⟨[], rfl, Rd.nothing w⟩
  · refine ⟨(zs.take len).map fun z => UInt8.ofNat z.toNat, by simp; omega, ⟨by simp; omega, by unfold maxLen at hm; omega, fun e => (by cases e), fun i hi => ?_⟩⟩
    have hi' : i < len ∧ i < zs.length := by simp at hi; omega
    have hci := hc i hi'.2
    obtain ⟨b, off, spot⟩ := x
    have hs : spot = none := by simpa [Addr.add] using World.cell?_spot (hc 0 (by omega))
    subst hs
    refine ⟨b, off, rfl, ?_⟩
    have hb := bounds_u8 (hw (zs.getD i 0) (by simp [List.getD, hi'.2]))
    have e : (((zs.take len).map fun z => UInt8.ofNat z.toNat).getD i 0).toNat = ((zs.getD i 0).toNat) % 256 := by
      simp [List.getD, hi'.1, hi'.2]
    simp only [B, e]
    rw [Addr.add_lit] at hci
    rw [hci]
    congr 2
    omega
end Go.Proofs.Ytjkbapjdojhdeaa
