/-
  The walk of OctetBits: a frame with one bit turned, behind its length, is none.
-/
import Derived.Test.YtjkbapjdojhdeaaCutw
namespace Go.Proofs.Ytjkbapjdojhdeaa
set_option linter.unusedVariables false
open Go.RowKit

theorem num_inj (a b : List UInt8) (hl : a.length = b.length) (h : num a = num b) : a = b := by
  induction a generalizing b with
  | nil => cases b with
    | nil => rfl
    | cons y s => simp at hl
  | cons x r ih => cases b with
    | nil => simp at hl
    | cons y s =>
      have hl' : r.length = s.length := by simpa using hl
      rw [num_cons, num_cons, ← hl'] at h
      have h1 := num_lt r
      have h2 := num_lt s
      rw [← hl'] at h2
      generalize 256 ^ r.length = p at *
      have hp : 0 < p := by omega
      have hx : x.toNat = y.toNat := by
        have e1 : (x.toNat * p + num r) / p = x.toNat := by rw [Nat.mul_comm, Nat.mul_add_div hp, Nat.div_eq_of_lt h1]; rfl
        have e2 : (y.toNat * p + num s) / p = y.toNat := by rw [Nat.mul_comm, Nat.mul_add_div hp, Nat.div_eq_of_lt h2]; rfl
        rw [← e1, ← e2, h]
      have hr : num r = num s := by rw [hx] at h; omega
      rw [UInt8.toNat_inj.1 hx, ih s hl' hr]

theorem set_be (n v j : Nat) (y : UInt8) (r : List UInt8) (h : n ≤ j) : (be n v ++ r).set j y = be n v ++ r.set (j - n) y := by
  rw [List.set_append_right _ _ (by rw [be_length]; exact h), be_length]

/-- A frame with a byte turned, behind its length, is none. -/
theorem unf_set (bs : List UInt8) (hl : bs.length < 4294967296) (j : Nat) (y : UInt8) (h4 : 4 ≤ j) (hj : j < 8 + bs.length) (hy : y ≠ (fr bs).getD j 0) : unf ((fr bs).set j y) = ⟨[], 0, 2⟩ := by
  have hf : fr bs = be 4 bs.length ++ (be 4 (crc bs) ++ bs) := by have := fr_eq bs []; simpa using this
  have hlen : ((fr bs).set j y).length = 8 + bs.length := by rw [List.length_set, fr_len]
  by_cases h8 : j < 8
  · have e : (fr bs).set j y = be 4 bs.length ++ ((be 4 (crc bs)).set (j - 4) y ++ bs) := by
      rw [hf, set_be _ _ _ _ _ h4, List.set_append_left _ _ (by rw [be_length]; omega)]
    have n1 : num (((fr bs).set j y).take 4) = bs.length := by rw [e, take_be, num_be4 _ hl]
    have hC : ((be 4 (crc bs)).set (j - 4) y).length = 4 := by rw [List.length_set, be_length]
    have n2 : (((fr bs).set j y).drop 4).take 4 = (be 4 (crc bs)).set (j - 4) y := by
      rw [e, drop_be, List.take_append_of_le_length (by omega), List.take_of_length_le (by omega)]
    have nb : bdy ((fr bs).set j y) = bs := by
      unfold bdy
      rw [n1, e, show (8 : Nat) = 4 + 4 from rfl, ← List.drop_drop, drop_be]
      have := List.drop_left (l₁ := (be 4 (crc bs)).set (j - 4) y) (l₂ := bs)
      rw [hC] at this
      rw [this, List.take_of_length_le (Nat.le_refl _)]
    unfold unf
    rw [hlen, n1, n2, nb, if_neg (by omega), if_neg]
    intro hn
    have hn' : num ((be 4 (crc bs)).set (j - 4) y) = num (be 4 (crc bs)) := by rw [hn, num_be4 _ (crc_lt bs)]
    have := num_inj _ _ (by rw [List.length_set]) hn'
    apply hy
    have e1 : ((be 4 (crc bs)).set (j - 4) y).getD (j - 4) 0 = y := by simp [List.getD, be_length, show j - 4 < 4 by omega]
    rw [this] at e1
    rw [← e1, hf]
    simp [List.getD, List.getElem?_append, be_length, show ¬ j < 4 by omega, show j - 4 < 4 by omega]
  · have e : (fr bs).set j y = be 4 bs.length ++ (be 4 (crc bs) ++ bs.set (j - 8) y) := by
      rw [hf, set_be _ _ _ _ _ h4, set_be _ _ _ _ _ (by omega), show j - 4 - 4 = j - 8 by omega]
    have n1 : num (((fr bs).set j y).take 4) = bs.length := by rw [e, take_be, num_be4 _ hl]
    have n2 : num ((((fr bs).set j y).drop 4).take 4) = crc bs := by rw [e, drop_be, take_be, num_be4 _ (crc_lt bs)]
    have nb : bdy ((fr bs).set j y) = bs.set (j - 8) y := by
      unfold bdy
      rw [n1, e, drop8, List.take_of_length_le (by rw [List.length_set]; exact Nat.le_refl _)]
    have hi : j - 8 < bs.length := by omega
    have hx : y ≠ bs[j - 8] := by
      intro hh
      apply hy
      rw [hh, hf]
      simp [List.getD, List.getElem?_append, be_length, show ¬ j < 4 by omega, show ¬ j - 4 < 4 by omega, show j - 4 - 4 = j - 8 by omega, hi]
    have s1 : bs.set (j - 8) y = bs.take (j - 8) ++ y :: bs.drop (j - 8 + 1) := List.set_eq_take_append_cons_drop.trans (if_pos hi)
    have s2 : bs = bs.take (j - 8) ++ bs[j - 8] :: bs.drop (j - 8 + 1) := by simp
    unfold unf
    rw [hlen, n1, n2, nb, if_neg (by omega), if_neg]
    intro hn
    have := crc_ne (bs.take (j - 8)) (bs.drop (j - 8 + 1)) y bs[j - 8] hx
    rw [← s1, ← s2] at this
    exact this hn.symm

theorem turned (x : UInt8) (s : Nat) (h : s < 8) : ∃ y : UInt8, y ≠ x ∧ Value.int .u8 (bits .xor .u8 (x.toNat : Int) (2 ^ s % 256)) = B y := by
  have hx := x.toNat_lt
  obtain ⟨m, hm⟩ : ∃ m, m = 2 ^ s := ⟨_, rfl⟩
  have h2 : m < 256 := by rw [hm]; exact Nat.lt_of_lt_of_le (Nat.pow_lt_pow_right (by decide) h) (by decide)
  have h0 : 0 < m := by rw [hm]; exact Nat.two_pow_pos s
  have e0 : (2 : Int) ^ s = (m : Int) := by rw [hm]; simp
  have e : ((2 : Int) ^ s % 256) = (m : Int) := by rw [e0]; omega
  have hlt : x.toNat ^^^ m < 256 := Nat.xor_lt_two_pow (n := 8) (by omega) h2
  have hy : (UInt8.ofNat (x.toNat ^^^ m)).toNat = x.toNat ^^^ m := by rw [UInt8.toNat_ofNat']; exact Nat.mod_eq_of_lt hlt
  refine ⟨UInt8.ofNat (x.toNat ^^^ m), fun hh => ?_, ?_⟩
  · rw [hh] at hy
    have e2 : x.toNat ^^^ x.toNat = x.toNat ^^^ (x.toNat ^^^ m) := by rw [← hy]
    rw [← Nat.xor_assoc, Nat.xor_self, Nat.zero_xor] at e2
    omega
  · rw [e, u8_xor_nat _ _ (by omega) h2]
    simp only [B, hy]

theorem Rd.of_owned_at {w : World} {base n cap : Nat} {ao : Option Addr} {bs : List UInt8} (h : w.ownsRow base 5 1 (.slice ao n cap) n (bs.map B)) : Rd w ao cap bs := by
  obtain ⟨a, c, e, hr, _⟩ := Rd.of_owned h
  simp only [Value.slice.injEq] at e
  obtain ⟨rfl, _, rfl⟩ := e
  exact hr

set_option maxHeartbeats 1000000 in
theorem bits_walk (a0 : Option Addr) (l0 cap0 : Nat) (bs : List UInt8) (k : Int) (w : World) (h0 : bs.length = l0) (R0 : Rd w a0 cap0 bs)
    (hk : 0 ≤ k ∧ k ≤ 65535) (hl0 : l0 ≤ 100) :
    Calls Try.prog 8 #[.slice a0 l0 cap0, .int .u16 k] w fun e w' => e = .returned (.bool true) ∧ Below w.heap.size w w' := by
  subst h0
  obtain ⟨hk1, hk2⟩ := hk
  go_enter Try.func8, Try.ntmps8
  go_wp2_with fail
  refine (begun_any w).mono ?_
  rintro e w1 ⟨rfl, hb1⟩
  have R01 := R0.below hb1
  go_wp2_with fail
  refine (frame_any a0 _ cap0 bs w1 rfl R01 (by omega)).mono ?_
  rintro e w2 ⟨v2, rfl, own2, hb2⟩
  have hb12 := hb1.trans (hb2.mono hb1.size)
  have hw1 := hb1.size
  clear R01 hb1
  have hv : ∃ g cap, v2 = .slice (some ⟨g, 0, none⟩) (8 + bs.length) cap ∧ w1.heap.size ≤ g := by
    rcases own2.2 with ⟨_, h⟩ | ⟨g, cap, cur, h1, h2, _⟩
    · omega
    · exact ⟨g, cap, h1, h2⟩
  obtain ⟨g, c2, hv2, hg⟩ := hv
  rw [hv2] at own2
  rw [hv2]
  clear hv2
  have q1 : k % (8 * (8 + (bs.length : Int) - 4)) < 8 * (8 + (bs.length : Int) - 4) := Int.emod_lt_of_pos _ (by omega)
  have q2 : 0 ≤ k % (8 * (8 + (bs.length : Int) - 4)) := Int.emod_nonneg _ (by omega)
  go_wp2_with fail
  obtain ⟨K, hK⟩ : ∃ K : Nat, 32 + k % (8 * (8 + (bs.length : Int) - 4)) = (K : Int) := ⟨(32 + k % (8 * (8 + (bs.length : Int) - 4))).toNat, by omega⟩
  have b1 : 32 ≤ K := by omega
  have b2 : K < 8 * (8 + bs.length) := by omega
  rw [hK]
  clear hK
  generalize k % (8 * (8 + (bs.length : Int) - 4)) = kk
  clear q1 q2
  obtain ⟨J, hJ⟩ : ∃ J, J = K / 8 := ⟨_, rfl⟩
  obtain ⟨s, hs⟩ : ∃ s, s = K % 8 := ⟨_, rfl⟩
  have e1 : (K : Int) / 8 = (J : Int) := by omega
  have e2 : (K : Int) % 8 = (s : Int) := by omega
  have j1 : (0 : Int) ≤ (J : Int) := by omega
  have j2 : (J : Int) < (8 + bs.length : Nat) := by omega
  have s1 : s < 8 := by omega
  have j4 : 4 ≤ J := by omega
  have j8 : J < 8 + bs.length := by omega
  clear hJ hs b1 b2
  have hcell := own2.cellAt J (by omega)
  have hfz := own2.frozenAt J
  have hx : ((fr bs).map B)[J]? = some (B ((fr bs).getD J 0)) := by simp [List.getD, fr_len, j8]
  rw [hx] at hcell
  clear hx
  have HX : Hid (∀ y, y ≠ (fr bs).getD J 0 → unf ((fr bs).set J y) = ⟨[], 0, 2⟩) := fun y hy => unf_set bs (by omega) J y j4 j8 hy
  generalize (fr bs).getD J 0 = x at *
  have HO := hide own2
  clear own2
  go_region
  obtain ⟨y, hy, hyv⟩ := turned x s s1
  have hfin := unhide HX y hy
  rw [hyv]
  have own3 := ((unhide HO).stored J (B y)).1.drew
  rw [← List.map_set] at own3
  have R3 := Rd.of_owned_at own3
  have hb3 : Below w.heap.size w (w2.setCell ⟨g, J, none⟩ (B y)).drew := (hb12.setCell (p := ⟨g, J, none⟩) (by show w.heap.size ≤ g; omega) (B y)).drew
  generalize (w2.setCell ⟨g, J, none⟩ (B y)).drew = w3 at *
  clear hyv HO HX hcell hfz own3 hb2 hb12 hy
  go_wp2_with fail
  refine (unframe_is _ _ c2 ((fr bs).set J y) w3 [] 0 2 0 0 2 (by rw [List.length_set, fr_len]) R3 (by omega) hfin rfl rfl rfl).mono ?_
  rintro e w4 ⟨a4, c4, rfl, _, hb4⟩
  go_wp2
  go_ret
  exact ⟨rfl, hb3.trans (hb4.mono hb3.size)⟩

theorem bits_big (a0 : Option Addr) (l0 cap0 : Nat) (k : Int) (w : World) (h : 100 < l0) (h0 : l0 ≤ 9223372036854775807) :
    Calls Try.prog 8 #[.slice a0 l0 cap0, .int .u16 k] w fun e w' => e = .returned (.bool true) ∧ Below w.heap.size w w' := by
  go_enter Try.func8, Try.ntmps8
  go_wp2_with fail
  refine (begun_any w).mono ?_
  rintro e w1 ⟨rfl, hb1⟩
  go_wp2
  go_ret
  exact ⟨rfl, hb1⟩
end Go.Proofs.Ytjkbapjdojhdeaa
