/-
  Numbers in digits, as the document and the statements write them.
-/
import Derived.Test.YtfaobhaogenijaaDoorI4E
namespace Go.Proofs.YtfaobhaogenijaaDoor
set_option linter.unusedVariables false
open Go.RowKit

/-- The number that is left, and the digits that are written. -/
structure Wrt (b n m : Nat) (acc : List UInt8) : Prop where
  eq : bdg b n = bdg b m ++ acc
  le : m ≤ n / 2 ^ acc.length
  pos : acc = [] ∨ 0 < m
theorem Wrt.start (b n : Nat) : Wrt b n n [] := ⟨by simp, by simp, .inl rfl⟩
theorem Wrt.len {b n m : Nat} {acc : List UInt8} (h : Wrt b n m acc) (hn : n < 18446744073709551616) : acc.length ≤ 64 := by
  rcases h.pos with h0 | h0
  · rw [h0]
    simp
  · have h1 : 1 ≤ n / 2 ^ acc.length := Nat.le_trans h0 h.le
    have h2 := (Nat.le_div_iff_mul_le (Nat.two_pow_pos acc.length)).1 h1
    rw [Nat.one_mul] at h2
    have h3 : 2 ^ acc.length < 2 ^ 64 := Nat.lt_of_le_of_lt h2 hn
    have := (Nat.pow_lt_pow_iff_right (show 1 < 2 by decide)).1 h3
    omega
theorem Wrt.next {b n m : Nat} {acc : List UInt8} (h : Wrt b n m acc) (hb : 2 ≤ b) (hm : ¬ m < b) : Wrt b n (m / b) (hexd (m % b) :: acc) := by
  refine ⟨?_, ?_, .inr (Nat.div_pos (by omega) (by omega))⟩
  · rw [h.eq, bdg_great hm hb]
    simp
  · rw [List.length_cons, Nat.pow_succ, ← Nat.div_div_eq_div_mul]
    exact Nat.le_trans (Nat.div_le_div_left hb (by decide)) (Nat.div_le_div_right h.le)
theorem Wrt.last {b n m : Nat} {acc : List UInt8} (h : Wrt b n m acc) (hb : b ≤ 16) (hm : m < b) : bdg b n = hexd (m % b) :: acc := by
  rw [h.eq, bdg_small hm hb, Nat.mod_eq_of_lt hm]
  rfl
theorem cat_one (x : UInt8) (acc : List UInt8) : (⟨[x].toArray⟩ : ByteArray) ++ (⟨acc.toArray⟩ : ByteArray) = ⟨(x :: acc).toArray⟩ := by
  apply ByteArray.ext
  rw [ByteArray.data_append]
  simp
theorem hexd_ten : ∀ d : Fin 10, (((hexd d.val).toNat : Nat) : Int) = 48 + (d.val : Int) := by decide +kernel

end Go.Proofs.YtfaobhaogenijaaDoor
