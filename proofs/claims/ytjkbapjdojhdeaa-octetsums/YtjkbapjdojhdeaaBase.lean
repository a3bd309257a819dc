/-
  Plain facts on bytes and numbers, and what it means that a slice value reads as bytes. Nothing is proved of the program here.
-/
import Derived.Test.YtjkbapjdojhdeaaRows
import Derived.WalkKit
import Derived.ProofKit
import Derived.OpenShut
import Derived.Below
import Derived.WalkSpells
import Derived.WalkLawsBesides
namespace Go.Proofs.Ytjkbapjdojhdeaa
set_option linter.unusedVariables false
open Go.RowKit

/-- The number that bytes are, the highest first. -/
def num (bs : List UInt8) : Nat := bs.foldl (fun v x => v * 256 + x.toNat) 0

theorem num_snoc (bs : List UInt8) (x : UInt8) : num (bs ++ [x]) = num bs * 256 + x.toNat := by simp [num]

theorem num_nil : num [] = 0 := rfl

theorem foldl_num_lt (bs : List UInt8) (s : Nat) : bs.foldl (fun v x => v * 256 + x.toNat) s < (s + 1) * 256 ^ bs.length := by
  induction bs generalizing s with
  | nil => simp
  | cons x r ih =>
    simp only [List.foldl_cons, List.length_cons]
    refine Nat.lt_of_lt_of_le (ih _) ?_
    have := x.toNat_lt
    calc (s * 256 + x.toNat + 1) * 256 ^ r.length ≤ ((s + 1) * 256) * 256 ^ r.length := Nat.mul_le_mul_right _ (by omega)
      _ = (s + 1) * 256 ^ (r.length + 1) := by rw [Nat.pow_succ, Nat.mul_assoc, Nat.mul_comm 256]

theorem num_lt (bs : List UInt8) : num bs < 256 ^ bs.length := by
  have := foldl_num_lt bs 0
  simpa [num] using this

theorem take_snoc (bs : List UInt8) (k : Nat) (h : k < bs.length) : bs.take (k + 1) = bs.take k ++ [bs.getD k 0] := by
  rw [List.take_succ_eq_append_getElem h]
  simp [List.getD, h]

theorem num_take_lt (bs : List UInt8) (k : Nat) (h : k < 8) : num (bs.take k) < 72057594037927936 := by
  refine Nat.lt_of_lt_of_le (num_lt _) ?_
  have hl : (bs.take k).length ≤ 7 := by simp; omega
  exact Nat.le_trans (Nat.pow_le_pow_right (by decide) hl) (by decide)

theorem num_lt_u64 (bs : List UInt8) (h : bs.length ≤ 8) : num bs < 18446744073709551616 :=
  Nat.lt_of_lt_of_le (num_lt _) (Nat.le_trans (Nat.pow_le_pow_right (by decide) h) (by decide))

/-- A byte as a cell. -/
abbrev B (x : UInt8) : Value := .int .u8 (x.toNat : Int)

/-- The n lowest bytes of a number, the highest first. -/
def be : Nat → Nat → List UInt8
  | 0, _ => []
  | n + 1, v => UInt8.ofNat (v / 256 ^ n) :: be n v

theorem be_length (n v : Nat) : (be n v).length = n := by
  induction n with
  | zero => rfl
  | succ n ih => simp [be, ih]

theorem be_getD (n v i : Nat) (h : i < n) : (be n v).getD i 0 = UInt8.ofNat (v / 256 ^ (n - 1 - i)) := by
  induction n generalizing i with
  | zero => omega
  | succ n ih =>
    cases i with
    | zero => simp [be]
    | succ i =>
      have := ih i (by omega)
      simp only [be, List.getD_cons_succ, this]
      congr 3
      omega

/-- The slice value with this address and capacity reads as these bytes. -/
structure Rd (w : World) (ao : Option Addr) (cap : Nat) (bs : List UInt8) : Prop where
  le : bs.length ≤ cap
  max : cap ≤ 9223372036854775807
  nil : ao = none → cap = 0
  cell : ∀ i, i < bs.length → ∃ b off, ao = some ⟨b, off, none⟩ ∧ w.cell? ⟨b, off + i, none⟩ = some (B (bs.getD i 0))

end Go.Proofs.Ytjkbapjdojhdeaa
