/-
  What Decode of package pct tells.
-/
import Derived.Test.YtbmikdocjnpidaaDoorPctE
namespace Go.Proofs.YtbmikdocjnpidaaDoor.Pct
set_option linter.unusedVariables false
open Go.RowKit

/-- A text. -/
abbrev S (bs : List UInt8) : Value := .string ⟨bs.toArray⟩

/-- Is it a digit, and which? -/
def isx (b : UInt8) : Bool := (decide (48 ≤ b.toNat) && decide (b.toNat ≤ 57)) || (decide (97 ≤ b.toNat) && decide (b.toNat ≤ 102)) || (decide (65 ≤ b.toNat) && decide (b.toNat ≤ 70))
def hx (b : UInt8) : Nat := if b.toNat ≤ 57 then b.toNat - 48 else if 97 ≤ b.toNat then b.toNat - 87 else b.toNat - 55

theorem hx_lt : ∀ b : UInt8, isx b = true → hx b < 16 := by
  intro b h
  unfold isx at h
  simp only [Bool.or_eq_true, Bool.and_eq_true, decide_eq_true_eq] at h
  unfold hx
  split
  · omega
  · split <;> omega

/-- The byte that two digits are. -/
def two (a b : UInt8) : UInt8 := UInt8.ofNat (16 * hx a + hx b)

/-- The document's reading. -/
def decd : List UInt8 → List UInt8
  | [] => []
  | [x] => [x]
  | [x, y] => [x, y]
  | x :: a :: b :: r => if (x == 37 && isx a && isx b) = true then two a b :: decd r else x :: decd (a :: b :: r)

theorem decd_nil : decd [] = [] := rfl

/-- What stands at the front, and of how many bytes. -/
def frontIs (l : List UInt8) : Bool := decide (3 ≤ l.length) && l.getD 0 0 == 37 && isx (l.getD 1 0) && isx (l.getD 2 0)

theorem decd_yes {l : List UInt8} (h : frontIs l = true) : decd l = two (l.getD 1 0) (l.getD 2 0) :: decd (l.drop 3) := by
  match l, h with
  | [], h => simp [frontIs] at h
  | [x], h => simp [frontIs] at h
  | [x, y], h => simp [frontIs] at h
  | x :: a :: b :: r, h =>
    have h' : (x == 37 && isx a && isx b) = true := by simpa [frontIs] using h
    rw [decd, if_pos h']
    rfl

theorem decd_no {l : List UInt8} (h : frontIs l = false) (h0 : 0 < l.length) : decd l = l.getD 0 0 :: decd (l.drop 1) := by
  match l, h with
  | [], h => simp at h0
  | [x], h => rfl
  | [x, y], h => rfl
  | x :: a :: b :: r, h =>
    have h' : ¬ (x == 37 && isx a && isx b) = true := by
      intro e
      have : frontIs (x :: a :: b :: r) = true := by simpa [frontIs] using e
      rw [this] at h
      cases h
    rw [decd, if_neg h']
    rfl

theorem decd_len (l : List UInt8) : (decd l).length ≤ l.length := by
  match l with
  | [] => simp [decd]
  | [x] => simp [decd]
  | [x, y] => simp [decd]
  | x :: a :: b :: r =>
    have h1 := decd_len r
    have h2 := decd_len (a :: b :: r)
    rw [decd]
    split <;> simp at * <;> omega

theorem size_S (bs : List UInt8) : (⟨bs.toArray⟩ : ByteArray).size = bs.length := by simp [ByteArray.size]

theorem shl_or : ∀ x y : Fin 16, bits .or .u8 (16 * (x.val : Int)) (y.val : Int) = 16 * (x.val : Int) + (y.val : Int) := by decide +kernel

theorem at_S (l : List UInt8) (k : Nat) (hk : k < (⟨l.toArray⟩ : ByteArray).size) : (⟨l.toArray⟩ : ByteArray)[k] = l.getD k 0 := by
  have h : k < l.length := by rw [size_S] at hk; exact hk
  have : (⟨l.toArray⟩ : ByteArray)[k] = l[k] := by
    show l.toArray[k]'_ = _
    simp
  rw [this]
  simp [List.getD, h]

theorem drop_S (l : List UInt8) (k : Nat) : (⟨l.toArray⟩ : ByteArray).extract k (⟨l.toArray⟩ : ByteArray).size = ⟨(l.drop k).toArray⟩ := by
  have h := Lib.extract_data ⟨l.toArray⟩ k (⟨l.toArray⟩ : ByteArray).size
  rw [size_S] at *
  have h2 : ((⟨l.toArray⟩ : ByteArray).extract k l.length).data = (l.drop k).toArray := by
    apply Array.toList_inj.1
    rw [h]
    show List.take (l.length - k) (List.drop k l) = _
    rw [List.take_of_length_le (by simp)]
  exact ByteArray.ext h2

/-- s[k:] -/
theorem run_drop (w : World) (l : List UInt8) (k : Nat) (h : k ≤ l.length) : (Instr.slice 9 (S l) (some (.int .i64 (k : Int))) none none).run Tryd.prog w = .ok (S (l.drop k)) w := by
  rw [run_slice_string_l w 9 ⟨l.toArray⟩ Tryd.underlying9 .i64 (k : Int) (by omega) (by rw [size_S]; omega)]
  rw [Int.toNat_natCast, drop_S]

def strLen : Value → Nat
  | .string s => s.size
  | _ => 0

end Go.Proofs.YtbmikdocjnpidaaDoor.Pct
