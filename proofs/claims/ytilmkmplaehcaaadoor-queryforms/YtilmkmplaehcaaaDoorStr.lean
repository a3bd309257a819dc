/-
  Texts: their bytes, their places, what is left of them.
-/
import Derived.Test.YtilmkmplaehcaaaDoorGen
import Derived.Lib.Strings
namespace Go.Proofs.YtilmkmplaehcaaaDoor
set_option linter.unusedVariables false
open Go.RowKit

/-- A text. -/
abbrev S (bs : List UInt8) : Value := .string ⟨bs.toArray⟩
theorem size_S (bs : List UInt8) : (⟨bs.toArray⟩ : ByteArray).size = bs.length := by simp [ByteArray.size]
theorem at_S (l : List UInt8) (k : Nat) (hk : k < (⟨l.toArray⟩ : ByteArray).size) : (⟨l.toArray⟩ : ByteArray)[k] = l.getD k 0 := by
  have h : k < l.length := by rw [size_S] at hk; exact hk
  have : (⟨l.toArray⟩ : ByteArray)[k] = l[k] := by
    show l.toArray[k]'_ = _
    simp
  rw [this]
  simp [List.getD, h]
/-- s[k] -/
theorem idx_str (w : World) (bs : List UInt8) (kd : IntKind) (k : Nat) (hk : k < bs.length) : (Instr.index 9 (.string ⟨bs.toArray⟩) (.int kd (k : Int))).run Tryd.prog w = .ok (B (bs.getD k 0)) w := by
  rw [run_index_string w 9 ⟨bs.toArray⟩ kd (k : Int) Tryd.underlying9]
  rw [dif_pos ⟨by omega, by rw [size_S]; omega⟩]
  have e := at_S bs ((k : Int)).toNat (by rw [size_S]; omega)
  rw [e]
  simp
theorem drop_S (l : List UInt8) (k : Nat) : (⟨l.toArray⟩ : ByteArray).extract k (⟨l.toArray⟩ : ByteArray).size = ⟨(l.drop k).toArray⟩ := by
  have h := Lib.extract_data ⟨l.toArray⟩ k (⟨l.toArray⟩ : ByteArray).size
  rw [size_S] at *
  have h2 : ((⟨l.toArray⟩ : ByteArray).extract k l.length).data = (l.drop k).toArray := by
    apply Array.toList_inj.1
    rw [h]
    show List.take (l.length - k) (List.drop k l) = _
    rw [List.take_of_length_le (by simp)]
  exact ByteArray.ext h2
/-- s[k:] -/
theorem run_drop (w : World) (l : List UInt8) (k : Nat) (h : k ≤ l.length) : (Instr.slice 9 (S l) (some (.int .i64 (k : Int))) none none).run Tryd.prog w = .ok (S (l.drop k)) w := by
  rw [run_slice_string_l w 9 ⟨l.toArray⟩ Tryd.underlying9 .i64 (k : Int) (by omega) (by rw [size_S]; omega)]
  rw [Int.toNat_natCast, drop_S]
def strLen : Value → Nat
  | .string s => s.size
  | _ => 0
end Go.Proofs.YtilmkmplaehcaaaDoor
