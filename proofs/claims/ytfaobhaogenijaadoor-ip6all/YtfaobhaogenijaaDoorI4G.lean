/-
  That ip4 does something; what is shown is parsed; some addresses.
-/
import Derived.Test.YtfaobhaogenijaaDoorI4F
namespace Go.Proofs.YtfaobhaogenijaaDoor
set_option linter.unusedVariables false
open Go.RowKit

theorem shw_begun : shw 2130706433 = [49, 50, 55, 46, 48, 46, 48, 46, 49] := by
  unfold shw
  simp [Lib.decDigits]
theorem parse_lit (l : List UInt8) (o : Option Nat) (h : prs l = o) (hl : l.length ≤ 100000) (w : World) (tb : Tb4 w) : Calls Tryd.prog 33 #[S l] w fun e w' => e = .returned (.tuple #[.int .u32 (numV o), .int .i64 (perr o)]) ∧ Ext w w' := by
  rw [← h]
  exact parse_any l w hl tb
theorem cat_dot (b : List UInt8) : (⟨b.toArray⟩ : ByteArray) ++ (⟨#[46]⟩ : ByteArray) = ⟨(b ++ [46]).toArray⟩ := by
  apply ByteArray.ext
  rw [ByteArray.data_append]
  simp
theorem shw_len (a : Nat) (h : a < 4294967296) : (shw a).length ≤ 16 := by
  have := shwK_len a 4 (Nat.le_refl _)
  rw [shwK_4 a h] at this
  omega

end Go.Proofs.YtfaobhaogenijaaDoor
