/-
  What the document's own edge, adapt and digit tell.
-/
import Derived.Test.YtgnkhfmpooomkaaDoorPunyB
import Derived.Test.YtgnkhfmpooomkaaDoorStr
namespace Go.Proofs.YtgnkhfmpooomkaaDoor
set_option linter.unusedVariables false
open Go.RowKit

theorem thr_int (k bias : Nat) : ((thr k bias : Nat) : Int) = min (max ((k : Int) - (bias : Int)) 1) 26 := by unfold thr; omega

theorem adLoop_more (f d k : Nat) (h : 455 < d) : adLoop (f + 1) d k = adLoop f (d / 35) (k + 36) := by rw [adLoop, if_pos h]
theorem adLoop_end (f d k : Nat) (h : ¬ 455 < d) : adLoop f d k = k + 36 * d / (d + 38) := by
  cases f with
  | zero => rfl
  | succ f => rw [adLoop, if_neg h]

theorem letter_get : ∀ k : Fin 36, ([97, 98, 99, 100, 101, 102, 103, 104, 105, 106, 107, 108, 109, 110, 111, 112, 113, 114, 115, 116, 117, 118, 119, 120, 121, 122, 48, 49, 50, 51, 52, 53, 54, 55, 56, 57] : List UInt8).getD k.val 0 = letter k.val := by decide +kernel
theorem idx_letter (w : World) (kd : IntKind) (k : Nat) (hk : k < 36) : (Instr.index 9 (.string ⟨#[97, 98, 99, 100, 101, 102, 103, 104, 105, 106, 107, 108, 109, 110, 111, 112, 113, 114, 115, 116, 117, 118, 119, 120, 121, 122, 48, 49, 50, 51, 52, 53, 54, 55, 56, 57]⟩) (.int kd (k : Int))).run Tryd.prog w = .ok (B (letter k)) w := by
  have := idx_str w [97, 98, 99, 100, 101, 102, 103, 104, 105, 106, 107, 108, 109, 110, 111, 112, 113, 114, 115, 116, 117, 118, 119, 120, 121, 122, 48, 49, 50, 51, 52, 53, 54, 55, 56, 57] kd k (by simpa using hk)
  rw [letter_get ⟨k, hk⟩] at this
  exact this

/-- A digit's number, or -1. -/
def dvi (b : UInt8) : Int := match dv b with | some n => (n : Int) | none => -1

theorem dv_lower : ∀ b : Fin 256, 65 ≤ b.val ∧ b.val ≤ 90 → dv (UInt8.ofNat b.val) = dv (UInt8.ofNat (b.val + 32)) := by decide +kernel

end Go.Proofs.YtgnkhfmpooomkaaDoor
