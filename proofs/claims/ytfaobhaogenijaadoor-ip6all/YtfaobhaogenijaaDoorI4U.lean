/-
  Numbers in eights and sixteens, as the statements write them; Ten.
-/
import Derived.Test.YtfaobhaogenijaaDoorI4T
namespace Go.Proofs.YtfaobhaogenijaaDoor
set_option linter.unusedVariables false
open Go.RowKit

def hexs : List UInt8 := [48, 49, 50, 51, 52, 53, 54, 55, 56, 57, 97, 98, 99, 100, 101, 102]
theorem hexs_at : ∀ d : Fin 16, (⟨hexs.toArray⟩ : ByteArray).extract d.val (d.val + 1) = ⟨[hexd d.val].toArray⟩ := by decide +kernel
theorem hex_slice (d : Nat) (hd : d < 16) (v : World) : (Instr.slice 9 (.string ⟨#[48, 49, 50, 51, 52, 53, 54, 55, 56, 57, 97, 98, 99, 100, 101, 102]⟩) (some (.int .u64 (d : Int))) (some (.int .u64 ((d : Int) + 1))) none).run Tryd.prog v = .ok (S [hexd d]) v := by
  have h := run_slice_string v 9 ⟨hexs.toArray⟩ .u64 .u64 (d : Int) ((d : Int) + 1) Tryd.underlying9 (by omega) (by omega) (by show (d : Int) + 1 ≤ 16; omega)
  rw [show ((d : Int)).toNat = d by omega, show ((d : Int) + 1).toNat = d + 1 by omega, hexs_at ⟨d, hd⟩] at h
  exact h

end Go.Proofs.YtfaobhaogenijaaDoor
