/-
  That utf has begun.
-/
import Derived.Test.YtilmkmplaehcaaaDoorU7
namespace Go.Proofs.YtilmkmplaehcaaaDoor
set_option linter.unusedVariables false
open Go.RowKit

theorem dec_begun : dec [195, 164, 97] = [228, 97] := by decide +kernel
theorem enc_begun : enc [228, 97] = [195, 164, 97] := by decide +kernel
theorem vld_97 : vld [97] = true := by decide +kernel
theorem vld_255 : vld [255] = false := by decide +kernel

end Go.Proofs.YtilmkmplaehcaaaDoor
