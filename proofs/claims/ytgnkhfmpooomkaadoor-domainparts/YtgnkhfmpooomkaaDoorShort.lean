/-
  What the document's shortest tells.
-/
import Derived.Test.YtgnkhfmpooomkaaDoorGen
namespace Go.Proofs.YtgnkhfmpooomkaaDoor
set_option linter.unusedVariables false
open Go.RowKit

/-- How many bytes a code point has; 0: it is none. -/
def sh (r : Int) : Nat :=
  if r < 0 ∨ 1114111 < r ∨ (55296 ≤ r ∧ r ≤ 57343) then 0 else if r < 128 then 1 else if r < 2048 then 2 else if r < 65536 then 3 else 4

end Go.Proofs.YtgnkhfmpooomkaaDoor
