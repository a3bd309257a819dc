/-
  I6O.
-/
import Derived.Test.YtenlampiiodkhaaGreatDoorI6Nb
namespace Go.Proofs.YtenlampiiodkhaaGreatDoor
set_option linter.unusedVariables false
open Go.RowKit

end Go.Proofs.YtenlampiiodkhaaGreatDoor
