/-
  What the document's SameRunes tells of two lists that are one.
-/
import Derived.Test.YtgnkhfmpooomkaaDoorGen
namespace Go.Proofs.YtgnkhfmpooomkaaDoor
set_option linter.unusedVariables false
open Go.RowKit

theorem infoR : (Tryd.prog.info? 21).map (fun i => (i.zero, i.size, i.bytes)) = some (some (.int .i32 0), 1, 4) := by kernel_rfl

end Go.Proofs.YtgnkhfmpooomkaaDoor
