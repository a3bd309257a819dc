/-
  What the document's own Map and Text tell of any code points.
-/
import Derived.Test.YtgnkhfmpooomkaaDoorFoldR
namespace Go.Proofs.YtgnkhfmpooomkaaDoor
set_option linter.unusedVariables false
open Go.RowKit

theorem fgetD_range {rs : List Int} (hr : ∀ r ∈ rs, -2147483648 ≤ r ∧ r ≤ 2147483647) (k : Nat) (h : k < rs.length) : -2147483648 ≤ rs.getD k 0 ∧ rs.getD k 0 ≤ 2147483647 := by
  have : rs.getD k 0 = rs[k] := by simp [List.getD, h]
  rw [this]
  exact hr _ (List.getElem_mem h)

end Go.Proofs.YtgnkhfmpooomkaaDoor
