/-
  What the document's own Encode and SameRunes tell.
-/
import Derived.Test.YtgnkhfmpooomkaaDoorUtfR
namespace Go.Proofs.YtgnkhfmpooomkaaDoor
set_option linter.unusedVariables false
open Go.RowKit

theorem uinfoB : (Tryd.prog.info? 5).map (fun i => (i.zero, i.size, i.bytes)) = some (some (.int .u8 0), 1, 1) := by kernel_rfl
theorem uinfoR : (Tryd.prog.info? 21).map (fun i => (i.zero, i.size, i.bytes)) = some (some (.int .i32 0), 1, 4) := by kernel_rfl

theorem enc_take (rs : List Int) (k : Nat) (h : k < rs.length) : enc (rs.take (k + 1)) = enc (rs.take k) ++ one (rs.getD k 0) := by
  rw [take_snoc rs k 0 h, enc_append]
  simp [enc]

theorem ugetD_range {rs : List Int} (hr : ∀ r ∈ rs, -2147483648 ≤ r ∧ r ≤ 2147483647) (k : Nat) (h : k < rs.length) : -2147483648 ≤ rs.getD k 0 ∧ rs.getD k 0 ≤ 2147483647 := by
  have : rs.getD k 0 = rs[k] := by simp [List.getD, h]
  rw [this]
  exact hr _ (List.getElem_mem h)

end Go.Proofs.YtgnkhfmpooomkaaDoor
