/-
  A row of pieces, nought or not, shown: the walk.
-/
import Derived.Test.YtfaobhaogenijaaDoorI6N
namespace Go.Proofs.YtfaobhaogenijaaDoor
set_option linter.unusedVariables false
open Go.RowKit

theorem fill_set (a : List Nat) (k : Nat) (hk : k < a.length) (h8 : a.length = 8) : ((a.take k).map U ++ List.replicate (8 - k) (U 0)).toArray.setIfInBounds k (U (a.getD k 0)) = ((a.take (k + 1)).map U ++ List.replicate (8 - (k + 1)) (U 0)).toArray := by
  have hl : ((a.take k).map U).length = k := by rw [List.length_map, List.length_take]; omega
  rw [List.setIfInBounds_toArray]
  congr 1
  rw [List.set_append_right k _ (by omega), hl, Nat.sub_self, show 8 - k = (8 - (k + 1)) + 1 by omega, List.replicate_succ, List.set_cons_zero, take_snoc a k 0 hk, List.map_append, List.append_assoc]
  rfl
theorem bit_digit (v : Nat) (h : v ≤ 1) : B (hexd v) = .int .u8 (48 + (v : Int)) ∧ bdg 16 v = [hexd v] := by
  have e : v = 0 ∨ v = 1 := by omega
  rcases e with rfl | rfl <;> exact ⟨rfl, bdg_small (by decide) (by decide)⟩

theorem list8 (a : List Nat) (h : a.length = 8) : ∃ x0 x1 x2 x3 x4 x5 x6 x7, a = [x0, x1, x2, x3, x4, x5, x6, x7] := by
  match a, h with
  | [a, b, c, d, e, f, g, i], _ => exact ⟨a, b, c, d, e, f, g, i, rfl⟩
end Go.Proofs.YtfaobhaogenijaaDoor
