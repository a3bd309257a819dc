/-
  What the document's shortest tells.
-/
import Derived.Test.YtenlampiiodkhaaGreatDoorGen
namespace Go.Proofs.YtenlampiiodkhaaGreatDoor
set_option linter.unusedVariables false
open Go.RowKit

/-- How many bytes a code point has; 0: it is none. -/
def sh (r : Int) : Nat :=
  if r < 0 ∨ 1114111 < r ∨ (55296 ≤ r ∧ r ≤ 57343) then 0 else if r < 128 then 1 else if r < 2048 then 2 else if r < 65536 then 3 else 4

theorem shortest_any (r : Int) (w : World) : Calls Tryz.prog 103 #[.int .i32 r] w fun e w' => e = .returned (.int .i64 (sh r : Int)) ∧ w' = w := by
  unfold sh
  by_cases h1 : r < 0
  · rw [if_pos (.inl h1)]
    go_enter Tryz.func103, Tryz.ntmps103
    go_wp2
    go_ret
    exact ⟨rfl, rfl⟩
  · by_cases h2 : 1114111 < r
    · rw [if_pos (.inr (.inl h2))]
      go_enter Tryz.func103, Tryz.ntmps103
      go_wp2
      go_ret
      exact ⟨rfl, rfl⟩
    · by_cases h3 : 55296 ≤ r
      · by_cases h4 : r ≤ 57343
        · rw [if_pos (.inr (.inr ⟨h3, h4⟩))]
          go_enter Tryz.func103, Tryz.ntmps103
          go_wp2
          go_ret
          exact ⟨rfl, rfl⟩
        · rw [if_neg (by omega), if_neg (by omega), if_neg (by omega)]
          by_cases h5 : r < 65536
          · rw [if_pos h5]
            go_enter Tryz.func103, Tryz.ntmps103
            go_wp2
            go_ret
            exact ⟨rfl, rfl⟩
          · rw [if_neg h5]
            go_enter Tryz.func103, Tryz.ntmps103
            go_wp2
            go_ret
            exact ⟨rfl, rfl⟩
      · rw [if_neg (by omega)]
        by_cases h5 : r < 128
        · rw [if_pos h5]
          go_enter Tryz.func103, Tryz.ntmps103
          go_wp2
          go_ret
          exact ⟨rfl, rfl⟩
        · rw [if_neg h5]
          by_cases h6 : r < 2048
          · rw [if_pos h6]
            go_enter Tryz.func103, Tryz.ntmps103
            go_wp2
            go_ret
            exact ⟨rfl, rfl⟩
          · rw [if_neg h6, if_pos (by omega)]
            go_enter Tryz.func103, Tryz.ntmps103
            go_wp2
            go_ret
            exact ⟨rfl, rfl⟩

end Go.Proofs.YtenlampiiodkhaaGreatDoor
