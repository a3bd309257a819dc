/-
  Ends and Show of package ip4.
-/
import Derived.Test.YtfaobhaogenijaaDoorI4D
import Derived.Test.YtfaobhaogenijaaDoorOps
import Derived.Lib.AppendStr
namespace Go.Proofs.YtfaobhaogenijaaDoor
set_option linter.unusedVariables false
open Go.RowKit

/-- What Show has written behind so many numbers. -/
def shwK (a : Nat) : Nat → List UInt8
  | 0 => []
  | k + 1 => (shwK a k ++ if 0 < k then [46] else []) ++ Lib.decDigits (a / 256 ^ (3 - k) % 256)
theorem shwK_len (a : Nat) : ∀ k, k ≤ 4 → (shwK a k).length ≤ 4 * k := by
  have hd : ∀ u : Nat, u < 256 → (Lib.decDigits u).length ≤ 3 := by
    intro u hu
    rw [dec_bdg]
    by_cases h1 : u < 10
    · rw [bdg_small h1 (by decide)]
      simp
    · rw [bdg_great h1 (by decide)]
      by_cases h2 : u / 10 < 10
      · rw [bdg_small h2 (by decide)]
        simp
      · rw [bdg_great h2 (by decide), bdg_small (by omega) (by decide)]
        simp
  intro k
  induction k with
  | zero => intro _; simp [shwK]
  | succ k ih =>
    intro hk
    have := ih (by omega)
    have h3 := hd (a / 256 ^ (3 - k) % 256) (Nat.mod_lt _ (by decide))
    rw [shwK, List.length_append, List.length_append]
    split <;> simp <;> omega
theorem shwK_4 (a : Nat) (h : a < 4294967296) : shwK a 4 = shw a := by
  unfold shw
  simp only [shwK]
  have e : a / 256 ^ (3 - 0) % 256 = a / 16777216 := by
    show a / 16777216 % 256 = _
    omega
  rw [e]
  simp

theorem appU_any (B0 n u : Nat) (hu : u < 256) (sv : Value) (xs : List Value) (w : World) (hown : w.ownsRow B0 5 1 sv n xs) (hBw : B0 ≤ w.heap.size) (hlim : n ≤ 1000) (tb : Tb4 w) :
    Calls Tryd.prog 29 #[sv, .int .u64 (u : Int), .int .i64 10] w fun e w' => ∃ v', e = .returned v' ∧ w'.ownsRow B0 5 1 v' (n + (Lib.decDigits u).length) (xs ++ (Lib.decDigits u).map B) ∧ Below B0 w w' := by
  by_cases h : u < 100
  · refine (Tryd.internal_strconv_AppendUint_10_small B0 n u h sv xs w hown hBw (by omega)).mono ?_
    rintro e w' ⟨v', rfl, h1, h2, _⟩
    exact ⟨v', rfl, h1, h2⟩
  · refine (Tryd.internal_strconv_AppendUint_10_big B0 n u (by omega) (by omega) sv xs w hown hBw (by omega) tb.pow).mono ?_
    rintro e w' ⟨v', rfl, h1, h2, _⟩
    exact ⟨v', rfl, h1, h2⟩
theorem appUint_any (B0 n u : Nat) (hu : u < 256) (sv : Value) (xs : List Value) (w : World) (hown : w.ownsRow B0 5 1 sv n xs) (hBw : B0 ≤ w.heap.size) (hlim : n ≤ 1000) (tb : Tb4 w) :
    Calls Tryd.prog 23 #[sv, .int .u64 (u : Int), .int .i64 10] w fun e w' => ∃ v', e = .returned v' ∧ w'.ownsRow B0 5 1 v' (n + (Lib.decDigits u).length) (xs ++ (Lib.decDigits u).map B) ∧ Below B0 w w' := by
  have HC := hide (appU_any B0 n u hu sv xs w hown hBw hlim tb)
  generalize (Lib.decDigits u).map B = ds at *
  generalize (Lib.decDigits u).length = dl at *
  clear hown
  go_enter Tryd.func23, Tryd.ntmps23
  go_wp2_with fail
  refine (unhide HC).mono ?_
  rintro e w2 ⟨v', rfl, h1, h2⟩
  clear HC
  have H1 := hide h1
  have H2 := hide h2
  clear h1 h2
  go_wp2
  go_ret
  exact ⟨v', rfl, unhide H1, unhide H2⟩
end Go.Proofs.YtfaobhaogenijaaDoor
