/-
  What the leaves of package utf tell: how many bytes a first byte asks for, the ones it begins with, whether a number is a code point, and how many bytes it has.
-/
import Derived.Test.YtilmkmplaehcaaaDoorUtfS
import Derived.Lib.BitFns
namespace Go.Proofs.YtilmkmplaehcaaaDoor
set_option linter.unusedVariables false
open Go.RowKit

theorem len8_any (x : Int) (w : World) (h0 : 0 ≤ x) (h1 : x ≤ 255) : Calls Tryd.prog 78 #[.int .u8 x] w fun e w' => e = .returned (.int .i64 (Lib.bitLen x.toNat)) ∧ w' = w := by
  rw [← Lib.len8_int x h0 h1]
  go_enter Tryd.func78, Tryd.ntmps78
  go_wp2
  go_ret
  refine ⟨?_, rfl⟩
  generalize Lib.len8 x = y
  refine ret_int ?_
  simp only [wrap64]

theorem lz8_any (x : Int) (w : World) (h0 : 0 ≤ x) (h1 : x ≤ 255) : Calls Tryd.prog 75 #[.int .u8 x] w fun e w' => e = .returned (.int .i64 (8 - (Lib.bitLen x.toNat : Int))) ∧ w' = w := by
  have l := Lib.bitLen_le8 ⟨x.toNat, by omega⟩
  simp only at l
  have e8 : (8 - (Lib.bitLen x.toNat : Int) + 9223372036854775808) % 18446744073709551616 - 9223372036854775808 = 8 - (Lib.bitLen x.toNat : Int) := by omega
  go_enter Tryd.func75, Tryd.ntmps75
  go_wp2_with (go_at_call 78; refine (len8_any x _ h0 h1).mono ?_; rintro e w' ⟨rfl, rfl⟩)
  go_ret
  refine ⟨?_, rfl⟩
  rw [← e8]
  rfl

/-- How many bytes a first byte asks for; 0: it is none. -/
def ld (x : Nat) : Nat := if x < 128 then 1 else if x < 192 then 0 else if x < 224 then 2 else if x < 240 then 3 else if x < 248 then 4 else 0

/-- How many ones it begins with. -/
def ones (x : Nat) : Nat := 8 - Lib.bitLen (255 - x)

theorem ones_le (x : Nat) (h : x < 256) : ones x ≤ 8 := by unfold ones; omega
theorem lz_ones (x : Nat) (h : x < 256) : (8 - (Lib.bitLen (255 - x) : Int)) = (ones x : Int) := by
  have l := Lib.bitLen_le8 ⟨255 - x, by omega⟩
  simp only at l
  unfold ones
  omega

theorem ld_ones : ∀ x : Fin 256, ld x.val = if ones x.val = 0 then 1 else if ones x.val = 1 ∨ 4 < ones x.val then 0 else ones x.val := by decide +kernel

theorem not8 : ∀ x : Fin 256, bits .xor .u8 IntKind.u8.max (x.val : Int) = 255 - (x.val : Int) := by decide +kernel

theorem sizeByLead_any (x : Nat) (w : World) (h : x < 256) : Calls Tryd.prog 69 #[.int .u8 (x : Int)] w fun e w' => e = .returned (.int .i64 (ld x : Int)) ∧ w' = w := by
  have e := ld_ones ⟨x, h⟩
  simp only at e
  rw [e]
  have hz := lz8_any (255 - (x : Int)) w (by omega) (by omega)
  have en : (255 - (x : Int)).toNat = 255 - x := by omega
  rw [en, lz_ones x h] at hz
  have HS := hide hz
  clear hz e en
  have ho := ones_le x h
  have nx := not8 ⟨x, h⟩
  simp only at nx
  generalize ones x = k at *
  go_enter Tryd.func69, Tryd.ntmps69
  go_wp2_with fail
  refine (unhide HS).mono ?_
  rintro e w1 ⟨rfl, rfl⟩
  clear HS
  by_cases k0 : k = 0
  · subst k0
    go_wp2
    go_ret
    exact ⟨rfl, rfl⟩
  · by_cases k1 : k = 1
    · subst k1
      go_wp2
      go_ret
      exact ⟨rfl, rfl⟩
    · by_cases k2 : 4 < k
      · have j1 : ((k : Int) == 1) = false := by simp; omega
        have j2 : decide (4 < (k : Int)) = true := by simp; omega
        go_wp2
        go_ret
        exact ⟨rfl, rfl⟩
      · have j1 : ((k : Int) == 1) = false := by simp; omega
        have j2 : decide (4 < (k : Int)) = false := by simp; omega
        go_wp2
        go_ret
        exact ⟨rfl, rfl⟩

/-- The ones that the first of so many bytes begins with. -/
def mk (n : Nat) : Nat := if n = 2 then 192 else if n = 3 then 224 else if n = 4 then 240 else 0

theorem lead_any (n : Nat) (w : World) (h1 : 1 ≤ n) (h4 : n ≤ 4) : Calls Tryd.prog 68 #[.int .i64 (n : Int)] w fun e w' => e = .returned (.int .u8 (mk n : Int)) ∧ w' = w := by
  have c : n = 1 ∨ n = 2 ∨ n = 3 ∨ n = 4 := by omega
  clear h1 h4
  rcases c with rfl | rfl | rfl | rfl
  all_goals
    go_enter Tryd.func68, Tryd.ntmps68
    go_wp2
    go_ret
    exact ⟨rfl, rfl⟩

theorem uisCode_any (r : Int) (w : World) : Calls Tryd.prog 50 #[.int .i32 r] w fun e w' => e = .returned (.bool (decide (ush r ≠ 0))) ∧ w' = w := by
  by_cases h : ush r = 0
  · have e : decide (ush r ≠ 0) = false := by simp [h]
    rw [e]
    have c : r < 0 ∨ 1114111 < r ∨ (55296 ≤ r ∧ r ≤ 57343) := by
      unfold ush at h
      split at h
      · assumption
      · exfalso; revert h; repeat' split
        all_goals omega
    clear e h
    rcases c with c | c | ⟨c, d⟩
    · have c1 : ¬ 0 ≤ r := by omega
      have c2 : ¬ 57343 < r := by omega
      go_enter Tryd.func50, Tryd.ntmps50
      go_wp2
      go_ret
      exact ⟨rfl, rfl⟩
    · have c1 : 0 ≤ r := by omega
      have c2 : 57343 < r := by omega
      have c3 : ¬ r < 55296 := by omega
      have c4 : ¬ r ≤ 1114111 := by omega
      go_enter Tryd.func50, Tryd.ntmps50
      go_wp2
      go_ret
      exact ⟨rfl, rfl⟩
    · have c1 : 0 ≤ r := by omega
      have c2 : ¬ 57343 < r := by omega
      have c3 : ¬ r < 55296 := by omega
      go_enter Tryd.func50, Tryd.ntmps50
      go_wp2
      go_ret
      exact ⟨rfl, rfl⟩
  · have e : decide (ush r ≠ 0) = true := by simp [h]
    rw [e]
    obtain ⟨h0, hm, hs, _⟩ := sh_bound (r := r) rfl h
    clear e h
    by_cases c : r < 55296
    · go_enter Tryd.func50, Tryd.ntmps50
      go_wp2
      go_ret
      exact ⟨rfl, rfl⟩
    · have c2 : 57343 < r := by omega
      go_enter Tryd.func50, Tryd.ntmps50
      go_wp2
      go_ret
      exact ⟨rfl, rfl⟩

/-- How many bytes so great a number takes. -/
def sz (r : Int) : Nat := if r < 128 then 1 else if r < 2048 then 2 else if r < 65536 then 3 else 4

theorem sz_sh {r : Int} (h : ush r ≠ 0) : sz r = ush r := by
  unfold ush at h ⊢
  unfold sz
  by_cases c : r < 0 ∨ 1114111 < r ∨ (55296 ≤ r ∧ r ≤ 57343)
  · rw [if_pos c] at h
    exact absurd rfl h
  · rw [if_neg c]

theorem size_any (r : Int) (w : World) : Calls Tryd.prog 67 #[.int .i32 r] w fun e w' => e = .returned (.int .i64 (sz r : Int)) ∧ w' = w := by
  unfold sz
  by_cases c1 : r < 128
  · rw [if_pos c1]
    go_enter Tryd.func67, Tryd.ntmps67
    go_wp2
    go_ret
    exact ⟨rfl, rfl⟩
  · rw [if_neg c1]
    by_cases c2 : r < 2048
    · rw [if_pos c2]
      go_enter Tryd.func67, Tryd.ntmps67
      go_wp2
      go_ret
      exact ⟨rfl, rfl⟩
    · rw [if_neg c2]
      by_cases c3 : r < 65536
      · rw [if_pos c3]
        go_enter Tryd.func67, Tryd.ntmps67
        go_wp2
        go_ret
        exact ⟨rfl, rfl⟩
      · rw [if_neg c3]
        go_enter Tryd.func67, Tryd.ntmps67
        go_wp2
        go_ret
        exact ⟨rfl, rfl⟩
end Go.Proofs.YtilmkmplaehcaaaDoor
