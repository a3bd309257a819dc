/-
  What octet.sumTable tells: the row of sixteen.
-/
import Derived.Test.YtjkbapjdojhdeaaBase
import Derived.Test.YtjkbapjdojhdeaaCrc
namespace Go.Proofs.Ytjkbapjdojhdeaa
set_option linter.unusedVariables false
open Go.RowKit

def tabTo (k : Nat) : Array Value := ((List.range 16).map fun i => Value.int .u32 ((if i < k then sts 4 i else 0 : Nat) : Int)).toArray
def tabZ : Array Value := #[.int .u32 0, .int .u32 0, .int .u32 0, .int .u32 0, .int .u32 0, .int .u32 0, .int .u32 0, .int .u32 0, .int .u32 0, .int .u32 0, .int .u32 0, .int .u32 0, .int .u32 0, .int .u32 0, .int .u32 0, .int .u32 0]

theorem tab_end : tabTo 16 = #[.int .u32 0, .int .u32 498536548, .int .u32 997073096, .int .u32 651767980, .int .u32 1994146192, .int .u32 1802195444, .int .u32 1303535960, .int .u32 1342533948, .int .u32 3988292384, .int .u32 4027552580, .int .u32 3604390888, .int .u32 3412177804, .int .u32 2607071920, .int .u32 2262029012, .int .u32 2685067896, .int .u32 3183342108] := by kernel_rfl

theorem and_one (x : Nat) (h : x < 4294967296) : bits .and .u32 (x : Int) 1 = ((x % 2 : Nat) : Int) := by
  rw [show (1 : Int) = ((1 : Nat) : Int) from rfl, u32_and_nat _ _ h (by decide), nat_mask1]

theorem st_odd (x : Nat) (h : x < 4294967296) (hb : (bits .and .u32 (x : Int) 1 == 1) = true) : Value.int .u32 (bits .xor .u32 ((x : Int) / 2) 3988292384) = .int .u32 (st x : Nat) := by
  rw [and_one x h] at hb
  have e : x % 2 = 1 := by have := beq_iff_eq.1 hb; omega
  rw [show (x : Int) / 2 = ((x / 2 : Nat) : Int) by omega, show (3988292384 : Int) = ((3988292384 : Nat) : Int) from rfl, u32_xor_nat _ _ (by omega) (by decide)]
  unfold st
  rw [if_pos e]

theorem st_even (x : Nat) (h : x < 4294967296) (hb : (bits .and .u32 (x : Int) 1 == 1) = false) : Value.int .u32 ((x : Int) / 2) = .int .u32 (st x : Nat) := by
  rw [and_one x h] at hb
  have e : ¬ x % 2 = 1 := by intro e; rw [e] at hb; simp at hb
  unfold st
  rw [if_neg e]
  congr 1

theorem tab_size (k : Nat) : (tabTo k).size = 16 := by simp [tabTo]

theorem tab_at (k i : Nat) (h : i < 16) : (tabTo k)[i]? = some (Value.int .u32 ((if i < k then sts 4 i else 0 : Nat) : Int)) := by
  simp [tabTo, h]

theorem tab_at_new (k : Nat) (h : k < 16) : (tabTo k)[k]? = some (Value.int .u32 0) := by rw [tab_at k k h]; simp

theorem tab_set (k : Nat) (h : k < 16) : (tabTo k).setIfInBounds k (Value.int .u32 (sts 4 k : Nat)) = tabTo (k + 1) := by
  apply Array.ext
  · simp [tab_size]
  · intro i h1 h2
    have hi : i < 16 := by simpa [tab_size] using h2
    have e1 : (tabTo (k + 1))[i]? = some _ := tab_at (k + 1) i hi
    rw [Array.getElem?_eq_getElem h2] at e1
    rw [Option.some.inj e1, Array.getElem_setIfInBounds (by rw [tab_size]; exact hi)]
    by_cases hik : k = i
    · subst hik
      simp
    · simp only [hik, if_false]
      have h3 : i < (tabTo k).size := by rw [tab_size]; exact hi
      have e2 : (tabTo k)[i]? = some _ := tab_at k i hi
      rw [Array.getElem?_eq_getElem h3] at e2
      rw [Option.some.inj e2]
      have : (i < k ↔ i < k + 1) := by omega
      simp [this]

set_option maxHeartbeats 1000000 in
theorem tab_any (w : World) : Calls Try.prog 32 #[] w fun e w' => e = .returned (.agg (tabTo 16)) ∧ Below w.heap.size w w' := by
  go_enter Try.func32, Try.ntmps32
  go_wp2_with fail
  go_loopw [5] (fun i wr => ∃ k : Nat, k ≤ 16 ∧ i = .int .i64 k ∧ wr = (w.alloc (.cells tabZ 50)).alloc (.cells (tabTo k) 50)) (fun i _ => 16 - (intOf i).toNat)
  case atStart => exact ⟨0, Nat.zero_le _, rfl, rfl⟩
  case round =>
    obtain ⟨k, hk, rfl, rfl⟩ := hrel
    by_cases hlt : k < 16
    · have htk := tab_at_new k hlt
      have HT : Hid ((tabTo k).setIfInBounds k (Value.int .u32 (sts 4 k : Nat)) = tabTo (k + 1)) := tab_set k hlt
      go_wp2_with fail
      go_loop [3, 10] (fun r m => ∃ j : Nat, j ≤ 4 ∧ m = .int .i64 j ∧ r = .int .u32 (sts j k : Nat)) (fun _ m => 4 - (intOf m).toNat)
      case atStart => exact ⟨0, Nat.zero_le _, rfl, rfl⟩
      case round =>
        obtain ⟨j, hj, rfl, rfl⟩ := hrel
        have hs := sts_lt j k (by omega)
        by_cases hj4 : j < 4
        · go_wp2
          · go_round
            case rel => exact ⟨j + 1, by omega, by go_num, by rw [sts_succ]; exact st_odd _ hs (by assumption)⟩
            case measure => simp [intOf]; omega
          · go_round
            case rel => exact ⟨j + 1, by omega, by go_num, by rw [sts_succ]; exact st_even _ hs (by assumption)⟩
            case measure => simp [intOf]; omega
        · have e : j = 4 := by omega
          subst e
          go_wp2
          go_roundw
          case rel => exact ⟨k + 1, by omega, by go_num, by rw [HT.out]⟩
          case measure => simp [intOf]; omega
    · have e : k = 16 := by omega
      subst e
      rw [tab_end]
      unfold tabZ
      go_wp2
      exact bodyPost_ret (v := .agg #[.int .u32 0, .int .u32 498536548, .int .u32 997073096, .int .u32 651767980, .int .u32 1994146192, .int .u32 1802195444, .int .u32 1303535960, .int .u32 1342533948, .int .u32 3988292384, .int .u32 4027552580, .int .u32 3604390888, .int .u32 3412177804, .int .u32 2607071920, .int .u32 2262029012, .int .u32 2685067896, .int .u32 3183342108]) (by simp [results, Try.results32, go_sem]) rfl ⟨by rw [tab_end], ((Below.refl _ _).alloc (Nat.le_refl _) _).alloc (by simp) _⟩
end Go.Proofs.Ytjkbapjdojhdeaa
