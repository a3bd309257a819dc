/-
  What octet.appendNumber leaves: the bytes that were there, and the number's lowest bytes behind them, the highest first.
-/
import Derived.Test.YtjkbapjdojhdeaaMake
namespace Go.Proofs.Ytjkbapjdojhdeaa
set_option linter.unusedVariables false
open Go.RowKit

theorem byte_cell (v m : Nat) : Value.int .u8 ((v : Int) / 2 ^ (8 * m) % 256) = B (UInt8.ofNat (v / 256 ^ m)) := by
  have e : (2 : Int) ^ (8 * m) = ((256 ^ m : Nat) : Int) := by
    rw [Int.pow_mul]
    simp
  have h : (UInt8.ofNat (v / 256 ^ m)).toNat = v / 256 ^ m % 256 := by simp
  simp only [B, h, e]
  congr 1

theorem be_take_succ (n v j : Nat) (h : j < n) : (be n v).take (j + 1) = (be n v).take j ++ [UInt8.ofNat (v / 256 ^ (n - 1 - j))] := by
  rw [take_snoc _ _ (by rw [be_length]; exact h), be_getD n v j h]

/-- What is owned behind one more byte. -/
theorem app_step {w1 : World} {base k j n v : Nat} {v' : Value} {xs : List UInt8} (hj : j < n)
    (h : w1.ownsRow base 5 1 v' (k + j + 1) ((xs ++ (be n v).take j).map B ++ [.int .u8 ((v : Int) / 2 ^ (8 * (n - 1 - j)) % 256)])) :
    w1.ownsRow base 5 1 v' (k + (j + 1)) ((xs ++ (be n v).take (j + 1)).map B) := by
  rw [be_take_succ n v j hj, ← Nat.add_assoc]
  rw [byte_cell] at h
  simpa using h

set_option maxHeartbeats 400000 in
theorem appendNumber_any (bv : Value) (k v : Nat) (n : Nat) (xs : List UInt8) (w : World) (base : Nat) (hn : n ≤ 8)
    (hown : w.ownsRow base 5 1 bv k (xs.map B)) (hb : base ≤ w.heap.size) (hk : k ≤ 140737488355000) :
    Calls Try.prog 28 #[bv, .int .u64 (v : Int), .int .i64 (n : Int)] w fun e w' => ∃ v', e = .returned v' ∧ w'.ownsRow base 5 1 v' (k + n) ((xs ++ be n v).map B) ∧ Below base w w' := by
  obtain ⟨i0, hi, hz0, hz1, hz2⟩ := info_parts Try.info5
  go_enter Try.func28, Try.ntmps28
  go_wp2
  go_loopw [0, 7] (fun bv' i wr => ∃ j : Nat, j ≤ n ∧ i = .int .i64 ((n : Int) - 1 - j) ∧ wr.ownsRow base 5 1 bv' (k + j) ((xs ++ (be n v).take j).map B) ∧ Below base w wr) (fun _ i _ => (intOf i + 1).toNat)
  case atStart => exact ⟨0, Nat.zero_le _, by go_num, by simpa using hown, Below.refl _ _⟩
  case round =>
    obtain ⟨j, hj, rfl, hownr, hbr⟩ := hrel
    have hbw := hbr.size
    by_cases hlt : j < n
    · go_wp2_with (at_builtin; refine wpList_append_own _ rfl _ _ 22 rfl base 5 i0 (.int .u8 0) 1 1 Try.underlying22 hi hz0 hz1 hz2 rfl (by decide) _ _ _ rfl (hownr.alloc _) ⟨wr.heap.size, 0, none⟩ 1 1 [.int .u8 ((v : Int) / 2 ^ (8 * (n - 1 - j)) % 256)] rfl rfl ?c1 ?c2 ?c3 ?c4 ?c5 ?_)
      case c1 =>
        intro t u ht
        match t, ht with
        | 0, ht => simp at ht; subst ht; simp [Addr.add]
      case c2 => intro u hu; simp at hu; subst hu; rfl
      case c3 => unfold maxLen; omega
      case c4 => omega
      case c5 => simp; omega
      intro v' w1 hown1 hgrow1 _
      have hb1 : Below base w w1 := (hbr.alloc (by omega) _).grown hgrow1 (by simp; omega) (fun t ht => (hownr.lt t ht).1)
      have R := app_step (w1 := w1) (base := base) (k := k) (v := v) (v' := v') (xs := xs) hlt (by simpa using hown1)
      clear hown1 hgrow1 hownr
      go_wp2
      go_roundw
      case rel => exact ⟨j + 1, by omega, by go_num, R, hb1⟩
      case measure => simp [intOf]; omega
    · have e : j = n := by omega
      subst e
      go_wp2
      go_ret
      exact ⟨_, rfl, by simpa [List.take_of_length_le, be_length] using hownr, hbr⟩
end Go.Proofs.Ytjkbapjdojhdeaa
