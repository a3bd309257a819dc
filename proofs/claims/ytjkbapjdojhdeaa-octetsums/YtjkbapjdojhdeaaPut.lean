/-
  What octet.Put, Take, PutBytes tell.
-/
import Derived.Test.YtjkbapjdojhdeaaApp
namespace Go.Proofs.Ytjkbapjdojhdeaa
set_option linter.unusedVariables false
open Go.RowKit

theorem size_yes (n : Int) (w : World) (h0 : 0 ≤ n) (h8 : n ≤ 8) : Calls Try.prog 27 #[.int .i64 n] w fun e w' => e = .returned (.bool true) ∧ w' = w :=
  (size_any n w).mono fun e w' h => ⟨by rw [h.1]; simp [h0, h8], h.2⟩

theorem size_no (n : Int) (w : World) (h : n < 0 ∨ 8 < n) : Calls Try.prog 27 #[.int .i64 n] w fun e w' => e = .returned (.bool false) ∧ w' = w :=
  (size_any n w).mono fun e w' h' => ⟨by rw [h'.1]; simp; omega, h'.2⟩

/-- How many bytes Put lays. -/
def psz (n : Int) : Nat := if 0 ≤ n ∧ n ≤ 8 then n.toNat else 0

theorem psz_in {n : Nat} (h : n ≤ 8) : psz (n : Int) = n := by unfold psz; rw [if_pos (by omega)]; omega
theorem psz_out {n : Int} (h : n < 0 ∨ 8 < n) : psz n = 0 := by unfold psz; rw [if_neg (by omega)]

set_option maxHeartbeats 400000 in
theorem put_any (ao : Option Addr) (l cap : Nat) (v : Nat) (n : Int) (bs : List UInt8) (w : World) (hl : bs.length = l) (h : Rd w ao cap bs) (hm : l ≤ 140737488350000) :
    Calls Try.prog 11 #[.slice ao l cap, .int .u64 (v : Int), .int .i64 n] w fun e w' => ∃ v', e = .returned v' ∧ w'.ownsRow w.heap.size 5 1 v' (l + psz n) ((bs ++ be (psz n) v).map B) ∧ Below w.heap.size w w' := by
  by_cases hn : n < 0 ∨ 8 < n
  · rw [psz_out hn]
    go_enter Try.func11, Try.ntmps11
    go_wp2_with fail
    refine (size_no n _ hn).mono ?_
    rintro e w' ⟨rfl, rfl⟩
    go_wp2_with fail
    refine (copy_any ao l cap 0 bs _ hl h (by omega) (by omega)).mono ?_
    rintro e w1 ⟨v1, rfl, hown1, hb1⟩
    go_wp2_with fail
    refine (appendNumber_any v1 l v 0 bs _ _ (by omega) hown1 hb1.size (by omega)).mono ?_
    rintro e w2 ⟨v2, rfl, hown2, hb2⟩
    go_wp2
    go_ret
    exact ⟨_, rfl, hown2, hb1.trans hb2⟩
  · obtain ⟨m, rfl⟩ := Int.eq_ofNat_of_zero_le (show 0 ≤ n by omega)
    rw [psz_in (by omega)]
    have h8 : m ≤ 8 := by omega
    clear hn
    go_enter Try.func11, Try.ntmps11
    go_wp2_with fail
    refine (size_yes m _ (by omega) (by omega)).mono ?_
    rintro e w' ⟨rfl, rfl⟩
    go_wp2_with fail
    refine (copy_any ao l cap m bs _ hl h (by omega) (by omega)).mono ?_
    rintro e w1 ⟨v1, rfl, hown1, hb1⟩
    go_wp2_with fail
    refine (appendNumber_any v1 l v m bs _ _ h8 hown1 hb1.size (by omega)).mono ?_
    rintro e w2 ⟨v2, rfl, hown2, hb2⟩
    go_wp2
    go_ret
    exact ⟨_, rfl, hown2, hb1.trans hb2⟩

/-- The first bytes of a slice. -/
theorem Rd.take {w : World} {ao : Option Addr} {cap : Nat} {bs : List UInt8} (h : Rd w ao cap bs) (k : Nat) : Rd w ao cap (bs.take k) := by
  refine ⟨by have := h.le; simp; omega, h.max, h.nil, fun i hi => ?_⟩
  have hi' : i < k ∧ i < bs.length := by rw [List.length_take] at hi; omega
  obtain ⟨b, off, e, hc⟩ := h.cell i hi'.2
  refine ⟨b, off, e, ?_⟩
  rw [hc]
  simp [List.getD, hi'.1, hi'.2]

/-- What a slice reads as from a place on. -/
theorem Rd.drop {w : World} {ao : Option Addr} {cap : Nat} {bs : List UInt8} (h : Rd w ao cap bs) (k : Nat) (hk : k ≤ cap) : Rd w (if cap = k then ao else ao.map (·.add k)) (cap - k) (bs.drop k) := by
  refine ⟨by have := h.le; simp; omega, by have := h.max; omega, fun e => ?_, fun i hi => ?_⟩
  · by_cases hc : cap = k
    · omega
    · rw [if_neg hc] at e
      have := h.nil (by simpa using e)
      omega
  · have hi' : i + k < bs.length := by simp at hi; omega
    have := h.le
    rw [if_neg (by omega)]
    obtain ⟨b, off, e, hc⟩ := h.cell (k + i) (by omega)
    refine ⟨b, off + k, by rw [e]; simp [Addr.add], ?_⟩
    rw [Nat.add_assoc, hc]
    simp [List.getD]

theorem take_arg (ao : Option Addr) (l cap : Nat) (n : Int) (w : World) (hn : n < 0 ∨ 8 < n) :
    Calls Try.prog 13 #[.slice ao l cap, .int .i64 n] w fun e w' => e = .returned (.tuple #[.int .u64 0, .int .i64 1]) ∧ w' = w := by
  go_enter Try.func13, Try.ntmps13
  go_wp2_with fail
  refine (size_no n _ hn).mono ?_
  rintro e w' ⟨rfl, rfl⟩
  go_wp2
  go_ret2
  exact ⟨rfl, rfl⟩

theorem take_short (ao : Option Addr) (l cap : Nat) (n : Nat) (w : World) (hn : n ≤ 8) (hl : l < n) :
    Calls Try.prog 13 #[.slice ao l cap, .int .i64 (n : Int)] w fun e w' => e = .returned (.tuple #[.int .u64 0, .int .i64 3]) ∧ w' = w := by
  go_enter Try.func13, Try.ntmps13
  go_wp2_with fail
  refine (size_yes n _ (by omega) (by omega)).mono ?_
  rintro e w' ⟨rfl, rfl⟩
  go_wp2
  go_ret2
  exact ⟨rfl, rfl⟩

theorem take_ok (ao : Option Addr) (l cap : Nat) (n : Nat) (bs : List UInt8) (w : World) (hl : bs.length = l) (h : Rd w ao cap bs) (hn : n ≤ 8) (hnl : n ≤ l) :
    Calls Try.prog 13 #[.slice ao l cap, .int .i64 (n : Int)] w fun e w' => e = .returned (.tuple #[.int .u64 (num (bs.take n) : Int), .int .i64 0]) ∧ w' = w := by
  have hle := h.le
  have hmx := h.max
  go_enter Try.func13, Try.ntmps13
  go_wp2_with fail
  refine (size_yes n _ (by omega) (by omega)).mono ?_
  rintro e w' ⟨rfl, rfl⟩
  go_wp2_with fail
  refine (number_any ao n cap (bs.take n) _ (by simp; omega) hn (h.take n)).mono ?_
  rintro e w1 ⟨rfl, rfl⟩
  go_wp2
  go_ret2
  exact ⟨rfl, rfl⟩

theorem append_some_own {w : World} {base k : Nat} {bv : Value} {xs : List UInt8} (h : w.ownsRow base 5 1 bv k (xs.map B)) : xs.length = k := by
  have := h.1
  simpa using this

set_option maxHeartbeats 400000 in
theorem putBytes_any (ao so : Option Addr) (l cap m scap : Nat) (bs ss : List UInt8) (w : World) (hl : bs.length = l) (h : Rd w ao cap bs) (hsl : ss.length = m) (hs : Rd w so scap ss) (hm : l + m ≤ 140737488350000) :
    Calls Try.prog 18 #[.slice ao l cap, .slice so m scap] w fun e w' => ∃ v', e = .returned v' ∧ w'.ownsRow w.heap.size 5 1 v' (l + 4 + m) ((bs ++ be 4 m ++ ss).map B) ∧ Below w.heap.size w w' := by
  go_enter Try.func18, Try.ntmps18
  go_wp2_with fail
  refine (copy_any ao l cap (4 + m) bs _ hl h (by omega) (by omega)).mono ?_
  rintro e w1 ⟨v1, rfl, hown1, hb1⟩
  go_wp2_with fail
  refine (appendNumber_any v1 l m 4 bs _ _ (by omega) hown1 hb1.size (by omega)).mono ?_
  rintro e w2 ⟨v2, rfl, hown2, hb2⟩
  have hb12 := hb1.trans hb2
  have hs2 := hs.below hb12
  go_wp2_with (at_builtin; refine wpList_app rfl _ _ rfl w.heap.size v2 (l + 4) _ rfl hown2 _ _ _ ss rfl hsl hs2 ?c1 hb12.size ?_)
  case c1 => omega
  intro v3 w3 hown3 hb3
  go_wp2
  go_ret
  exact ⟨_, rfl, by simpa using hown3, hb12.trans hb3⟩
end Go.Proofs.Ytjkbapjdojhdeaa
