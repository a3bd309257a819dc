/-
  What the document's own Take and Put tell.
-/
import Derived.Test.YtjkbapjdojhdeaaCutw
namespace Go.Proofs.Ytjkbapjdojhdeaa
set_option linter.unusedVariables false
open Go.RowKit

theorem rtake_arg (ao : Option Addr) (l cap : Nat) (n : Int) (w : World) (hn : n < 0 ∨ 8 < n) :
    Calls Try.prog 14 #[.slice ao l cap, .int .i64 n] w fun e w' => e = .returned (.tuple #[.int .u64 0, .int .i64 1]) ∧ w' = w := by
  by_cases h : n < 0
  · go_enter Try.func14, Try.ntmps14
    go_wp2
    go_ret2
    exact ⟨rfl, rfl⟩
  · have h8 : 8 < n := by omega
    clear hn
    go_enter Try.func14, Try.ntmps14
    go_wp2
    go_ret2
    exact ⟨rfl, rfl⟩

theorem rtake_short (ao : Option Addr) (l cap : Nat) (n : Nat) (w : World) (hn : n ≤ 8) (hl : l < n) :
    Calls Try.prog 14 #[.slice ao l cap, .int .i64 (n : Int)] w fun e w' => e = .returned (.tuple #[.int .u64 0, .int .i64 3]) ∧ w' = w := by
  go_enter Try.func14, Try.ntmps14
  go_wp2
  go_ret2
  exact ⟨rfl, rfl⟩

theorem rtake_zero (ao : Option Addr) (l cap : Nat) (w : World) (hm : l ≤ 9223372036854775807) :
    Calls Try.prog 14 #[.slice ao l cap, .int .i64 ((0 : Nat) : Int)] w fun e w' => e = .returned (.tuple #[.int .u64 0, .int .i64 0]) ∧ w' = w := by
  go_enter Try.func14, Try.ntmps14
  go_wp2_with fail
  refine wp_loop_rounds 1 ?_
  rw [rounds_succ]
  go_wp2
  go_ret2
  exact ⟨rfl, rfl⟩

set_option maxHeartbeats 400000 in
theorem rtake_some (b off l cap : Nat) (n : Nat) (bs : List UInt8) (w : World) (hl : bs.length = l) (hlc : l ≤ cap) (hmx : cap ≤ 9223372036854775807) (hn : n ≤ 8) (hnl : n ≤ l)
    (hc : ∀ i, i < bs.length → w.cell? ⟨b, off + i, none⟩ = some (B (bs.getD i 0))) :
    Calls Try.prog 14 #[.slice (some ⟨b, off, none⟩) l cap, .int .i64 (n : Int)] w fun e w' => e = .returned (.tuple #[.int .u64 (num (bs.take n) : Int), .int .i64 0]) ∧ w' = w := by
  subst hl
  have d1 : decide ((n : Int) < 0) = false := by simp
  have d2 : decide ((8 : Int) < (n : Int)) = false := by simp; omega
  have d3 : decide ((bs.length : Int) < (n : Int)) = false := by simp; omega
  go_enter Try.func14, Try.ntmps14
  go_wp2_with fail
  go_loop [6, 7] (fun v i => ∃ k : Nat, k ≤ n ∧ i = .int .i64 k ∧ v = .int .u64 (num (bs.take k) : Int)) (fun _ i => n - (intOf i).toNat)
  case atStart => exact ⟨0, Nat.zero_le _, rfl, rfl⟩
  case round =>
    obtain ⟨k, hk, rfl, rfl⟩ := hrel
    by_cases hlt : k < n
    · have hkb : k < bs.length := by omega
      have hcell := hc k hkb
      have hb := num_take_lt bs k (by omega)
      go_wp2
      go_round
      case rel => exact ⟨k + 1, by omega, by go_num, num_step bs k hkb (by omega)⟩
      case measure => simp [intOf]; omega
    · have e : k = n := by omega
      subst e
      go_wp2
      go_ret2
      exact ⟨rfl, rfl⟩

theorem rtake_ok (ao : Option Addr) (l cap : Nat) (n : Nat) (bs : List UInt8) (w : World) (hl : bs.length = l) (h : Rd w ao cap bs) (hn : n ≤ 8) (hnl : n ≤ l) :
    Calls Try.prog 14 #[.slice ao l cap, .int .i64 (n : Int)] w fun e w' => e = .returned (.tuple #[.int .u64 (num (bs.take n) : Int), .int .i64 0]) ∧ w' = w := by
  have hle := h.le
  have hmx := h.max
  by_cases h0 : n = 0
  · subst h0
    exact rtake_zero ao l cap w (by omega)
  · obtain ⟨b, off, rfl, _⟩ := h.cell 0 (by omega)
    refine rtake_some b off l cap n bs w hl (by omega) hmx hn hnl fun i hi => ?_
    obtain ⟨b', off', e, hc⟩ := h.cell i hi
    simp only [Option.some.injEq, Addr.mk.injEq] at e
    obtain ⟨rfl, rfl, _⟩ := e
    exact hc

set_option maxHeartbeats 400000 in
theorem rput_out (ao : Option Addr) (l cap : Nat) (v : Nat) (n : Int) (bs : List UInt8) (w : World) (hl : bs.length = l) (h : Rd w ao cap bs) (hm : l ≤ 140737488350000) (hn : n < 0 ∨ 8 < n) :
    Calls Try.prog 15 #[.slice ao l cap, .int .u64 (v : Int), .int .i64 n] w fun e w' => ∃ v', e = .returned v' ∧ w'.ownsRow w.heap.size 5 1 v' l (bs.map B) ∧ Below w.heap.size w w' := by
  have h' := h.below ((Below.refl _ _).alloc (Nat.le_refl _) (.cells #[] 5))
  by_cases hneg : n < 0
  · go_enter Try.func15, Try.ntmps15
    go_wp2_with (at_builtin; refine wpList_app rfl (.tmp 9) (.tmp 10) rfl w.heap.size _ 0 [] rfl (empty_own w) _ _ _ bs rfl hl h' ?c1 ?c2 ?_)
    case c1 => omega
    case c2 => simp
    intro v1 w1 own1 hb1
    go_wp2
    go_ret
    exact ⟨_, rfl, by simpa using own1, ((Below.refl _ _).alloc (Nat.le_refl _) _).trans hb1⟩
  · have h8 : 8 < n := by omega
    clear hn
    go_enter Try.func15, Try.ntmps15
    go_wp2_with (at_builtin; refine wpList_app rfl (.tmp 9) (.tmp 10) rfl w.heap.size _ 0 [] rfl (empty_own w) _ _ _ bs rfl hl h' ?e1 ?e2 ?_)
    case e1 => omega
    intro v1 w1 own1 hb1
    go_wp2
    go_ret
    exact ⟨_, rfl, by simpa using own1, ((Below.refl _ _).alloc (Nat.le_refl _) _).trans hb1⟩

set_option maxHeartbeats 400000 in
theorem rput_in (ao : Option Addr) (l cap : Nat) (v : Nat) (n : Nat) (bs : List UInt8) (w : World) (hl : bs.length = l) (h : Rd w ao cap bs) (hm : l ≤ 140737488350000) (hn : n ≤ 8) :
    Calls Try.prog 15 #[.slice ao l cap, .int .u64 (v : Int), .int .i64 (n : Int)] w fun e w' => ∃ v', e = .returned v' ∧ w'.ownsRow w.heap.size 5 1 v' (l + n) ((bs ++ be n v).map B) ∧ Below w.heap.size w w' := by
  have h' := h.below ((Below.refl _ _).alloc (Nat.le_refl _) (.cells #[] 5))
  obtain ⟨i0, hi, hz0, hz1, hz2⟩ := info_parts Try.info5
  have d1 : decide ((n : Int) < 0) = false := by simp
  have d2 : decide ((8 : Int) < (n : Int)) = false := by simp; omega
  go_enter Try.func15, Try.ntmps15
  go_wp2_with (at_builtin; refine wpList_app rfl (.tmp 9) (.tmp 10) rfl w.heap.size _ 0 [] rfl (empty_own w) _ _ _ bs rfl hl h' ?c1 ?c2 ?_)
  case c1 => omega
  case c2 => simp
  intro v1 w1 own1 hb1
  have hb : Below w.heap.size w w1 := ((Below.refl _ _).alloc (Nat.le_refl _) _).trans hb1
  have own : w1.ownsRow w.heap.size 5 1 v1 l (bs.map B) := by simpa using own1
  clear own1 hb1
  go_wp2_with fail
  go_loopw [7, 8] (fun bv' i wr => ∃ j : Nat, j ≤ n ∧ i = .int .i64 j ∧ wr.ownsRow w.heap.size 5 1 bv' (l + j) ((bs ++ (be n v).take j).map B) ∧ Below w.heap.size w wr) (fun _ i _ => n - (intOf i).toNat)
  case atStart => exact ⟨0, Nat.zero_le _, rfl, by simpa using own, hb⟩
  case round =>
    obtain ⟨j, hj, rfl, hownr, hbr⟩ := hrel
    have hbw := hbr.size
    by_cases hlt : j < n
    · go_wp2_with (at_builtin; refine wpList_append_own _ rfl (.tmp 24) (.tmp 33) 22 rfl w.heap.size 5 i0 (.int .u8 0) 1 1 Try.underlying22 hi hz0 hz1 hz2 rfl (by decide) _ _ _ rfl (hownr.alloc _) ⟨wr.heap.size, 0, none⟩ 1 1 [.int .u8 ((v : Int) / 2 ^ (8 * (n - 1 - j)) % 256)] rfl rfl ?c1 ?c2 ?c3 ?c4 ?c5 ?_)
      case c1 =>
        intro t u ht
        match t, ht with
        | 0, ht => simp at ht; subst ht; simp [Addr.add]
      case c2 => intro u hu; simp at hu; subst hu; rfl
      case c3 => unfold maxLen; omega
      case c4 => omega
      case c5 => simp; omega
      intro v' w2 hown1 hgrow1 _
      have hb2 : Below w.heap.size w w2 := (hbr.alloc (by omega) _).grown hgrow1 (by simp; omega) (fun t ht => (hownr.lt t ht).1)
      have R := app_step (w1 := w2) (base := w.heap.size) (k := l) (v := v) (v' := v') (xs := bs) hlt (by simpa using hown1)
      clear hown1 hgrow1 hownr
      go_wp2
      go_roundw
      case rel => exact ⟨j + 1, by omega, by go_num, R, hb2⟩
      case measure => simp [intOf]; omega
    · have e : j = n := by omega
      subst e
      go_wp2
      go_ret
      exact ⟨_, rfl, by simpa [List.take_of_length_le, be_length] using hownr, hbr⟩

theorem rput_rd (ao : Option Addr) (l cap : Nat) (v : Nat) (n : Int) (bs : List UInt8) (w : World) (hl : bs.length = l) (h : Rd w ao cap bs) (hm : l ≤ 140737488350000) :
    Calls Try.prog 15 #[.slice ao l cap, .int .u64 (v : Int), .int .i64 n] w (Gives w (bs ++ be (psz n) v) (l + psz n)) := by
  by_cases hn : n < 0 ∨ 8 < n
  · rw [psz_out hn]
    refine (rput_out ao l cap v n bs w hl h hm hn).mono fun e w' hh => ?_
    obtain ⟨v', rfl, ho, hb⟩ := hh
    obtain ⟨a, c, rfl, hr, hn⟩ := Rd.of_owned ho
    exact ⟨a, c, rfl, by simpa [be] using hr, by simpa [be] using hn, hb⟩
  · obtain ⟨m, rfl⟩ := Int.eq_ofNat_of_zero_le (show 0 ≤ n by omega)
    rw [psz_in (by omega)]
    refine (rput_in ao l cap v m bs w hl h hm (by omega)).mono fun e w' hh => ?_
    obtain ⟨v', rfl, ho, hb⟩ := hh
    obtain ⟨a, c, rfl, hr, hn⟩ := Rd.of_owned ho
    exact ⟨a, c, rfl, hr, hn, hb⟩
end Go.Proofs.Ytjkbapjdojhdeaa
