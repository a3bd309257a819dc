/-
  What the document's own PutBytes and TakeBytes tell.
-/
import Derived.Test.YtjkbapjdojhdeaaRefa
namespace Go.Proofs.Ytjkbapjdojhdeaa
set_option linter.unusedVariables false
open Go.RowKit

set_option maxHeartbeats 400000 in
theorem rputBytes_rd (ao so : Option Addr) (l cap m scap : Nat) (bs ss : List UInt8) (w : World) (hl : bs.length = l) (h : Rd w ao cap bs) (hsl : ss.length = m) (hs : Rd w so scap ss) (hm : l + m ≤ 140737488350000) :
    Calls Try.prog 19 #[.slice ao l cap, .slice so m scap] w (Gives w (bs ++ be 4 m ++ ss) (l + 4 + m)) := by
  have key : Calls Try.prog 19 #[.slice ao l cap, .slice so m scap] w fun e w' => ∃ v', e = .returned v' ∧ w'.ownsRow w.heap.size 5 1 v' (l + 4 + m) ((bs ++ be 4 m ++ ss).map B) ∧ Below w.heap.size w w' := by
    go_enter Try.func19, Try.ntmps19
    go_wp2_with fail
    refine (rput_in ao l cap m 4 bs _ hl h (by omega) (by omega)).mono ?_
    rintro e w2 ⟨v2, rfl, hown2, hb2⟩
    have hs2 := hs.below hb2
    go_wp2_with (at_builtin; refine wpList_app rfl _ _ rfl w.heap.size v2 (l + 4) _ rfl hown2 _ _ _ ss rfl hsl hs2 ?c1 hb2.size ?_)
    case c1 => omega
    intro v3 w3 hown3 hb3
    go_wp2
    go_ret
    exact ⟨_, rfl, by simpa using hown3, hb2.trans hb3⟩
  exact key.mono fun e w' hh => by
    obtain ⟨v', rfl, ho, hb⟩ := hh
    obtain ⟨a, c, rfl, hr, hn⟩ := Rd.of_owned ho
    exact ⟨a, c, rfl, hr, hn, hb⟩

theorem rtakeBytes_short (ao : Option Addr) (l cap : Nat) (bs : List UInt8) (w : World) (hl : bs.length = l) (h : Rd w ao cap bs) (hm : l ≤ 140737488350000) (hs : l < 4 ∨ l - 4 < num (bs.take 4)) :
    Calls Try.prog 17 #[.slice ao l cap] w fun e w' => e = .returned (.tuple #[.slice none 0 0, .int .i64 0, .int .i64 3]) ∧ Below w.heap.size w w' := by
  by_cases h4 : l < 4
  · go_enter Try.func17, Try.ntmps17
    go_wp2_with fail
    refine (rtake_short ao l cap 4 w (by omega) h4).mono ?_
    rintro e w1 ⟨rfl, rfl⟩
    go_wp2
    go_ret3
    exact ⟨rfl, Below.refl _ _⟩
  · have hz := num_lt_u64 (bs.take 4) (by simp; omega)
    have hr := rtake_ok ao l cap 4 bs w hl h (by omega) (by omega)
    generalize num (bs.take 4) = z at *
    have HR := hide hr
    clear hr
    have hz4 : l - 4 < z := by omega
    have d1 : decide ((l : Int) - 4 < (z : Int)) = true := by simp; omega
    go_enter Try.func17, Try.ntmps17
    go_wp2_with fail
    refine (unhide HR).mono ?_
    rintro e w1 ⟨rfl, rfl⟩
    go_wp2
    go_ret3
    exact ⟨rfl, Below.refl _ _⟩

set_option maxHeartbeats 400000 in
theorem rtakeBytes_ok (ao : Option Addr) (l cap : Nat) (bs : List UInt8) (w : World) (hl : bs.length = l) (h : Rd w ao cap bs) (hm : l ≤ 140737488350000) (h4 : 4 ≤ l) (hs : num (bs.take 4) ≤ l - 4) :
    Calls Try.prog 17 #[.slice ao l cap] w fun e w' => ∃ v, e = .returned (.tuple #[v, .int .i64 (4 + (num (bs.take 4) : Int)), .int .i64 0]) ∧ w'.ownsRow w.heap.size 5 1 v (num (bs.take 4)) (((bs.drop 4).take (num (bs.take 4))).map B) ∧ Below w.heap.size w w' := by
  have hr := rtake_ok ao l cap 4 bs w hl h (by omega) (by omega)
  have hlen : ((bs.drop 4).take (num (bs.take 4))).length = num (bs.take 4) := by simp; omega
  have hle := h.le
  have hmx := h.max
  have R2 := ((h.drop 4 (by omega)).take (num (bs.take 4))).below ((Below.refl _ _).alloc (Nat.le_refl _) (.cells #[] 5))
  generalize hz : num (bs.take 4) = z at *
  have HZ := hide hz
  have HR := hide hr
  clear hr hz
  have i1 : (4 : Int) ≤ 4 + (z : Int) := by omega
  have i2 : 4 + (z : Int) ≤ (cap : Int) := by omega
  go_enter Try.func17, Try.ntmps17
  go_wp2_with fail
  refine (unhide HR).mono ?_
  rintro e w1 ⟨rfl, rfl⟩
  go_wp2_with (at_builtin; refine wpList_app rfl (.tmp 22) (.tmp 27) rfl w1.heap.size _ 0 [] rfl (empty_own w1) _ (4 + z - 4) _ ((bs.drop 4).take z) rfl (by omega) R2 ?c1 ?c2 ?_)
  case c1 => omega
  case c2 => simp
  all_goals
    intro v2 w2 own2 hb2
    have own : w2.ownsRow w1.heap.size 5 1 v2 z (((bs.drop 4).take z).map B) := by simpa [List.map_take, List.map_drop] using own2
    have hb : Below w1.heap.size w1 w2 := ((Below.refl _ _).alloc (Nat.le_refl _) _).trans hb2
    clear own2 R2 HR hb2 h
    go_wp2
    go_ret3
    exact ⟨_, rfl, own, hb⟩

theorem rtakeBytes_rd (ao : Option Addr) (l cap : Nat) (bs : List UInt8) (w : World) (hl : bs.length = l) (h : Rd w ao cap bs) (hm : l ≤ 140737488350000) :
    Calls Try.prog 17 #[.slice ao l cap] w (GivesT w (tkb bs)) := by
  subst hl
  unfold tkb
  by_cases hs : bs.length < 4 ∨ bs.length - 4 < num (bs.take 4)
  · rw [if_pos hs]
    exact (rtakeBytes_short ao _ cap bs w rfl h hm hs).mono fun e w' hh => ⟨none, 0, by rw [hh.1]; rfl, Rd.nothing _, hh.2⟩
  · rw [if_neg hs]
    refine (rtakeBytes_ok ao _ cap bs w rfl h hm (by omega) (by omega)).mono fun e w' hh => ?_
    obtain ⟨v', rfl, ho, hb⟩ := hh
    obtain ⟨a, c, rfl, hr, hn⟩ := Rd.of_owned ho
    exact ⟨a, c, by simp only [hn]; congr 4, hr, hb⟩
end Go.Proofs.Ytjkbapjdojhdeaa
