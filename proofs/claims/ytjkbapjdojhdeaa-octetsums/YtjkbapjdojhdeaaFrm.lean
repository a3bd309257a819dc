/-
  What octet.Frame, bodyBehind, TakeBytes, Unframe tell.
-/
import Derived.Test.YtjkbapjdojhdeaaPut
import Derived.Test.YtjkbapjdojhdeaaSum
import Derived.Deep.QuietTactic
import Derived.BigQuiet
namespace Go.Proofs.Ytjkbapjdojhdeaa
set_option linter.unusedVariables false
open Go.RowKit

theorem Rd.nothing (w : World) : Rd w none 0 [] := ⟨Nat.le_refl _, by omega, fun _ => rfl, fun i hi => by simp at hi⟩

/-- One part in a block of its own. -/
theorem Lie.one {w : World} {ao : Option Addr} {cap : Nat} {bs : List UInt8} (h : Rd w ao cap bs) : Lie (w.alloc (.cells #[.slice ao bs.length cap] 22)) w.heap.size 0 [(ao, cap, bs)] := by
  intro i p hp
  match i, hp with
  | 0, hp =>
    simp at hp
    subst hp
    exact ⟨by simp, h.below ((Below.refl _ _).alloc (Nat.le_refl _) _)⟩

theorem owns_below {w w' : World} {base e size : Nat} {v : Value} {n : Nat} {xs : List Value} (h : w.ownsRow base e size v n xs) (hb : Below w.heap.size w w') : w'.ownsRow base e size v n xs := by
  refine ⟨h.1, ?_⟩
  rcases h.2 with h | ⟨g, cap, cur, h1, h2, h3, h4⟩
  · exact .inl h
  · refine .inr ⟨g, cap, cur, h1, h2, ?_, h4⟩
    rw [hb.block g ?_]
    · exact h3
    · rcases Nat.lt_or_ge g w.heap.size with h' | h'
      · exact h'
      · simp [Array.getElem?_eq_none h'] at h3

theorem cat_one (ao : Option Addr) (cap : Nat) (bs : List UInt8) : cat [(ao, cap, bs)] = bs := by simp [cat]

/-- The sum of one part. -/
theorem sum_one (ao : Option Addr) (l cap : Nat) (bs : List UInt8) (w : World) (b : Nat) (hb : b = w.heap.size) (hl : bs.length = l) (h : Rd w ao cap bs) :
    Calls Try.prog 22 #[.slice (some ⟨b, 0, none⟩) 1 1] (w.alloc (.cells #[.slice ao l cap] 22)) fun e w' => e = .returned (.int .u32 (crc bs : Nat)) ∧ Below w.heap.size w w' := by
  subst hb hl
  refine (sum_some w.heap.size 0 1 1 [(ao, cap, bs)] _ rfl (Nat.le_refl _) (by omega) (Lie.one h)).mono fun e w' hh => ?_
  rw [cat_one] at hh
  exact ⟨hh.1, ((Below.refl _ _).alloc (Nat.le_refl _) _).trans (hh.2.mono (by simp))⟩

/-- A frame: the length, the sum, the bytes. -/
def fr (bs : List UInt8) : List UInt8 := be 4 bs.length ++ be 4 (crc bs) ++ bs

set_option maxHeartbeats 400000 in
theorem frame_any (ao : Option Addr) (l cap : Nat) (bs : List UInt8) (w : World) (hl : bs.length = l) (h : Rd w ao cap bs) (hm : l ≤ 140737488350000) :
    Calls Try.prog 24 #[.slice ao l cap] w fun e w' => ∃ v, e = .returned v ∧ w'.ownsRow w.heap.size 5 1 v (8 + l) ((fr bs).map B) ∧ Below w.heap.size w w' := by
  subst hl
  go_enter Try.func24, Try.ntmps24
  go_wp2_with fail
  refine (copy_any none 0 0 (8 + bs.length) [] _ rfl (Rd.nothing w) (by omega) (by omega)).mono ?_
  rintro e w1 ⟨v1, rfl, hown1, hb1⟩
  go_wp2_with fail
  refine (appendNumber_any v1 0 bs.length 4 [] _ _ (by omega) hown1 hb1.size (by omega)).mono ?_
  rintro e w2 ⟨v2, rfl, hown2, hb2⟩
  have hb12 := hb1.trans hb2
  have h2 := h.below hb12
  have hc := crc_lt bs
  go_wp2_with fail
  refine (sum_one ao _ cap bs w2 _ rfl rfl h2).mono ?_
  rintro e w3 ⟨rfl, hb3⟩
  have hown3 := owns_below hown2 hb3
  have hb23 := hb12.trans (hb3.mono hb12.size)
  have h3 := h2.below hb3
  clear hown1 hown2
  go_wp2_with fail
  refine (appendNumber_any v2 4 (crc bs) 4 (be 4 bs.length) _ w.heap.size (by omega) (by simpa using hown3) hb23.size (by omega)).mono ?_
  rintro e w4 ⟨v4, rfl, hown4, hb4⟩
  have hb34 := hb23.trans hb4
  have h4 := h.below hb34
  clear hown3
  go_wp2_with (at_builtin; refine wpList_app rfl _ _ rfl w.heap.size v4 8 _ rfl hown4 _ _ _ bs rfl rfl h4 ?c1 hb34.size ?_)
  case c1 => omega
  intro v5 w5 hown5 hb5
  go_wp2
  go_ret
  exact ⟨_, rfl, by simpa [fr] using hown5, hb34.trans hb5⟩

theorem body_short (ao : Option Addr) (l cap : Nat) (hd : Nat) (w : World) (hl : l < hd) (hm : l ≤ 140737488350000) :
    Calls Try.prog 31 #[.slice ao l cap, .int .i64 (hd : Int)] w fun e w' => e = .returned (.tuple #[.slice none 0 0, .int .i64 3]) ∧ w' = w := by
  go_enter Try.func31, Try.ntmps31
  go_wp2
  go_ret2
  exact ⟨rfl, rfl⟩

set_option maxHeartbeats 400000 in
theorem body_long (ao : Option Addr) (l cap : Nat) (hd : Nat) (bs : List UInt8) (w : World) (hl : bs.length = l) (h : Rd w ao cap bs) (hd4 : 4 ≤ hd) (hd8 : hd ≤ 8) (hdl : hd ≤ l) (hm : l ≤ 140737488350000)
    (hs : l - hd < num (bs.take 4)) :
    Calls Try.prog 31 #[.slice ao l cap, .int .i64 (hd : Int)] w fun e w' => e = .returned (.tuple #[.slice none 0 0, .int .i64 3]) ∧ Below w.heap.size w w' := by
  have hle := h.le
  have hmx := h.max
  have i1 : (4 : Int) ≤ (cap : Int) := by omega
  have i2 : (hd : Int) ≤ (l : Int) := by omega
  have i3 : (0 : Int) ≤ (hd : Int) := by omega
  have h4 : ∀ n, Rd (w.drewN n) ao cap (bs.take 4) := fun n => (h.take 4).below (below_drewN (Below.refl _ _) n)
  go_enter Try.func31, Try.ntmps31
  go_wp2_with fail
  go_quiet ((go_at_call 30; exact Calls.quiet_of_same (number_any _ _ _ (bs.take 4) _ (by simp; omega) (by omega) (h4 _))))
  have hn := num_lt_u64 (bs.take 4) (by simp; omega)
  generalize num (bs.take 4) = sz at *
  generalize (if cap = hd then ao else Option.map (fun x => x.add hd) ao) = a2 at *
  go_wp2
  go_ret2
  exact ⟨rfl, below_drewN (Below.refl _ _) _⟩

set_option maxHeartbeats 400000 in
theorem body_ok (ao : Option Addr) (l cap : Nat) (hd : Nat) (bs : List UInt8) (w : World) (hl : bs.length = l) (h : Rd w ao cap bs) (hd4 : 4 ≤ hd) (hd8 : hd ≤ 8) (hdl : hd ≤ l) (hm : l ≤ 140737488350000)
    (hs : num (bs.take 4) ≤ l - hd) :
    Calls Try.prog 31 #[.slice ao l cap, .int .i64 (hd : Int)] w fun e w' => ∃ a2 c2, e = .returned (.tuple #[.slice a2 (num (bs.take 4)) c2, .int .i64 0]) ∧ Rd w' a2 c2 ((bs.drop hd).take (num (bs.take 4))) ∧ Below w.heap.size w w' := by
  have hle := h.le
  have hmx := h.max
  have i1 : (4 : Int) ≤ (cap : Int) := by omega
  have i2 : (hd : Int) ≤ (l : Int) := by omega
  have i3 : (0 : Int) ≤ (hd : Int) := by omega
  have h4 : ∀ n, Rd (w.drewN n) ao cap (bs.take 4) := fun n => (h.take 4).below (below_drewN (Below.refl _ _) n)
  have hR2 := h.drop hd (by omega)
  go_enter Try.func31, Try.ntmps31
  go_wp2_with fail
  go_quiet ((go_at_call 30; exact Calls.quiet_of_same (number_any _ _ _ (bs.take 4) _ (by simp; omega) (by omega) (h4 _))))
  have hn := num_lt_u64 (bs.take 4) (by simp; omega)
  generalize hz : num (bs.take 4) = sz at *
  have HZ := hide hz
  clear hz
  generalize (if cap = hd then ao else Option.map (fun x => x.add hd) ao) = a2 at *
  clear h4 h
  have i4 : (sz : Int) ≤ ((cap - hd : Nat) : Int) := by omega
  go_wp2
  go_ret2
  rw [unhide HZ]
  exact ⟨_, _, rfl, (hR2.take sz).below (below_drewN (Below.refl _ _) _), below_drewN (Below.refl _ _) _⟩

theorem takeBytes_short (ao : Option Addr) (l cap : Nat) (bs : List UInt8) (w : World) (hl : bs.length = l) (h : Rd w ao cap bs) (hm : l ≤ 140737488350000) (hs : l < 4 ∨ l - 4 < num (bs.take 4)) :
    Calls Try.prog 16 #[.slice ao l cap] w fun e w' => e = .returned (.tuple #[.slice none 0 0, .int .i64 0, .int .i64 3]) ∧ Below w.heap.size w w' := by
  have hb : Calls Try.prog 31 #[.slice ao l cap, .int .i64 ((4 : Nat) : Int)] w fun e w' => e = .returned (.tuple #[.slice none 0 0, .int .i64 3]) ∧ Below w.heap.size w w' := by
    by_cases h4 : l < 4
    · exact (body_short ao l cap 4 w h4 hm).mono fun e w' hh => ⟨hh.1, hh.2 ▸ Below.refl _ _⟩
    · exact body_long ao l cap 4 bs w hl h (by omega) (by omega) (by omega) hm (by omega)
  go_enter Try.func16, Try.ntmps16
  go_wp2_with fail
  refine hb.mono ?_
  rintro e w1 ⟨rfl, hb1⟩
  go_wp2
  go_ret3
  exact ⟨rfl, hb1⟩

theorem takeBytes_ok (ao : Option Addr) (l cap : Nat) (bs : List UInt8) (w : World) (hl : bs.length = l) (h : Rd w ao cap bs) (hm : l ≤ 140737488350000) (h4 : 4 ≤ l) (hs : num (bs.take 4) ≤ l - 4) :
    Calls Try.prog 16 #[.slice ao l cap] w fun e w' => ∃ v, e = .returned (.tuple #[v, .int .i64 (4 + (num (bs.take 4) : Int)), .int .i64 0]) ∧ w'.ownsRow w.heap.size 5 1 v (num (bs.take 4)) (((bs.drop 4).take (num (bs.take 4))).map B) ∧ Below w.heap.size w w' := by
  go_enter Try.func16, Try.ntmps16
  go_wp2_with fail
  refine (body_ok ao l cap 4 bs w hl h (by omega) (by omega) h4 hm hs).mono ?_
  rintro e w1 ⟨a2, c2, rfl, hR, hb1⟩
  have hlen : ((bs.drop 4).take (num (bs.take 4))).length = num (bs.take 4) := by simp; omega
  generalize hz : num (bs.take 4) = z at *
  have HZ := hide hz
  clear hz
  go_wp2_with fail
  refine (copy_any a2 z c2 0 _ w1 hlen hR (by omega) (by omega)).mono ?_
  rintro e w2 ⟨v2, rfl, hown2, hb2⟩
  have hown : w2.ownsRow w.heap.size 5 1 v2 z (((bs.drop 4).take z).map B) := ⟨hown2.1, hown2.2.imp id fun ⟨g, c, cur, e1, e2, e3⟩ => ⟨g, c, cur, e1, Nat.le_trans hb1.size e2, e3⟩⟩
  clear hown2
  go_wp2
  go_ret3
  rw [unhide HZ]
  exact ⟨v2, rfl, hown, hb1.trans (hb2.mono hb1.size)⟩
end Go.Proofs.Ytjkbapjdojhdeaa
