/-
  What octet.Unframe tells.
-/
import Derived.Test.YtjkbapjdojhdeaaFrm
namespace Go.Proofs.Ytjkbapjdojhdeaa
set_option linter.unusedVariables false
open Go.RowKit

theorem unframe_short (ao : Option Addr) (l cap : Nat) (bs : List UInt8) (w : World) (hl : bs.length = l) (h : Rd w ao cap bs) (hm : l ≤ 140737488350000) (hs : l < 8 ∨ l - 8 < num (bs.take 4)) :
    Calls Try.prog 20 #[.slice ao l cap] w fun e w' => e = .returned (.tuple #[.slice none 0 0, .int .i64 0, .int .i64 3]) ∧ Below w.heap.size w w' := by
  have hb : Calls Try.prog 31 #[.slice ao l cap, .int .i64 ((8 : Nat) : Int)] w fun e w' => e = .returned (.tuple #[.slice none 0 0, .int .i64 3]) ∧ Below w.heap.size w w' := by
    by_cases h8 : l < 8
    · exact (body_short ao l cap 8 w h8 hm).mono fun e w' hh => ⟨hh.1, hh.2 ▸ Below.refl _ _⟩
    · exact body_long ao l cap 8 bs w hl h (by omega) (by omega) (by omega) hm (by omega)
  go_enter Try.func20, Try.ntmps20
  go_wp2_with fail
  refine hb.mono ?_
  rintro e w1 ⟨rfl, hb1⟩
  go_wp2
  go_ret3
  exact ⟨rfl, hb1⟩

theorem owns_mono {w : World} {base base' e size : Nat} {v : Value} {n : Nat} {xs : List Value} (h : w.ownsRow base e size v n xs) (hb : base' ≤ base) : w.ownsRow base' e size v n xs :=
  ⟨h.1, h.2.imp id fun ⟨g, c, cur, e1, e2, e3⟩ => ⟨g, c, cur, e1, Nat.le_trans hb e2, e3⟩⟩

/-- The bytes that the frame at the front bears. -/
def bdy (bs : List UInt8) : List UInt8 := (bs.drop 8).take (num (bs.take 4))

set_option maxHeartbeats 400000 in
theorem unframe_form (ao : Option Addr) (l cap : Nat) (bs : List UInt8) (w : World) (hl : bs.length = l) (h : Rd w ao cap bs) (hm : l ≤ 140737488350000) (h8 : 8 ≤ l) (hs : num (bs.take 4) ≤ l - 8)
    (hne : num ((bs.drop 4).take 4) ≠ crc (bdy bs)) :
    Calls Try.prog 20 #[.slice ao l cap] w fun e w' => e = .returned (.tuple #[.slice none 0 0, .int .i64 0, .int .i64 2]) ∧ Below w.heap.size w w' := by
  have hle := h.le
  have hmx := h.max
  have hlen : (bdy bs).length = num (bs.take 4) := by unfold bdy; simp; omega
  have hc := crc_lt (bdy bs)
  have H4 := (h.drop 4 (by omega)).take 4
  rw [if_neg (by omega)] at H4
  have hbo := body_ok ao l cap 8 bs w hl h (by omega) (by omega) h8 hm hs
  change Calls _ _ _ _ (fun e w' => ∃ a2 c2, e = .returned (.tuple #[.slice a2 (num (bs.take 4)) c2, .int .i64 0]) ∧ Rd w' a2 c2 (bdy bs) ∧ Below w.heap.size w w') at hbo
  generalize num (bs.take 4) = z at *
  have i1 : (8 : Int) ≤ (cap : Int) := by omega
  have hq := num_lt_u64 ((bs.drop 4).take 4) (by simp; omega)
  have hnum := fun a2 n w' (hw : Rd w' a2 n ((bs.drop 4).take 4)) => number_any a2 4 n ((bs.drop 4).take 4) w' (by simp; omega) (by omega) hw
  have hsum := fun a2 c2 w' b (hb : b = w'.heap.size) (hw : Rd w' a2 c2 (bdy bs)) => sum_one a2 z c2 (bdy bs) w' b hb hlen hw
  generalize num ((bs.drop 4).take 4) = q at *
  generalize crc (bdy bs) = c at *
  have hb : ((q : Int) != (c : Int)) = true := by rw [bne_iff_ne]; omega
  have HN := hide hnum
  have HS := hide hsum
  have HB := hide hbo
  clear hnum hsum hbo
  go_enter Try.func20, Try.ntmps20
  go_wp2_with fail
  refine (unhide HB).mono ?_
  rintro e w1 ⟨a2, c2, rfl, hR, hb1⟩
  go_wp2_with fail
  refine (unhide HN _ _ _ (H4.below hb1)).mono ?_
  rintro e w2 ⟨rfl, rfl⟩
  go_wp2_with fail
  refine (unhide HS a2 c2 _ _ rfl hR).mono ?_
  rintro e w3 ⟨rfl, hb3⟩
  go_wp2
  go_ret3
  exact ⟨rfl, hb1.trans (hb3.mono hb1.size)⟩

set_option maxHeartbeats 400000 in
theorem unframe_ok (ao : Option Addr) (l cap : Nat) (bs : List UInt8) (w : World) (hl : bs.length = l) (h : Rd w ao cap bs) (hm : l ≤ 140737488350000) (h8 : 8 ≤ l) (hs : num (bs.take 4) ≤ l - 8)
    (hne : num ((bs.drop 4).take 4) = crc (bdy bs)) :
    Calls Try.prog 20 #[.slice ao l cap] w fun e w' => ∃ v, e = .returned (.tuple #[v, .int .i64 (8 + (num (bs.take 4) : Int)), .int .i64 0]) ∧ w'.ownsRow w.heap.size 5 1 v (num (bs.take 4)) ((bdy bs).map B) ∧ Below w.heap.size w w' := by
  have hle := h.le
  have hmx := h.max
  have hlen : (bdy bs).length = num (bs.take 4) := by unfold bdy; simp; omega
  have hc := crc_lt (bdy bs)
  have H4 := (h.drop 4 (by omega)).take 4
  rw [if_neg (by omega)] at H4
  have hbo := body_ok ao l cap 8 bs w hl h (by omega) (by omega) h8 hm hs
  change Calls _ _ _ _ (fun e w' => ∃ a2 c2, e = .returned (.tuple #[.slice a2 (num (bs.take 4)) c2, .int .i64 0]) ∧ Rd w' a2 c2 (bdy bs) ∧ Below w.heap.size w w') at hbo
  generalize num (bs.take 4) = z at *
  have i1 : (8 : Int) ≤ (cap : Int) := by omega
  have hnum := fun a2 n w' (hw : Rd w' a2 n ((bs.drop 4).take 4)) => number_any a2 4 n ((bs.drop 4).take 4) w' (by simp; omega) (by omega) hw
  rw [hne] at hnum
  clear hne
  have hsum := fun a2 c2 w' b (hb : b = w'.heap.size) (hw : Rd w' a2 c2 (bdy bs)) => sum_one a2 z c2 (bdy bs) w' b hb hlen hw
  generalize crc (bdy bs) = c at *
  have hb : ((c : Int) != (c : Int)) = false := by simp
  have HN := hide hnum
  have HS := hide hsum
  have HB := hide hbo
  clear hnum hsum hbo
  go_enter Try.func20, Try.ntmps20
  go_wp2_with fail
  refine (unhide HB).mono ?_
  rintro e w1 ⟨a2, c2, rfl, hR, hb1⟩
  go_wp2_with fail
  refine (unhide HN _ _ _ (H4.below hb1)).mono ?_
  rintro e w2 ⟨rfl, rfl⟩
  go_wp2_with fail
  refine (unhide HS a2 c2 _ _ rfl hR).mono ?_
  rintro e w3 ⟨rfl, hb3⟩
  have hR3 := hR.below hb3
  have hb13 := hb1.trans (hb3.mono hb1.size)
  go_wp2_with fail
  refine (copy_any a2 z c2 0 _ w3 hlen hR3 (by omega) (by omega)).mono ?_
  rintro e w4 ⟨v4, rfl, hown4, hb4⟩
  go_wp2
  go_ret3
  exact ⟨v4, rfl, owns_mono hown4 hb13.size, hb13.trans (hb4.mono hb13.size)⟩
end Go.Proofs.Ytjkbapjdojhdeaa
