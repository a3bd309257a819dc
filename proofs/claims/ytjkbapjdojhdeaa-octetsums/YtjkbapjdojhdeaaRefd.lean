/-
  What the document's own Frame and Unframe tell.
-/
import Derived.Test.YtjkbapjdojhdeaaRefc
namespace Go.Proofs.Ytjkbapjdojhdeaa
set_option linter.unusedVariables false
open Go.RowKit

theorem rput4 (ao : Option Addr) (l cap : Nat) (V : Nat) (bs : List UInt8) (w : World) (hl : bs.length = l) (h : Rd w ao cap bs) (hm : l ≤ 140737488350000) :
    Calls Try.prog 15 #[.slice ao l cap, .int .u64 (V : Int), .int .i64 4] w (Gives w (bs ++ be 4 V) (l + 4)) :=
  (rput_in ao l cap V 4 bs w hl h hm (by omega)).mono fun e w' hh => by
    obtain ⟨v', rfl, ho, hb⟩ := hh
    obtain ⟨a, c, rfl, hr, hn⟩ := Rd.of_owned ho
    exact ⟨a, c, rfl, hr, hn, hb⟩

theorem rsum_one (ao : Option Addr) (l cap : Nat) (bs : List UInt8) (w : World) (b : Nat) (hb : b = w.heap.size) (hl : bs.length = l) (h : Rd w ao cap bs) :
    Calls Try.prog 23 #[.slice (some ⟨b, 0, none⟩) 1 1] (w.alloc (.cells #[.slice ao l cap] 22)) fun e w' => e = .returned (.int .u32 (crc bs : Nat)) ∧ Below w.heap.size w w' := by
  subst hb hl
  refine (rsum_some w.heap.size 0 1 1 [(ao, cap, bs)] _ rfl (Nat.le_refl _) (by omega) (Lie.one h)).mono fun e w' hh => ?_
  rw [cat_one] at hh
  exact ⟨hh.1, by rw [hh.2]; exact (Below.refl _ _).alloc (Nat.le_refl _) _⟩

set_option maxHeartbeats 400000 in
theorem rframe_rd (ao : Option Addr) (l cap : Nat) (bs : List UInt8) (w : World) (hl : bs.length = l) (h : Rd w ao cap bs) (hm : l ≤ 140737488350000) :
    Calls Try.prog 25 #[.slice ao l cap] w (Gives w (fr bs) (8 + l)) := by
  subst hl
  have hc := crc_lt bs
  have key : Calls Try.prog 25 #[.slice ao bs.length cap] w fun e w' => ∃ v, e = .returned v ∧ w'.ownsRow w.heap.size 5 1 v (8 + bs.length) ((fr bs).map B) ∧ Below w.heap.size w w' := by
    go_enter Try.func25, Try.ntmps25
    go_wp2_with fail
    refine (rput4 none 0 0 bs.length [] w rfl (Rd.nothing w) (by omega)).mono ?_
    rintro e w2 ⟨a2, c2, rfl, R2, hn2, hb2⟩
    have h2 := h.below hb2
    go_wp2_with fail
    refine (rsum_one ao _ cap bs w2 _ rfl rfl h2).mono ?_
    rintro e w3 ⟨rfl, hb3⟩
    have R3 := R2.below hb3
    have hb23 := hb2.trans (hb3.mono hb2.size)
    simp only [List.nil_append, Nat.zero_add] at R3 hn2
    clear R2
    go_wp2_with fail
    refine (rput_in a2 4 c2 (crc bs) 4 (be 4 bs.length) w3 hn2 R3 (by omega) (by omega)).mono ?_
    rintro e w4 ⟨v4, rfl, own4, hb4⟩
    have own4' := owns_mono own4 hb23.size
    have hb24 := hb23.trans (hb4.mono hb23.size)
    have h4 := h.below hb24
    clear own4 R3
    go_wp2_with (at_builtin; refine wpList_app rfl _ _ rfl w.heap.size v4 8 _ rfl own4' _ _ _ bs rfl rfl h4 ?c1 hb24.size ?_)
    case c1 => omega
    intro v5 w5 own5 hb5
    go_wp2
    go_ret
    exact ⟨_, rfl, by simpa [fr] using own5, hb24.trans hb5⟩
  exact key.mono fun e w' hh => by
    obtain ⟨v', rfl, ho, hb⟩ := hh
    obtain ⟨a, c, rfl, hr, hn⟩ := Rd.of_owned ho
    exact ⟨a, c, rfl, hr, hn, hb⟩

set_option maxHeartbeats 400000 in
theorem runframe_short (ao : Option Addr) (l cap : Nat) (bs : List UInt8) (w : World) (hl : bs.length = l) (h : Rd w ao cap bs) (hm : l ≤ 140737488350000) (hs : l < 8 ∨ l - 8 < num (bs.take 4)) :
    Calls Try.prog 21 #[.slice ao l cap] w fun e w' => e = .returned (.tuple #[.slice none 0 0, .int .i64 0, .int .i64 3]) ∧ Below w.heap.size w w' := by
  by_cases h4 : l < 4
  · go_enter Try.func21, Try.ntmps21
    go_wp2_with fail
    refine (rtake_short ao l cap 4 w (by omega) h4).mono ?_
    rintro e w1 ⟨rfl, rfl⟩
    go_wp2
    go_ret3
    exact ⟨rfl, Below.refl _ _⟩
  · have hz := num_lt_u64 (bs.take 4) (by simp; omega)
    have hr := rtake_ok ao l cap 4 bs w hl h (by omega) (by omega)
    generalize num (bs.take 4) = z at *
    have HR := hide hr
    clear hr
    by_cases h8 : l < 8
    · have d1 : decide ((l : Int) < 8) = true := by simp; omega
      clear hs
      go_enter Try.func21, Try.ntmps21
      go_wp2_with fail
      refine (unhide HR).mono ?_
      rintro e w1 ⟨rfl, rfl⟩
      go_wp2
      go_ret3
      exact ⟨rfl, Below.refl _ _⟩
    · have hz4 : l - 8 < z := by omega
      have d0 : decide ((l : Int) < 8) = false := by simp; omega
      have d1 : decide ((l : Int) - 8 < (z : Int)) = true := by simp; omega
      clear hs
      go_enter Try.func21, Try.ntmps21
      go_wp2_with fail
      refine (unhide HR).mono ?_
      rintro e w1 ⟨rfl, rfl⟩
      go_wp2
      go_ret3
      exact ⟨rfl, Below.refl _ _⟩

set_option maxHeartbeats 1000000 in
theorem runframe_long (ao : Option Addr) (l cap : Nat) (bs : List UInt8) (w : World) (hl : bs.length = l) (h : Rd w ao cap bs) (hm : l ≤ 140737488350000) (h8 : 8 ≤ l) (hs : num (bs.take 4) ≤ l - 8) :
    Calls Try.prog 21 #[.slice ao l cap] w fun e w' =>
      (num ((bs.drop 4).take 4) ≠ crc (bdy bs) → e = .returned (.tuple #[.slice none 0 0, .int .i64 0, .int .i64 2])) ∧
      (num ((bs.drop 4).take 4) = crc (bdy bs) → ∃ a c, e = .returned (.tuple #[.slice a (num (bs.take 4)) c, .int .i64 (8 + (num (bs.take 4) : Int)), .int .i64 0]) ∧ Rd w' a c (bdy bs)) ∧ Below w.heap.size w w' := by
  have hr := rtake_ok ao l cap 4 bs w hl h (by omega) (by omega)
  have hlen : (bdy bs).length = num (bs.take 4) := by unfold bdy; simp; omega
  have hle := h.le
  have hmx := h.max
  have R2 := ((h.drop 8 (by omega)).take (num (bs.take 4))).below ((Below.refl _ _).alloc (Nat.le_refl _) (.cells #[] 5))
  change Rd _ _ _ (bdy bs) at R2
  have hz := num_lt_u64 (bs.take 4) (by simp; omega)
  have H4 := h.drop 4 (by omega)
  rw [if_neg (by omega)] at H4
  have hc := crc_lt (bdy bs)
  have hq : num ((bs.drop 4).take 4) < 4294967296 := by
    have := num_lt ((bs.drop 4).take 4)
    have e : ((bs.drop 4).take 4).length = 4 := by simp; omega
    rw [e] at this
    omega
  have hr2 := fun a2 c2 w' (hw : Rd w' a2 c2 (bs.drop 4)) => rtake_ok a2 (l - 4) c2 4 (bs.drop 4) w' (by simp; omega) hw (by omega) (by omega)
  have hsum := fun a2 c2 w' b (hb : b = w'.heap.size) (hw : Rd w' a2 c2 (bdy bs)) => rsum_one a2 _ c2 (bdy bs) w' b hb hlen hw
  generalize num (bs.take 4) = z at *
  generalize num ((bs.drop 4).take 4) = q at *
  generalize crc (bdy bs) = cc at *
  have HR := hide hr
  have HR2 := hide hr2
  have HS := hide hsum
  clear hr hr2 hsum
  have i1 : (8 : Int) ≤ 8 + (z : Int) := by omega
  have i2 : 8 + (z : Int) ≤ (cap : Int) := by omega
  have d0 : decide ((l : Int) < 8) = false := by simp; omega
  have d1 : decide ((l : Int) - 8 < (z : Int)) = false := by simp; omega
  by_cases c8 : cap = 8
  · subst c8
    rw [if_pos rfl] at R2
    have R2' : Rd (w.alloc (.cells #[] 5)) ao 0 (bdy bs) := R2
    have H4' : Rd w (ao.map (·.add 4)) 4 (bs.drop 4) := H4
    clear R2 H4
    go_enter Try.func21, Try.ntmps21
    go_wp2_with fail
    refine (unhide HR).mono ?_
    rintro e w1 ⟨rfl, rfl⟩
    go_wp2_with (at_builtin; refine wpList_app rfl (.tmp 30) (.tmp 35) rfl w1.heap.size _ 0 [] rfl (empty_own w1) ao (8 + z - 8) _ (bdy bs) rfl (by omega) R2' ?c1 ?c2 ?_)
    case c1 => omega
    case c2 => simp
    intro v2 w2 own2 hb2
    obtain ⟨a2, c2, hv2, Rb, hnb⟩ := Rd.of_owned own2
    rw [hv2]
    have hb : Below w1.heap.size w1 w2 := ((Below.refl _ _).alloc (Nat.le_refl _) _).trans hb2
    have H42 := H4'.below hb
    clear own2 hv2 hb2 R2' H4' h HR
    go_wp2_with fail
    refine (unhide HR2 _ _ _ H42).mono ?_
    rintro e w3 ⟨rfl, rfl⟩
    go_wp2_with fail
    refine (unhide HS a2 c2 _ _ rfl Rb).mono ?_
    rintro e w4 ⟨rfl, hb4⟩
    have R4 := Rb.below hb4
    have hb14 := hb.trans (hb4.mono hb.size)
    clear H42 Rb hb hb4 HR2 HS
    by_cases hqc : q = cc
    · have dq : ((q : Int) != (cc : Int)) = false := by simp [hqc]
      go_wp2
      go_ret3
      exact ⟨fun hne => absurd hqc hne, fun _ => ⟨a2, c2, rfl, R4⟩, hb14⟩
    · have dq : ((q : Int) != (cc : Int)) = true := by rw [bne_iff_ne]; omega
      go_wp2
      go_ret3
      exact ⟨fun _ => rfl, fun hh => absurd hh hqc, hb14⟩
  · rw [if_neg c8] at R2
    go_enter Try.func21, Try.ntmps21
    go_wp2_with fail
    refine (unhide HR).mono ?_
    rintro e w1 ⟨rfl, rfl⟩
    go_wp2_with (at_builtin; refine wpList_app rfl (.tmp 30) (.tmp 35) rfl w1.heap.size _ 0 [] rfl (empty_own w1) _ (8 + z - 8) _ (bdy bs) rfl (by omega) R2 ?e1 ?e2 ?_)
    case e1 => omega
    any_goals (simp; done)
    intro v2 w2 own2 hb2
    obtain ⟨a2, c2, hv2, Rb, hnb⟩ := Rd.of_owned own2
    rw [hv2]
    have hb : Below w1.heap.size w1 w2 := ((Below.refl _ _).alloc (Nat.le_refl _) _).trans hb2
    have H42 := H4.below hb
    clear own2 hv2 hb2 R2 H4 h HR
    go_wp2_with fail
    refine (unhide HR2 _ _ _ H42).mono ?_
    rintro e w3 ⟨rfl, rfl⟩
    go_wp2_with fail
    refine (unhide HS a2 c2 _ _ rfl Rb).mono ?_
    rintro e w4 ⟨rfl, hb4⟩
    have R4 := Rb.below hb4
    have hb14 := hb.trans (hb4.mono hb.size)
    clear H42 Rb hb hb4 HR2 HS
    by_cases hqc : q = cc
    · have dq : ((q : Int) != (cc : Int)) = false := by simp [hqc]
      go_wp2
      go_ret3
      exact ⟨fun hne => absurd hqc hne, fun _ => ⟨a2, c2, rfl, R4⟩, hb14⟩
    · have dq : ((q : Int) != (cc : Int)) = true := by rw [bne_iff_ne]; omega
      go_wp2
      go_ret3
      exact ⟨fun _ => rfl, fun hh => absurd hh hqc, hb14⟩

theorem runframe_rd (ao : Option Addr) (l cap : Nat) (bs : List UInt8) (w : World) (hl : bs.length = l) (h : Rd w ao cap bs) (hm : l ≤ 140737488350000) :
    Calls Try.prog 21 #[.slice ao l cap] w (GivesT w (unf bs)) := by
  subst hl
  unfold unf
  by_cases hs : bs.length < 8 ∨ bs.length - 8 < num (bs.take 4)
  · rw [if_pos hs]
    exact (runframe_short ao _ cap bs w rfl h hm hs).mono fun e w' hh => ⟨none, 0, by rw [hh.1]; rfl, Rd.nothing _, hh.2⟩
  · rw [if_neg hs]
    have hlen : (bdy bs).length = num (bs.take 4) := by unfold bdy; simp; omega
    by_cases hc : num ((bs.drop 4).take 4) = crc (bdy bs)
    · rw [if_pos hc]
      refine (runframe_long ao _ cap bs w rfl h hm (by omega) (by omega)).mono fun e w' hh => ?_
      obtain ⟨a, c, he, hr⟩ := hh.2.1 hc
      exact ⟨a, c, by rw [he]; simp only [hlen]; congr 4, hr, hh.2.2⟩
    · rw [if_neg hc]
      exact (runframe_long ao _ cap bs w rfl h hm (by omega) (by omega)).mono fun e w' hh => ⟨none, 0, by rw [hh.1 hc]; rfl, Rd.nothing _, hh.2.2⟩
end Go.Proofs.Ytjkbapjdojhdeaa
