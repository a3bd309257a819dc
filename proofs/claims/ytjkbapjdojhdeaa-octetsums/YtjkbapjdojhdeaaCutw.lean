/-
  The walk of OctetCut: a frame is read whatever stands behind it, and is short wherever it is cut off.
-/
import Derived.Test.YtjkbapjdojhdeaaPlain
namespace Go.Proofs.Ytjkbapjdojhdeaa
set_option linter.unusedVariables false
open Go.RowKit

theorem unframe_is (ao : Option Addr) (l cap : Nat) (bs : List UInt8) (w : World) (t : List UInt8) (r er n : Nat) (ri ei : Int) (hl : bs.length = l) (h : Rd w ao cap bs) (hm : l ≤ 140737488350000) (ht : unf bs = ⟨t, r, er⟩) (hn : t.length = n) (hri : (r : Int) = ri) (hei : (er : Int) = ei) :
    Calls Try.prog 20 #[.slice ao l cap] w fun e w' => ∃ a2 c2, e = .returned (.tuple #[.slice a2 n c2, .int .i64 ri, .int .i64 ei]) ∧ Rd w' a2 c2 t ∧ Below w.heap.size w w' := by
  refine (unframe_rd ao l cap bs w hl h hm).mono fun e w' hh => ?_
  obtain ⟨a, c, h1, h2, h3⟩ := hh
  rw [ht] at h1 h2
  exact ⟨a, c, by rw [h1, hn, ← hri, ← hei], h2, h3⟩

theorem takeBytes_is (ao : Option Addr) (l cap : Nat) (bs : List UInt8) (w : World) (t : List UInt8) (r er n : Nat) (ri ei : Int) (hl : bs.length = l) (h : Rd w ao cap bs) (hm : l ≤ 140737488350000) (ht : tkb bs = ⟨t, r, er⟩) (hn : t.length = n) (hri : (r : Int) = ri) (hei : (er : Int) = ei) :
    Calls Try.prog 16 #[.slice ao l cap] w fun e w' => ∃ a2 c2, e = .returned (.tuple #[.slice a2 n c2, .int .i64 ri, .int .i64 ei]) ∧ Rd w' a2 c2 t ∧ Below w.heap.size w w' := by
  refine (takeBytes_rd ao l cap bs w hl h hm).mono fun e w' hh => ?_
  obtain ⟨a, c, h1, h2, h3⟩ := hh
  rw [ht] at h1 h2
  exact ⟨a, c, by rw [h1, hn, ← hri, ← hei], h2, h3⟩

/-- A place within so many. -/
theorem place_nat (k : Int) (n : Nat) (w : World) (hk : -9223372036854775808 ≤ k ∧ k ≤ 9223372036854775807) (hn : 1 ≤ n) (hn2 : n ≤ 1000) :
    Calls Try.prog 26 #[.int .i64 k, .int .i64 (n : Int)] w fun e w' => ∃ p : Nat, e = .returned (.int .i64 (p : Int)) ∧ p < n ∧ w' = w := by
  obtain ⟨h1, h2⟩ := hk
  by_cases h0 : 0 ≤ k
  · have a1 : k % (n : Int) < n := Int.emod_lt_of_pos _ (by omega)
    have a3 : 0 ≤ k % (n : Int) := Int.emod_nonneg _ (by omega)
    go_enter Try.func26, Try.ntmps26
    go_wp2
    go_ret
    exact ⟨(k % (n : Int)).toNat, ret_int (by omega), by omega, rfl⟩
  · have a1 : k.tmod n < n := Int.tmod_lt_of_pos _ (by omega)
    have a2 : -(n : Int) < k.tmod n := Int.lt_tmod_of_pos _ (by omega)
    by_cases h3 : k.tmod n < 0
    · go_enter Try.func26, Try.ntmps26
      go_wp2
      go_ret
      exact ⟨(k.tmod n + n).toNat, ret_int (by omega), by omega, rfl⟩
    · go_enter Try.func26, Try.ntmps26
      go_wp2
      go_ret
      exact ⟨(k.tmod n).toNat, ret_int (by omega), by omega, rfl⟩

theorem place_any (k n : Int) (w : World) (hk : -9223372036854775808 ≤ k ∧ k ≤ 9223372036854775807) (hn : 1 ≤ n) (hn2 : n ≤ 1000) :
    Calls Try.prog 26 #[.int .i64 k, .int .i64 n] w fun e w' => ∃ p : Nat, e = .returned (.int .i64 (p : Int)) ∧ (p : Int) < n ∧ w' = w := by
  obtain ⟨m, rfl⟩ := Int.eq_ofNat_of_zero_le (show 0 ≤ n by omega)
  exact (place_nat k m w hk (by omega) (by omega)).mono fun e w' ⟨p, h1, h2, h3⟩ => ⟨p, h1, by omega, h3⟩

theorem putBytes_nil (so : Option Addr) (m scap : Nat) (ss : List UInt8) (w : World) (hsl : ss.length = m) (hs : Rd w so scap ss) (hm : m ≤ 140737488350000) :
    Calls Try.prog 18 #[.slice none 0 0, .slice so m scap] w (Gives w (be 4 m ++ ss) (4 + m)) := by
  have := putBytes_rd none so 0 0 m scap [] ss w rfl (Rd.nothing _) hsl hs (by omega)
  simpa using this

theorem empty_own (w : World) : (w.alloc (.cells #[] 5)).ownsRow w.heap.size 5 1 (.slice (some ⟨w.heap.size, 0, none⟩) 0 0) 0 (([] : List UInt8).map B) :=
  World.ownsRow_lit w #[] 0 (Nat.le_refl _) (by unfold maxLen; omega) rfl

set_option maxHeartbeats 1000000 in
theorem cut_walk (a0 : Option Addr) (l0 cap0 : Nat) (bs : List UInt8) (a1 : Option Addr) (l1 cap1 : Nat) (ms : List UInt8) (k : Int) (w : World) (h0 : bs.length = l0) (R0 : Rd w a0 cap0 bs) (h1 : ms.length = l1) (R1 : Rd w a1 cap1 ms)
    (hk : -9223372036854775808 ≤ k ∧ k ≤ 9223372036854775807) (hl0 : l0 ≤ 100) (hl1 : l1 ≤ 20) :
    Calls Try.prog 7 #[.slice a0 l0 cap0, .slice a1 l1 cap1, .int .i64 k] w fun e w' => e = .returned (.bool true) ∧ Below w.heap.size w w' := by
  subst h0 h1
  go_enter Try.func7, Try.ntmps7
  go_wp2_with fail
  refine (begun_any w).mono ?_
  rintro e w1 ⟨rfl, hb1⟩
  have R01 := R0.below hb1
  go_wp2_with fail
  refine (frame_rd a0 _ cap0 bs w1 rfl R01 (by omega)).mono ?_
  rintro e w2 ⟨a2, c2, rfl, R2, hn2, hb2⟩
  have hb12 := hb1.trans (hb2.mono hb1.size)
  clear R01 hb1 hb2
  have R2' := R2.below ((Below.refl _ _).alloc (Nat.le_refl _) (.cells #[] 5))
  go_wp2_with (at_builtin; refine wpList_app rfl (.tmp 34) (.tmp 35) rfl w2.heap.size _ 0 [] rfl (empty_own w2) _ _ _ (fr bs) rfl hn2 R2' ?c1 ?c2 ?_)
  case c1 => omega
  case c2 => simp
  intro v3 w3 own3 hb3
  have hb23 : Below w2.heap.size w2 w3 := ((Below.refl _ _).alloc (Nat.le_refl _) _).trans hb3
  have hb13 := hb12.trans (hb23.mono hb12.size)
  have R13 := R1.below hb13
  go_wp2_with (at_builtin; refine wpList_app rfl (.tmp 36) (.tmp 37) rfl w2.heap.size _ _ _ rfl own3 _ _ _ ms rfl rfl R13 ?c1 ?c2 ?_)
  case c1 => omega
  case c2 => exact hb23.size
  intro v4 w4 own4 hb4
  have hb24 := hb23.trans hb4
  have hb14 := hb12.trans (hb24.mono hb12.size)
  rw [← List.map_append] at own4
  obtain ⟨a4, c4, hv4, R4, hn4⟩ := Rd.of_owned own4
  rw [hv4]
  have R24 := R2.below hb24
  clear own3 own4 R13 hb3 hb4 hb23 hb13 R2' hv4 R2
  have hle2 := R24.le
  go_wp2_with fail
  refine (unframe_is a4 _ c4 (fr bs ++ ms) w4 bs (8 + bs.length) 0 bs.length (8 + bs.length) 0 hn4 R4 (by omega) (unf_fr bs ms (by omega)) rfl (by omega) rfl).mono ?_
  rintro e w5 ⟨a5, c5, rfl, R5, hb5⟩
  have hb15 := hb14.trans (hb5.mono hb14.size)
  have R25 := R24.below hb5
  clear R4 R24 hb5 hb14 hb24 hn4
  go_wp2_with fail
  refine (place_any k _ w5 hk (by omega) (by omega)).mono ?_
  rintro e w6 ⟨p, rfl, hp, rfl⟩
  have hp2 : p < 8 + bs.length := by omega
  have hpc : (p : Int) ≤ (c2 : Int) := by omega
  go_wp2_with fail
  refine (unframe_is a2 p c2 ((fr bs).take p) w6 [] 0 3 0 0 3 (by simp; omega) (R25.take p) (by omega) (unf_cut bs (by omega) p hp2) rfl rfl rfl).mono ?_
  rintro e w7 ⟨a7, c7, rfl, _, hb7⟩
  have hb17 := hb15.trans (hb7.mono hb15.size)
  have R57 := R5.below hb7
  have R07 := R0.below hb17
  clear R5 hb7 hb15 R25 hp hpc hp2 hle2
  go_wp2_with fail
  refine (putBytes_nil a0 bs.length cap0 bs w7 rfl R07 (by omega)).mono ?_
  rintro e w8 ⟨a8, c8, rfl, R8, hn8, hb8⟩
  have hb18 := hb17.trans (hb8.mono hb17.size)
  have R58 := R57.below hb8
  clear R57 R07 hb17 hb8
  have R8' := R8.below ((Below.refl _ _).alloc (Nat.le_refl _) (.cells #[] 5))
  have HT1 := hide (tkb_put bs ms (by omega))
  have HT2 := hide (fun q hq => tkb_cut bs (by omega) q hq)
  generalize hpb : be 4 bs.length ++ bs = pb at *
  clear hpb
  go_wp2_with (at_builtin; refine wpList_app rfl (.tmp 57) (.tmp 58) rfl w8.heap.size _ 0 [] rfl (empty_own w8) _ _ _ pb rfl hn8 R8' ?c1 ?c2 ?_)
  case c1 => omega
  case c2 => simp
  intro v9 w9 own9 hb9
  have hb89 : Below w8.heap.size w8 w9 := ((Below.refl _ _).alloc (Nat.le_refl _) _).trans hb9
  have hb19 := hb18.trans (hb89.mono hb18.size)
  have R19 := R1.below hb19
  go_wp2_with (at_builtin; refine wpList_app rfl (.tmp 59) (.tmp 60) rfl w8.heap.size _ _ _ rfl own9 _ _ _ ms rfl rfl R19 ?c1 ?c2 ?_)
  case c1 => omega
  case c2 => exact hb89.size
  intro v10 w10 own10 hb10
  have hb810 := hb89.trans hb10
  have hb110 := hb18.trans (hb810.mono hb18.size)
  have own10' : w10.ownsRow w8.heap.size 5 1 v10 (4 + bs.length + ms.length) ((pb ++ ms).map B) := by simpa using own10
  obtain ⟨a10, c10, hv10, R10, hn10⟩ := Rd.of_owned own10'
  rw [hv10]
  have R810 := R8.below hb810
  have R510 := R58.below hb810
  clear own9 own10 own10' R19 hb9 hb10 hb89 hb19 R8' hv10 R8 R58 hb810 hb18
  have hle8 := R810.le
  go_wp2_with fail
  refine (takeBytes_is a10 _ c10 (pb ++ ms) w10 bs (4 + bs.length) 0 bs.length (4 + bs.length) 0 hn10 R10 (by omega) (unhide HT1) rfl (by omega) rfl).mono ?_
  rintro e w11 ⟨a11, c11, rfl, R11, hb11⟩
  have hb111 := hb110.trans (hb11.mono hb110.size)
  have R811 := R810.below hb11
  have R511 := R510.below hb11
  clear R10 R810 R510 hb11 hb110 hn10
  go_wp2_with fail
  refine (place_any k _ w11 hk (by omega) (by omega)).mono ?_
  rintro e w12 ⟨q, rfl, hq, rfl⟩
  have hq2 : q < 4 + bs.length := by omega
  have hqc : (q : Int) ≤ (c8 : Int) := by omega
  go_wp2_with fail
  refine (takeBytes_is a8 q c8 (pb.take q) w12 [] 0 3 0 0 3 (by simp; omega) (R811.take q) (by omega) (unhide HT2 q hq2) rfl rfl rfl).mono ?_
  rintro e w13 ⟨a13, c13, rfl, _, hb13⟩
  have hb113 := hb111.trans (hb13.mono hb111.size)
  have s1 := conv_str w13 a5 bs.length c5 bs rfl (R511.below hb13)
  have s2 := conv_str w13 a0 bs.length cap0 bs rfl (R0.below hb113)
  have s3 := conv_str w13 a11 bs.length c11 bs rfl (R11.below hb13)
  clear R811 R511 R11 hb13 hb111 hq hqc hq2 R0 R1 hk
  have e1 : (8 + (bs.length : Int) == bs.length + 8) = true := beq_iff_eq.2 (by omega)
  have e2 : (4 + (bs.length : Int) == bs.length + 4) = true := beq_iff_eq.2 (by omega)
  go_wp2
  go_ret
  exact ⟨rfl, hb113⟩

theorem cut_big (a0 : Option Addr) (l0 cap0 : Nat) (a1 : Option Addr) (l1 cap1 : Nat) (k : Int) (w : World) (h : 100 < l0 ∨ 20 < l1) (h0 : l0 ≤ 9223372036854775807) (h1 : l1 ≤ 9223372036854775807) :
    Calls Try.prog 7 #[.slice a0 l0 cap0, .slice a1 l1 cap1, .int .i64 k] w fun e w' => e = .returned (.bool true) ∧ Below w.heap.size w w' := by
  by_cases hb : 100 < l0
  · go_enter Try.func7, Try.ntmps7
    go_wp2_with fail
    refine (begun_any w).mono ?_
    rintro e w1 ⟨rfl, hb1⟩
    go_wp2
    go_ret
    exact ⟨rfl, hb1⟩
  · have hb2 : 20 < l1 := by omega
    clear h
    go_enter Try.func7, Try.ntmps7
    go_wp2_with fail
    refine (begun_any w).mono ?_
    rintro e w1 ⟨rfl, hb1⟩
    go_wp2
    go_ret
    exact ⟨rfl, hb1⟩
end Go.Proofs.Ytjkbapjdojhdeaa
