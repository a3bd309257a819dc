/-
  What octet.Sum tells: the check sum of all bytes, one part behind the other.
-/
import Derived.Test.YtjkbapjdojhdeaaMake
import Derived.Test.YtjkbapjdojhdeaaTab
namespace Go.Proofs.Ytjkbapjdojhdeaa
set_option linter.unusedVariables false
open Go.RowKit

theorem tab_lit (w : World) : Calls Try.prog 32 #[] w fun e w' => e = .returned (.agg #[.int .u32 0, .int .u32 498536548, .int .u32 997073096, .int .u32 651767980, .int .u32 1994146192, .int .u32 1802195444, .int .u32 1303535960, .int .u32 1342533948, .int .u32 3988292384, .int .u32 4027552580, .int .u32 3604390888, .int .u32 3412177804, .int .u32 2607071920, .int .u32 2262029012, .int .u32 2685067896, .int .u32 3183342108]) ∧ Below w.heap.size w w' :=
  (tab_any w).mono fun e w' h => ⟨by rw [h.1, tab_end], h.2⟩

theorem hide {p : Prop} (h : p) : Hid p := h
theorem unhide {p : Prop} (h : Hid p) : p := h

theorem ones_xor (x : Nat) (h : x < 4294967296) : 4294967295 ^^^ x = 4294967295 - x := by
  have e1 : (4294967295 : Nat) = 2 ^ 32 - 1 := by decide
  have e2 : 4294967295 - x = 2 ^ 32 - (x + 1) := by omega
  apply Nat.eq_of_testBit_eq
  intro i
  rw [Nat.testBit_xor, e2, Nat.testBit_two_pow_sub_succ (by omega), e1, Nat.testBit_two_pow_sub_one]
  by_cases hi : i < 32
  · simp [hi]
  · have : x.testBit i = false := Nat.testBit_lt_two_pow (Nat.lt_of_lt_of_le h (Nat.pow_le_pow_right (n := 2) (by decide) (show 32 ≤ i by omega)))
    simp [hi, this]

theorem flip_u (x : Nat) (h : x < 4294967296) : bits .xor .u32 IntKind.u32.max (x : Int) = ((4294967295 - x : Nat) : Int) := by
  rw [show IntKind.u32.max = ((4294967295 : Nat) : Int) from rfl, u32_xor_nat _ _ (by decide) h, ones_xor x h]

/-- A part: its address, its capacity, its bytes. -/
abbrev Part : Type := Option Addr × Nat × List UInt8

/-- All bytes of parts, one behind the other. -/
def cat (ps : List Part) : List UInt8 := (ps.map fun p => p.2.2).flatten

theorem cat_take (ps : List Part) (i : Nat) (p : Part) (h : ps[i]? = some p) : cat (ps.take (i + 1)) = cat (ps.take i) ++ p.2.2 := by
  obtain ⟨hi, e⟩ := List.getElem?_eq_some_iff.1 h
  rw [List.take_succ_eq_append_getElem hi, e]
  simp [cat]

/-- The parts lie one behind the other. -/
def Lie (w : World) (b off : Nat) (ps : List Part) : Prop :=
  ∀ i p, ps[i]? = some p → w.cell? ⟨b, off + i, none⟩ = some (.slice p.1 p.2.2.length p.2.1) ∧ Rd w p.1 p.2.1 p.2.2

theorem Lie.below {w w' : World} {b off : Nat} {ps : List Part} (h : Lie w b off ps) (hb : Below w.heap.size w w') : Lie w' b off ps := by
  intro i p hp
  obtain ⟨h1, h2⟩ := h i p hp
  refine ⟨?_, h2.below hb⟩
  rw [← h1]
  refine hb.cell (p := ⟨b, off + i, none⟩) ?_
  rcases Nat.lt_or_ge b w.heap.size with h' | h'
  · exact h'
  · simp [World.cell?, Array.getElem?_eq_none h'] at h1

theorem tab_cells (w1 : World) (i : Nat) (h : i < 16) : (w1.alloc (.cells #[.int .u32 0, .int .u32 498536548, .int .u32 997073096, .int .u32 651767980, .int .u32 1994146192, .int .u32 1802195444, .int .u32 1303535960, .int .u32 1342533948, .int .u32 3988292384, .int .u32 4027552580, .int .u32 3604390888, .int .u32 3412177804, .int .u32 2607071920, .int .u32 2262029012, .int .u32 2685067896, .int .u32 3183342108] 50)).cell? ⟨w1.heap.size, i, none⟩ = some (.int .u32 (sts 4 i : Nat)) := by
  rw [← tab_end]
  have := tab_at 16 i h
  rw [if_pos h] at this
  simp [World.cell?, World.alloc, -World.alloc_eq, this]

theorem and15 (t : Nat) (h : t < 4294967296) : bits .and .u32 (t : Int) 15 = ((t % 16 : Nat) : Int) := by
  rw [show (15 : Int) = ((15 : Nat) : Int) from rfl, u32_and_nat _ _ h (by decide), nat_mask4]

theorem xor_u (a b : Nat) (ha : a < 4294967296) (hb : b < 4294967296) : bits .xor .u32 (a : Int) (b : Int) = ((a ^^^ b : Nat) : Int) := u32_xor_nat a b ha hb

theorem xor_u16 (a b : Nat) (ha : a < 4294967296) (hb : b < 4294967296) : bits .xor .u32 ((a : Int) / 16) (b : Int) = ((a / 16 ^^^ b : Nat) : Int) := by
  rw [show (a : Int) / 16 = ((a / 16 : Nat) : Int) by omega]
  exact u32_xor_nat _ _ (by omega) hb

set_option maxHeartbeats 1000000 in
theorem sum_some (b off n cap : Nat) (ps : List Part) (w : World) (hl : ps.length = n) (hlc : n ≤ cap) (hm : cap ≤ 9223372036854775807) (h : Lie w b off ps) :
    Calls Try.prog 22 #[.slice (some ⟨b, off, none⟩) n cap] w fun e w' => e = .returned (.int .u32 (crc (cat ps) : Nat)) ∧ Below w.heap.size w w' := by
  go_enter Try.func22, Try.ntmps22
  go_wp2_with fail
  refine (tab_lit w).mono ?_
  rintro e w1 ⟨rfl, hb1⟩
  go_wp2_with fail
  have hT := tab_cells w1
  have hbW : Below w.heap.size w (w1.alloc (.cells #[.int .u32 0, .int .u32 498536548, .int .u32 997073096, .int .u32 651767980, .int .u32 1994146192, .int .u32 1802195444, .int .u32 1303535960, .int .u32 1342533948, .int .u32 3988292384, .int .u32 4027552580, .int .u32 3604390888, .int .u32 3412177804, .int .u32 2607071920, .int .u32 2262029012, .int .u32 2685067896, .int .u32 3183342108] 50)) := hb1.alloc hb1.size _
  have hL := h.below hbW
  generalize w1.alloc (.cells #[.int .u32 0, .int .u32 498536548, .int .u32 997073096, .int .u32 651767980, .int .u32 1994146192, .int .u32 1802195444, .int .u32 1303535960, .int .u32 1342533948, .int .u32 3988292384, .int .u32 4027552580, .int .u32 3604390888, .int .u32 3412177804, .int .u32 2607071920, .int .u32 2262029012, .int .u32 2685067896, .int .u32 3183342108] 50) = W at *
  generalize w1.heap.size = T at *
  generalize Value.agg _ = tv
  go_loop [4, 12] (fun s i => ∃ k : Nat, k ≤ n ∧ i = .int .i64 k ∧ s = .int .u32 (crcTo 4294967295 (cat (ps.take k)) : Nat)) (fun _ i => n - (intOf i).toNat)
  case atStart => exact ⟨0, Nat.zero_le _, rfl, rfl⟩
  case round =>
    obtain ⟨k, hk, rfl, rfl⟩ := hrel
    by_cases hlt : k < n
    · obtain ⟨p, hp⟩ : ∃ p, ps[k]? = some p := ⟨_, List.getElem?_eq_getElem (by omega)⟩
      obtain ⟨ao, c, bs⟩ := p
      obtain ⟨hcell, hR⟩ := hL k _ hp
      have HC : Hid (cat (ps.take (k + 1)) = cat (ps.take k) ++ bs) := cat_take ps k _ hp
      have hs0 : crcTo 4294967295 (cat (ps.take k)) < 4294967296 := crcTo_lt _ _ (by decide)
      generalize hs : crcTo 4294967295 (cat (ps.take k)) = s0 at *
      have HS := hide hs
      clear hp hs
      rcases Nat.eq_zero_or_pos bs.length with h0 | hpos
      · have HC' : Hid (cat (ps.take (k + 1)) = cat (ps.take k)) := by have e := HC.out; rw [List.eq_nil_of_length_eq_zero h0, List.append_nil] at e; exact e
        go_wp2_with fail
        refine wp_loop_rounds 1 ?_
        rw [rounds_succ]
        go_wp2
        go_round
        case rel => exact ⟨k + 1, by omega, by go_num, by rw [HC'.out, HS.out]⟩
        case measure => simp [intOf]; omega
      · obtain ⟨b1, o1, rfl, _⟩ := hR.cell 0 hpos
        have hbl := hR.le
        have hbm := hR.max
        go_wp2_with fail
        go_loop [4, 18] (fun s i => ∃ j : Nat, j ≤ bs.length ∧ i = .int .i64 j ∧ s = .int .u32 (crcTo s0 (bs.take j) : Nat)) (fun _ i => bs.length - (intOf i).toNat)
        case atStart => exact ⟨0, Nat.zero_le _, rfl, rfl⟩
        case round =>
          obtain ⟨j, hj, rfl, rfl⟩ := hrel
          by_cases hjl : j < bs.length
          · have HJ : Hid (crcTo s0 (bs.take (j + 1)) = bstep (crcTo s0 (bs.take j)) (bs.getD j 0)) := by rw [take_snoc bs j hjl, crcTo_append]; rfl
            have hs1 : crcTo s0 (bs.take j) < 4294967296 := crcTo_lt _ _ hs0
            have hc1 : W.cell? ⟨b1, o1 + j, none⟩ = some (.int .u8 ((bs.getD j 0).toNat : Nat)) := by
              obtain ⟨b2, o2, e, hc⟩ := hR.cell j hjl
              simp only [Option.some.injEq, Addr.mk.injEq] at e
              obtain ⟨rfl, rfl, _⟩ := e
              exact hc
            generalize crcTo s0 (bs.take j) = s1 at *
            generalize bs.getD j 0 = x at *
            have hx := x.toNat_lt
            obtain ⟨y, hy⟩ : ∃ y, y = x.toNat := ⟨_, rfl⟩
            rw [← hy] at hc1 hx
            have HY := hide hy
            clear hy
            have e1 := xor_u s1 y hs1 (by omega)
            obtain ⟨t, ht⟩ : ∃ t, t = s1 ^^^ y := ⟨_, rfl⟩
            rw [← ht] at e1
            have hlt1 : t < 4294967296 := by rw [ht]; exact Nat.xor_lt_two_pow (n := 32) hs1 (by omega)
            have Ht := hide ht
            clear ht
            have e2 := and15 t hlt1
            obtain ⟨m, hm1⟩ : ∃ m, m = t % 16 := ⟨_, rfl⟩
            rw [← hm1] at e2
            have hm16 : m < 16 := by omega
            have Hm := hide hm1
            clear hm1
            have c2 := hT m hm16
            obtain ⟨r, hr⟩ : ∃ r, r = sts 4 m := ⟨_, rfl⟩
            have hr32 : r < 4294967296 := by rw [hr]; exact sts_lt 4 m (by omega)
            rw [← hr] at c2
            have Hr := hide hr
            clear hr
            have e3 := xor_u16 t r hlt1 hr32
            obtain ⟨t2, ht2⟩ : ∃ t2, t2 = t / 16 ^^^ r := ⟨_, rfl⟩
            rw [← ht2] at e3
            have hlt2 : t2 < 4294967296 := by rw [ht2]; exact Nat.xor_lt_two_pow (n := 32) (by omega) hr32
            have Ht2 := hide ht2
            clear ht2
            have e4 := and15 t2 hlt2
            obtain ⟨m2, hm2⟩ : ∃ m, m = t2 % 16 := ⟨_, rfl⟩
            rw [← hm2] at e4
            have hm16' : m2 < 16 := by omega
            have Hm2 := hide hm2
            clear hm2
            have c3 := hT m2 hm16'
            obtain ⟨r2, hr2⟩ : ∃ r, r = sts 4 m2 := ⟨_, rfl⟩
            have hr32' : r2 < 4294967296 := by rw [hr2]; exact sts_lt 4 m2 (by omega)
            rw [← hr2] at c3
            have Hr2 := hide hr2
            clear hr2
            have e5 := xor_u16 t2 r2 hlt2 hr32'
            obtain ⟨t3, ht3⟩ : ∃ t3, t3 = t2 / 16 ^^^ r2 := ⟨_, rfl⟩
            rw [← ht3] at e5
            have HE : Hid (t3 = bstep s1 x) := by
              have e1 := unhide HY
              have e2 := unhide Ht
              have e3 := unhide Hm
              have e4 := unhide Hr
              have e5 := unhide Ht2
              have e6 := unhide Hm2
              have e7 := unhide Hr2
              subst e1 e2 e3 e4 e5 e6 e7 ht3
              exact bstep_row s1 x _ rfl
            clear ht3 hT hL h hcell hR
            go_wp2
            go_round
            case rel => exact ⟨j + 1, by omega, by go_num, by rw [HJ.out, ← HE.out]⟩
            case measure => simp [intOf]; omega
          · have e : j = bs.length := by omega
            subst e
            go_wp2
            go_round
            case rel => exact ⟨k + 1, by omega, by go_num, by rw [HC.out, crcTo_append, HS.out, List.take_of_length_le (Nat.le_refl _)]⟩
            case measure => simp [intOf]; omega
    · have e : k = n := by omega
      subst e
      have hs0 : crcTo 4294967295 (cat ps) < 4294967296 := crcTo_lt _ _ (by decide)
      go_wp2
      go_ret
      exact ⟨ret_int (by rw [List.take_of_length_le (by omega), flip_u _ hs0]; rfl), hbW⟩
end Go.Proofs.Ytjkbapjdojhdeaa
