/-
  What the document's own Sum tells: the check sum, bit by bit.
-/
import Derived.Test.YtjkbapjdojhdeaaRefb
namespace Go.Proofs.Ytjkbapjdojhdeaa
set_option linter.unusedVariables false
open Go.RowKit

set_option maxHeartbeats 2000000 in
theorem rsum_some (b off n cap : Nat) (ps : List Part) (w : World) (hl : ps.length = n) (hlc : n ≤ cap) (hm : cap ≤ 9223372036854775807) (h : Lie w b off ps) :
    Calls Try.prog 23 #[.slice (some ⟨b, off, none⟩) n cap] w fun e w' => e = .returned (.int .u32 (crc (cat ps) : Nat)) ∧ w' = w := by
  go_enter Try.func23, Try.ntmps23
  go_wp2_with fail
  go_loop [3, 4] (fun s i => ∃ k : Nat, k ≤ n ∧ i = .int .i64 k ∧ s = .int .u32 (crcTo 4294967295 (cat (ps.take k)) : Nat)) (fun _ i => n - (intOf i).toNat)
  case atStart => exact ⟨0, Nat.zero_le _, rfl, rfl⟩
  case round =>
    obtain ⟨k, hk, rfl, rfl⟩ := hrel
    by_cases hlt : k < n
    · obtain ⟨p, hp⟩ : ∃ p, ps[k]? = some p := ⟨_, List.getElem?_eq_getElem (by omega)⟩
      obtain ⟨ao, c, bs⟩ := p
      obtain ⟨hcell, hR⟩ := h k _ hp
      have HC : Hid (cat (ps.take (k + 1)) = cat (ps.take k) ++ bs) := cat_take ps k _ hp
      have hs0 : crcTo 4294967295 (cat (ps.take k)) < 4294967296 := crcTo_lt _ _ (by decide)
      generalize hs : crcTo 4294967295 (cat (ps.take k)) = s0 at *
      have HS := hide hs
      clear hp hs
      simp only at hcell
      rcases Nat.eq_zero_or_pos bs.length with h0 | hpos
      · have HC' : Hid (cat (ps.take (k + 1)) = cat (ps.take k)) := by have e := HC.out; rw [List.eq_nil_of_length_eq_zero h0, List.append_nil] at e; exact e
        go_wp2_with fail
        refine wp_loop_rounds 1 ?_
        rw [rounds_succ]
        go_wp2
        go_round
        case rel => exact ⟨k + 1, by omega, by go_num, by rw [HC'.out, HS.out]⟩
        case measure => simp [intOf]; omega
      · obtain ⟨b1, o1, rfl, _⟩ := hR.cell 0 hpos
        have hbl := hR.le
        have hbm := hR.max
        go_wp2_with fail
        go_loop [3, 5] (fun s i => ∃ j : Nat, j ≤ bs.length ∧ i = .int .i64 j ∧ s = .int .u32 (crcTo s0 (bs.take j) : Nat)) (fun _ i => bs.length - (intOf i).toNat)
        case atStart => exact ⟨0, Nat.zero_le _, rfl, rfl⟩
        case round =>
          obtain ⟨j, hj, rfl, rfl⟩ := hrel
          by_cases hjl : j < bs.length
          · have HJ : Hid (crcTo s0 (bs.take (j + 1)) = bstep (crcTo s0 (bs.take j)) (bs.getD j 0)) := by rw [take_snoc bs j hjl, crcTo_append]; rfl
            have hs1 : crcTo s0 (bs.take j) < 4294967296 := crcTo_lt _ _ hs0
            have hc1 : w.cell? ⟨b1, o1 + j, none⟩ = some (.int .u8 ((bs.getD j 0).toNat : Nat)) := by
              obtain ⟨b2, o2, e, hc⟩ := hR.cell j hjl
              simp only [Option.some.injEq, Addr.mk.injEq] at e
              obtain ⟨rfl, rfl, _⟩ := e
              exact hc
            generalize crcTo s0 (bs.take j) = s1 at *
            generalize bs.getD j 0 = x at *
            have hx := x.toNat_lt
            obtain ⟨y, hy⟩ : ∃ y, y = x.toNat := ⟨_, rfl⟩
            rw [← hy] at hc1 hx
            have e1 := xor_u s1 y hs1 (by omega)
            obtain ⟨t, ht⟩ : ∃ t, t = s1 ^^^ y := ⟨_, rfl⟩
            rw [← ht] at e1
            have hlt1 : t < 4294967296 := by rw [ht]; exact Nat.xor_lt_two_pow (n := 32) hs1 (by omega)
            have HB : Hid (sts 8 t = bstep s1 x) := by rw [ht, hy]; rfl
            clear ht hy hR h
            go_wp2_with fail
            go_loop [3, 6] (fun r m => ∃ q : Nat, q ≤ 8 ∧ m = .int .i64 q ∧ r = .int .u32 (sts q t : Nat)) (fun _ m => 8 - (intOf m).toNat)
            case atStart => exact ⟨0, Nat.zero_le _, rfl, rfl⟩
            case round =>
              obtain ⟨q, hq, rfl, rfl⟩ := hrel
              have hsq := sts_lt q t hlt1
              by_cases hq8 : q < 8
              · go_wp2
                · go_round
                  case rel => exact ⟨q + 1, by omega, by go_num, by rw [sts_succ]; exact st_odd _ hsq (by assumption)⟩
                  case measure => simp [intOf]; omega
                · go_round
                  case rel => exact ⟨q + 1, by omega, by go_num, by rw [sts_succ]; exact st_even _ hsq (by assumption)⟩
                  case measure => simp [intOf]; omega
              · have e : q = 8 := by omega
                subst e
                go_wp2
                go_round
                case rel => exact ⟨j + 1, by omega, by go_num, by rw [HJ.out, HB.out]⟩
                case measure => simp [intOf]; omega
          · have e : j = bs.length := by omega
            subst e
            go_wp2
            go_round
            case rel => exact ⟨k + 1, by omega, by go_num, by rw [HC.out, crcTo_append, HS.out, List.take_of_length_le (Nat.le_refl _)]⟩
            case measure => simp [intOf]; omega
    · have e : k = n := by omega
      subst e
      have hs0 : crcTo 4294967295 (cat ps) < 4294967296 := crcTo_lt _ _ (by decide)
      go_wp2
      go_ret
      exact ⟨ret_int (by rw [List.take_of_length_le (by omega), flip_u _ hs0]; rfl), rfl⟩
end Go.Proofs.Ytjkbapjdojhdeaa
