/-
  What the document's own shortest and one tell.
-/
import Derived.Test.YtilmkmplaehcaaaDoorOps
import Derived.Test.YtilmkmplaehcaaaDoorUtfP
namespace Go.Proofs.YtilmkmplaehcaaaDoor
set_option linter.unusedVariables false
open Go.RowKit

theorem ushortest_any (r : Int) (w : World) : Calls Tryd.prog 43 #[.int .i32 r] w fun e w' => e = .returned (.int .i64 (ush r : Int)) ∧ w' = w := by
  unfold ush
  by_cases h1 : r < 0
  · rw [if_pos (.inl h1)]
    go_enter Tryd.func43, Tryd.ntmps43
    go_wp2
    go_ret
    exact ⟨rfl, rfl⟩
  · by_cases h2 : 1114111 < r
    · rw [if_pos (.inr (.inl h2))]
      go_enter Tryd.func43, Tryd.ntmps43
      go_wp2
      go_ret
      exact ⟨rfl, rfl⟩
    · by_cases h3 : 55296 ≤ r
      · by_cases h4 : r ≤ 57343
        · rw [if_pos (.inr (.inr ⟨h3, h4⟩))]
          go_enter Tryd.func43, Tryd.ntmps43
          go_wp2
          go_ret
          exact ⟨rfl, rfl⟩
        · rw [if_neg (by omega), if_neg (by omega), if_neg (by omega)]
          by_cases h5 : r < 65536
          · rw [if_pos h5]
            go_enter Tryd.func43, Tryd.ntmps43
            go_wp2
            go_ret
            exact ⟨rfl, rfl⟩
          · rw [if_neg h5]
            go_enter Tryd.func43, Tryd.ntmps43
            go_wp2
            go_ret
            exact ⟨rfl, rfl⟩
      · rw [if_neg (by omega)]
        by_cases h5 : r < 128
        · rw [if_pos h5]
          go_enter Tryd.func43, Tryd.ntmps43
          go_wp2
          go_ret
          exact ⟨rfl, rfl⟩
        · rw [if_neg h5]
          by_cases h6 : r < 2048
          · rw [if_pos h6]
            go_enter Tryd.func43, Tryd.ntmps43
            go_wp2
            go_ret
            exact ⟨rfl, rfl⟩
          · rw [if_neg h6, if_pos (by omega)]
            go_enter Tryd.func43, Tryd.ntmps43
            go_wp2
            go_ret
            exact ⟨rfl, rfl⟩

theorem and63 (x : Int) (h0 : 0 ≤ x) (h1 : x < 2147483648) : bits .and .i32 x 63 = x % 64 := bits_mask .i32 31 (by decide) wraps_i32 6 (by decide) x h0 h1

theorem or224 (y : Int) (h0 : 0 ≤ y) (h1 : y < 16) : bits .or .i32 224 y = 224 + y := bits_join .i32 31 (by decide) wraps_i32 4 224 y (by decide) (by decide) (by decide) h0 (by simpa using h1) (by omega)
theorem or240 (y : Int) (h0 : 0 ≤ y) (h1 : y < 8) : bits .or .i32 240 y = 240 + y := bits_join .i32 31 (by decide) wraps_i32 3 240 y (by decide) (by decide) (by decide) h0 (by simpa using h1) (by omega)

theorem Bof (y : Nat) (h : y < 256) : B (UInt8.ofNat y) = .int .u8 (y : Int) := by simp only [B, toNat_ofNat y h]

theorem raw1 (x : Nat) (h : x < 128) : (raw 1 x).map B = [.int .u8 (x : Int)] := by
  simp only [raw, List.map_cons, List.map_nil, Bof x (by omega)]
theorem raw2 (x : Nat) (h : x < 2048) : (raw 2 x).map B = [.int .u8 (192 + (x : Int) / 64), .int .u8 (128 + (x : Int) % 64)] := by
  simp only [raw, List.map_cons, List.map_nil, Bof (192 + x / 64) (by omega), Bof (128 + x % 64) (by omega)]
  simp
theorem raw3 (x : Nat) (h : x < 65536) : (raw 3 x).map B = [.int .u8 (224 + (x : Int) / 4096), .int .u8 (128 + (x : Int) / 64 % 64), .int .u8 (128 + (x : Int) % 64)] := by
  simp only [raw, List.map_cons, List.map_nil, Bof (224 + x / 4096) (by omega), Bof (128 + x / 64 % 64) (by omega), Bof (128 + x % 64) (by omega)]
  simp
theorem raw4 (x : Nat) (h : x < 2097152) : (raw 4 x).map B = [.int .u8 (240 + (x : Int) / 262144), .int .u8 (128 + (x : Int) / 4096 % 64), .int .u8 (128 + (x : Int) / 64 % 64), .int .u8 (128 + (x : Int) % 64)] := by
  simp only [raw, List.map_cons, List.map_nil, Bof (240 + x / 262144) (by omega), Bof (128 + x / 4096 % 64) (by omega), Bof (128 + x / 64 % 64) (by omega), Bof (128 + x % 64) (by omega)]
  simp

theorem one1 (x : Nat) (w : World) (h : ush (x : Int) = 1) : Calls Tryd.prog 32 #[.int .i32 (x : Int)] w (Gives w ((raw 1 x).map B)) := by
  obtain ⟨_, _, _, b1, _⟩ := sh_bound h (by decide)
  have b := b1 rfl
  clear b1
  have hs := ushortest_any (x : Int) w
  rw [h] at hs
  have HS := hide hs
  clear hs
  rw [raw1 x (by omega)]
  go_enter Tryd.func32, Tryd.ntmps32
  go_wp2_with fail
  refine (unhide HS).mono ?_
  rintro e w1 ⟨rfl, rfl⟩
  go_wp2
  go_ret
  refine ⟨some ⟨w1.heap.size, 0, none⟩, 1, rfl, ?_, Ext.alloc _ _⟩
  exact RdV.lit w1 _ 5 (0, 0) (show 1 ≤ 9223372036854775807 by omega)

theorem one2 (x : Nat) (w : World) (h : ush (x : Int) = 2) : Calls Tryd.prog 32 #[.int .i32 (x : Int)] w (Gives w ((raw 2 x).map B)) := by
  obtain ⟨_, _, _, _, b1, _⟩ := sh_bound h (by decide)
  have b := b1 rfl
  clear b1
  have hs := ushortest_any (x : Int) w
  rw [h] at hs
  have HS := hide hs
  clear hs
  rw [raw2 x (by omega)]
  have n0 := and63 (x : Int) (by omega) (by omega)
  go_enter Tryd.func32, Tryd.ntmps32
  go_wp2_with fail
  refine (unhide HS).mono ?_
  rintro e w1 ⟨rfl, rfl⟩
  go_wp2
  go_ret
  refine ⟨some ⟨w1.heap.size, 0, none⟩, 2, rfl, ?_, Ext.alloc _ _⟩
  exact RdV.lit w1 _ 5 (0, 0) (show 2 ≤ 9223372036854775807 by omega)

theorem one3 (x : Nat) (w : World) (h : ush (x : Int) = 3) : Calls Tryd.prog 32 #[.int .i32 (x : Int)] w (Gives w ((raw 3 x).map B)) := by
  obtain ⟨_, _, _, _, _, b1, _⟩ := sh_bound h (by decide)
  have b := b1 rfl
  clear b1
  have hs := ushortest_any (x : Int) w
  rw [h] at hs
  have HS := hide hs
  clear hs
  rw [raw3 x (by omega)]
  have n0 := and63 (x : Int) (by omega) (by omega)
  have n1 := and63 ((x : Int) / 64) (by omega) (by omega)
  have o0 := or224 ((x : Int) / 4096) (by omega) (by omega)
  go_enter Tryd.func32, Tryd.ntmps32
  go_wp2_with fail
  refine (unhide HS).mono ?_
  rintro e w1 ⟨rfl, rfl⟩
  go_wp2
  go_ret
  refine ⟨some ⟨w1.heap.size, 0, none⟩, 3, rfl, ?_, Ext.alloc _ _⟩
  exact RdV.lit w1 _ 5 (0, 0) (show 3 ≤ 9223372036854775807 by omega)

theorem one4 (x : Nat) (w : World) (h : ush (x : Int) = 4) : Calls Tryd.prog 32 #[.int .i32 (x : Int)] w (Gives w ((raw 4 x).map B)) := by
  obtain ⟨_, bm, _, _, _, _, b1, _⟩ := sh_bound h (by decide)
  have b := b1 rfl
  clear b1
  have hs := ushortest_any (x : Int) w
  rw [h] at hs
  have HS := hide hs
  clear hs
  rw [raw4 x (by omega)]
  have n0 := and63 (x : Int) (by omega) (by omega)
  have n1 := and63 ((x : Int) / 64) (by omega) (by omega)
  have n2 := and63 ((x : Int) / 4096) (by omega) (by omega)
  have o0 := or240 ((x : Int) / 262144) (by omega) (by omega)
  go_enter Tryd.func32, Tryd.ntmps32
  go_wp2_with fail
  refine (unhide HS).mono ?_
  rintro e w1 ⟨rfl, rfl⟩
  go_wp2
  go_ret
  refine ⟨some ⟨w1.heap.size, 0, none⟩, 4, rfl, ?_, Ext.alloc _ _⟩
  exact RdV.lit w1 _ 5 (0, 0) (show 4 ≤ 9223372036854775807 by omega)

theorem one_any (r : Int) (w : World) (hr : -2147483648 ≤ r ∧ r ≤ 2147483647) : Calls Tryd.prog 32 #[.int .i32 r] w (Gives w ((one r).map B)) := by
  have good : ∀ (r : Int) (w : World), ush r ≠ 0 → Calls Tryd.prog 32 #[.int .i32 r] w (Gives w ((one r).map B)) := by
    intro r w h
    rw [one_ok h]
    obtain ⟨h0, _⟩ := sh_bound (r := r) rfl h
    obtain ⟨x, rfl⟩ := Int.eq_ofNat_of_zero_le h0
    simp only [Int.toNat_natCast]
    have h4 := sh_le (x : Int)
    have c : ush (x : Int) = 1 ∨ ush (x : Int) = 2 ∨ ush (x : Int) = 3 ∨ ush (x : Int) = 4 := by omega
    rcases c with c | c | c | c
    · rw [c]; exact one1 x w c
    · rw [c]; exact one2 x w c
    · rw [c]; exact one3 x w c
    · rw [c]; exact one4 x w c
  by_cases h : ush r = 0
  · have hs := ushortest_any r w
    rw [h] at hs
    have HS := hide hs
    clear hs
    have e1 : one r = one 65533 := by unfold one; rw [if_pos h]; rfl
    rw [e1]
    have g := fun w => good 65533 w (by decide)
    have HG := hide g
    clear g good
    go_enter Tryd.func32, Tryd.ntmps32
    go_wp2_with fail
    refine (unhide HS).mono ?_
    rintro e w1 ⟨rfl, rfl⟩
    go_wp2_with fail
    refine (unhide HG _).mono ?_
    rintro e w2 ⟨ao, cap, rfl, hr2, hx⟩
    go_wp2
    go_ret
    exact ⟨ao, cap, rfl, hr2, hx⟩
  · exact good r w h
end Go.Proofs.YtilmkmplaehcaaaDoor
