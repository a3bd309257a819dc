/-
  UtfR, UtfS, U1, U2, U3, U4, U5.
-/
import Derived.Test.YtenlampiiodkhaaGreatDoorBAc
import Derived.Test.YtenlampiiodkhaaGreatDoorBDc
import Derived.Lib.BitFns
namespace Go.Proofs.YtenlampiiodkhaaGreatDoor
set_option linter.unusedVariables false
open Go.RowKit
theorem ushortest_any (r : Int) (w : World) : Calls Tryz.prog 103 #[.int .i32 r] w fun e w' => e = .returned (.int .i64 (ush r : Int)) ∧ w' = w := by
  unfold ush; by_cases h1 : r < 0
  · rw [if_pos (.inl h1)]; go_enter Tryz.func103, Tryz.ntmps103; go_wp2; go_ret; exact ⟨rfl, rfl⟩
  · by_cases h2 : 1114111 < r
    · rw [if_pos (.inr (.inl h2))]; go_enter Tryz.func103, Tryz.ntmps103; go_wp2; go_ret; exact ⟨rfl, rfl⟩
    · by_cases h3 : 55296 ≤ r
      · by_cases h4 : r ≤ 57343
        · rw [if_pos (.inr (.inr ⟨h3, h4⟩))]; go_enter Tryz.func103, Tryz.ntmps103; go_wp2; go_ret; exact ⟨rfl, rfl⟩
        · rw [if_neg (by omega), if_neg (by omega), if_neg (by omega)]; by_cases h5 : r < 65536
          · rw [if_pos h5]; go_enter Tryz.func103, Tryz.ntmps103; go_wp2; go_ret; exact ⟨rfl, rfl⟩
          · rw [if_neg h5]; go_enter Tryz.func103, Tryz.ntmps103; go_wp2; go_ret; exact ⟨rfl, rfl⟩
      · rw [if_neg (by omega)]; by_cases h5 : r < 128
        · rw [if_pos h5]; go_enter Tryz.func103, Tryz.ntmps103; go_wp2; go_ret; exact ⟨rfl, rfl⟩
        · rw [if_neg h5]; by_cases h6 : r < 2048
          · rw [if_pos h6]; go_enter Tryz.func103, Tryz.ntmps103; go_wp2; go_ret; exact ⟨rfl, rfl⟩
          · rw [if_neg h6, if_pos (by omega)]; go_enter Tryz.func103, Tryz.ntmps103; go_wp2; go_ret; exact ⟨rfl, rfl⟩
theorem and63 (x : Int) (h0 : 0 ≤ x) (h1 : x < 2147483648) : bits .and .i32 x 63 = x % 64 := bits_mask .i32 31 (by decide) wraps_i32 6 (by decide) x h0 h1
theorem or224 (y : Int) (h0 : 0 ≤ y) (h1 : y < 16) : bits .or .i32 224 y = 224 + y := bits_join .i32 31 (by decide) wraps_i32 4 224 y (by decide) (by decide) (by decide) h0 (by simpa using h1) (by omega)
theorem or240 (y : Int) (h0 : 0 ≤ y) (h1 : y < 8) : bits .or .i32 240 y = 240 + y := bits_join .i32 31 (by decide) wraps_i32 3 240 y (by decide) (by decide) (by decide) h0 (by simpa using h1) (by omega)
theorem Bof (y : Nat) (h : y < 256) : B (UInt8.ofNat y) = .int .u8 (y : Int) := by simp only [B, toNat_ofNat y h]
theorem raw1 (x : Nat) (h : x < 128) : (raw 1 x).map B = [.int .u8 (x : Int)] := by
  simp only [raw, List.map_cons, List.map_nil, Bof x (by omega)]
theorem raw2 (x : Nat) (h : x < 2048) : (raw 2 x).map B = [.int .u8 (192 + (x : Int) / 64), .int .u8 (128 + (x : Int) % 64)] := by
  simp only [raw, List.map_cons, List.map_nil, Bof (192 + x / 64) (by omega), Bof (128 + x % 64) (by omega)]; simp
theorem raw3 (x : Nat) (h : x < 65536) : (raw 3 x).map B = [.int .u8 (224 + (x : Int) / 4096), .int .u8 (128 + (x : Int) / 64 % 64), .int .u8 (128 + (x : Int) % 64)] := by
  simp only [raw, List.map_cons, List.map_nil, Bof (224 + x / 4096) (by omega), Bof (128 + x / 64 % 64) (by omega), Bof (128 + x % 64) (by omega)]; simp
theorem raw4 (x : Nat) (h : x < 2097152) : (raw 4 x).map B = [.int .u8 (240 + (x : Int) / 262144), .int .u8 (128 + (x : Int) / 4096 % 64), .int .u8 (128 + (x : Int) / 64 % 64), .int .u8 (128 + (x : Int) % 64)] := by
  simp only [raw, List.map_cons, List.map_nil, Bof (240 + x / 262144) (by omega), Bof (128 + x / 4096 % 64) (by omega), Bof (128 + x / 64 % 64) (by omega), Bof (128 + x % 64) (by omega)]; simp
theorem one1 (x : Nat) (w : World) (h : ush (x : Int) = 1) : Calls Tryz.prog 104 #[.int .i32 (x : Int)] w (Gives w ((raw 1 x).map B)) := by
  obtain ⟨_, _, _, b1, _⟩ := sh_bound h (by decide); have b := b1 rfl; clear b1; have hs := ushortest_any (x : Int) w; rw [h] at hs; have HS := hide hs; clear hs; rw [raw1 x (by omega)]; go_enter Tryz.func104, Tryz.ntmps104; go_wp2_with fail
  refine (unhide HS).mono ?_; rintro e w1 ⟨rfl, rfl⟩; go_wp2; go_ret; refine ⟨some ⟨w1.heap.size, 0, none⟩, 1, rfl, ?_, Ext.alloc _ _⟩; exact RdV.lit w1 _ 5 (0, 0) (show 1 ≤ 9223372036854775807 by omega)
theorem one2 (x : Nat) (w : World) (h : ush (x : Int) = 2) : Calls Tryz.prog 104 #[.int .i32 (x : Int)] w (Gives w ((raw 2 x).map B)) := by
  obtain ⟨_, _, _, _, b1, _⟩ := sh_bound h (by decide); have b := b1 rfl; clear b1; have hs := ushortest_any (x : Int) w; rw [h] at hs; have HS := hide hs; clear hs; rw [raw2 x (by omega)]; have n0 := and63 (x : Int) (by omega) (by omega); go_enter Tryz.func104, Tryz.ntmps104; go_wp2_with fail
  refine (unhide HS).mono ?_; rintro e w1 ⟨rfl, rfl⟩; go_wp2; go_ret; refine ⟨some ⟨w1.heap.size, 0, none⟩, 2, rfl, ?_, Ext.alloc _ _⟩; exact RdV.lit w1 _ 5 (0, 0) (show 2 ≤ 9223372036854775807 by omega)
theorem one3 (x : Nat) (w : World) (h : ush (x : Int) = 3) : Calls Tryz.prog 104 #[.int .i32 (x : Int)] w (Gives w ((raw 3 x).map B)) := by
  obtain ⟨_, _, _, _, _, b1, _⟩ := sh_bound h (by decide); have b := b1 rfl; clear b1; have hs := ushortest_any (x : Int) w; rw [h] at hs; have HS := hide hs; clear hs; rw [raw3 x (by omega)]; have n0 := and63 (x : Int) (by omega) (by omega); have n1 := and63 ((x : Int) / 64) (by omega) (by omega); have o0 := or224 ((x : Int) / 4096) (by omega) (by omega); go_enter Tryz.func104, Tryz.ntmps104; go_wp2_with fail
  refine (unhide HS).mono ?_; rintro e w1 ⟨rfl, rfl⟩; go_wp2; go_ret; refine ⟨some ⟨w1.heap.size, 0, none⟩, 3, rfl, ?_, Ext.alloc _ _⟩; exact RdV.lit w1 _ 5 (0, 0) (show 3 ≤ 9223372036854775807 by omega)
theorem one4 (x : Nat) (w : World) (h : ush (x : Int) = 4) : Calls Tryz.prog 104 #[.int .i32 (x : Int)] w (Gives w ((raw 4 x).map B)) := by
  obtain ⟨_, bm, _, _, _, _, b1, _⟩ := sh_bound h (by decide); have b := b1 rfl; clear b1; have hs := ushortest_any (x : Int) w; rw [h] at hs; have HS := hide hs; clear hs; rw [raw4 x (by omega)]; have n0 := and63 (x : Int) (by omega) (by omega); have n1 := and63 ((x : Int) / 64) (by omega) (by omega); have n2 := and63 ((x : Int) / 4096) (by omega) (by omega); have o0 := or240 ((x : Int) / 262144) (by omega) (by omega); go_enter Tryz.func104, Tryz.ntmps104; go_wp2_with fail
  refine (unhide HS).mono ?_; rintro e w1 ⟨rfl, rfl⟩; go_wp2; go_ret; refine ⟨some ⟨w1.heap.size, 0, none⟩, 4, rfl, ?_, Ext.alloc _ _⟩; exact RdV.lit w1 _ 5 (0, 0) (show 4 ≤ 9223372036854775807 by omega)
theorem one_any (r : Int) (w : World) (hr : -2147483648 ≤ r ∧ r ≤ 2147483647) : Calls Tryz.prog 104 #[.int .i32 r] w (Gives w ((one r).map B)) := by
  have good : ∀ (r : Int) (w : World), ush r ≠ 0 → Calls Tryz.prog 104 #[.int .i32 r] w (Gives w ((one r).map B)) := by
    intro r w h; rw [one_ok h]; obtain ⟨h0, _⟩ := sh_bound (r := r) rfl h; obtain ⟨x, rfl⟩ := Int.eq_ofNat_of_zero_le h0; simp only [Int.toNat_natCast]; have h4 := sh_le (x : Int); have c : ush (x : Int) = 1 ∨ ush (x : Int) = 2 ∨ ush (x : Int) = 3 ∨ ush (x : Int) = 4 := by omega
    rcases c with c | c | c | c
    · rw [c]; exact one1 x w c
    · rw [c]; exact one2 x w c
    · rw [c]; exact one3 x w c
    · rw [c]; exact one4 x w c
  by_cases h : ush r = 0
  · have hs := ushortest_any r w; rw [h] at hs; have HS := hide hs; clear hs; have e1 : one r = one 65533 := by unfold one; rw [if_pos h]; rfl
    rw [e1]; have g := fun w => good 65533 w (by decide); have HG := hide g; clear g good; go_enter Tryz.func104, Tryz.ntmps104; go_wp2_with fail
    refine (unhide HS).mono ?_; rintro e w1 ⟨rfl, rfl⟩; go_wp2_with fail
    refine (unhide HG _).mono ?_; rintro e w2 ⟨ao, cap, rfl, hr2, hx⟩; go_wp2; go_ret; exact ⟨ao, cap, rfl, hr2, hx⟩
  · exact good r w h
end Go.Proofs.YtenlampiiodkhaaGreatDoor
namespace Go.Proofs.YtenlampiiodkhaaGreatDoor
set_option linter.unusedVariables false
open Go.RowKit
theorem uinfoR : (Tryz.prog.info? 21).map (fun i => (i.zero, i.size, i.bytes)) = some (some (.int .i32 0), 1, 4) := by kernel_rfl
end Go.Proofs.YtenlampiiodkhaaGreatDoor
namespace Go.Proofs.YtenlampiiodkhaaGreatDoor
set_option linter.unusedVariables false
open Go.RowKit
theorem len8_any (x : Int) (w : World) (h0 : 0 ≤ x) (h1 : x ≤ 255) : Calls Tryz.prog 164 #[.int .u8 x] w fun e w' => e = .returned (.int .i64 (Lib.bitLen x.toNat)) ∧ w' = w := by
  rw [← Lib.len8_int x h0 h1]; go_enter Tryz.func164, Tryz.ntmps164; go_wp2; go_ret; refine ⟨?_, rfl⟩; generalize Lib.len8 x = y; refine ret_int ?_; simp only [wrap64]
theorem lz8_any (x : Int) (w : World) (h0 : 0 ≤ x) (h1 : x ≤ 255) : Calls Tryz.prog 131 #[.int .u8 x] w fun e w' => e = .returned (.int .i64 (8 - (Lib.bitLen x.toNat : Int))) ∧ w' = w := by
  have l := Lib.bitLen_le8 ⟨x.toNat, by omega⟩; simp only at l; have e8 : (8 - (Lib.bitLen x.toNat : Int) + 9223372036854775808) % 18446744073709551616 - 9223372036854775808 = 8 - (Lib.bitLen x.toNat : Int) := by omega
  go_enter Tryz.func131, Tryz.ntmps131; go_wp2_with (go_at_call 164; refine (len8_any x _ h0 h1).mono ?_; rintro e w' ⟨rfl, rfl⟩)
  go_ret; refine ⟨?_, rfl⟩; rw [← e8]; rfl
def ld (x : Nat) : Nat := if x < 128 then 1 else if x < 192 then 0 else if x < 224 then 2 else if x < 240 then 3 else if x < 248 then 4 else 0
def ones (x : Nat) : Nat := 8 - Lib.bitLen (255 - x)
theorem ones_le (x : Nat) (h : x < 256) : ones x ≤ 8 := by unfold ones; omega
theorem lz_ones (x : Nat) (h : x < 256) : (8 - (Lib.bitLen (255 - x) : Int)) = (ones x : Int) := by
  have l := Lib.bitLen_le8 ⟨255 - x, by omega⟩; simp only at l; unfold ones; omega
theorem ld_ones : ∀ x : Fin 256, ld x.val = if ones x.val = 0 then 1 else if ones x.val = 1 ∨ 4 < ones x.val then 0 else ones x.val := by decide +kernel
theorem not8 : ∀ x : Fin 256, bits .xor .u8 IntKind.u8.max (x.val : Int) = 255 - (x.val : Int) := by decide +kernel
theorem sizeByLead_any (x : Nat) (w : World) (h : x < 256) : Calls Tryz.prog 92 #[.int .u8 (x : Int)] w fun e w' => e = .returned (.int .i64 (ld x : Int)) ∧ w' = w := by
  have e := ld_ones ⟨x, h⟩; simp only at e; rw [e]; have hz := lz8_any (255 - (x : Int)) w (by omega) (by omega); have en : (255 - (x : Int)).toNat = 255 - x := by omega
  rw [en, lz_ones x h] at hz; have HS := hide hz; clear hz e en; have ho := ones_le x h; have nx := not8 ⟨x, h⟩; simp only at nx; generalize ones x = k at *; go_enter Tryz.func92, Tryz.ntmps92; go_wp2_with fail
  refine (unhide HS).mono ?_; rintro e w1 ⟨rfl, rfl⟩; clear HS; by_cases k0 : k = 0
  · subst k0; go_wp2; go_ret; exact ⟨rfl, rfl⟩
  · by_cases k1 : k = 1
    · subst k1; go_wp2; go_ret; exact ⟨rfl, rfl⟩
    · by_cases k2 : 4 < k
      · have j1 : ((k : Int) == 1) = false := by simp; omega
        have j2 : decide (4 < (k : Int)) = true := by simp; omega
        go_wp2; go_ret; exact ⟨rfl, rfl⟩
      · have j1 : ((k : Int) == 1) = false := by simp; omega
        have j2 : decide (4 < (k : Int)) = false := by simp; omega
        go_wp2; go_ret; exact ⟨rfl, rfl⟩
def mk (n : Nat) : Nat := if n = 2 then 192 else if n = 3 then 224 else if n = 4 then 240 else 0
theorem lead_any (n : Nat) (w : World) (h1 : 1 ≤ n) (h4 : n ≤ 4) : Calls Tryz.prog 93 #[.int .i64 (n : Int)] w fun e w' => e = .returned (.int .u8 (mk n : Int)) ∧ w' = w := by
  have c : n = 1 ∨ n = 2 ∨ n = 3 ∨ n = 4 := by omega
  clear h1 h4; rcases c with rfl | rfl | rfl | rfl
  all_goals
    go_enter Tryz.func93, Tryz.ntmps93; go_wp2; go_ret; exact ⟨rfl, rfl⟩
theorem uisCode_any (r : Int) (w : World) : Calls Tryz.prog 94 #[.int .i32 r] w fun e w' => e = .returned (.bool (decide (ush r ≠ 0))) ∧ w' = w := by
  by_cases h : ush r = 0
  · have e : decide (ush r ≠ 0) = false := by simp [h]
    rw [e]; have c : r < 0 ∨ 1114111 < r ∨ (55296 ≤ r ∧ r ≤ 57343) := by
      unfold ush at h
      split at h
      · assumption
      · exfalso; revert h; repeat' split
        all_goals omega
    clear e h; rcases c with c | c | ⟨c, d⟩
    · have c1 : ¬ 0 ≤ r := by omega
      have c2 : ¬ 57343 < r := by omega
      go_enter Tryz.func94, Tryz.ntmps94; go_wp2; go_ret; exact ⟨rfl, rfl⟩
    · have c1 : 0 ≤ r := by omega
      have c2 : 57343 < r := by omega
      have c3 : ¬ r < 55296 := by omega
      have c4 : ¬ r ≤ 1114111 := by omega
      go_enter Tryz.func94, Tryz.ntmps94; go_wp2; go_ret; exact ⟨rfl, rfl⟩
    · have c1 : 0 ≤ r := by omega
      have c2 : ¬ 57343 < r := by omega
      have c3 : ¬ r < 55296 := by omega
      go_enter Tryz.func94, Tryz.ntmps94; go_wp2; go_ret; exact ⟨rfl, rfl⟩
  · have e : decide (ush r ≠ 0) = true := by simp [h]
    rw [e]; obtain ⟨h0, hm, hs, _⟩ := sh_bound (r := r) rfl h; clear e h; by_cases c : r < 55296
    · go_enter Tryz.func94, Tryz.ntmps94; go_wp2; go_ret; exact ⟨rfl, rfl⟩
    · have c2 : 57343 < r := by omega
      go_enter Tryz.func94, Tryz.ntmps94; go_wp2; go_ret; exact ⟨rfl, rfl⟩
def sz (r : Int) : Nat := if r < 128 then 1 else if r < 2048 then 2 else if r < 65536 then 3 else 4
theorem sz_sh {r : Int} (h : ush r ≠ 0) : sz r = ush r := by
  unfold ush at h ⊢; unfold sz; by_cases c : r < 0 ∨ 1114111 < r ∨ (55296 ≤ r ∧ r ≤ 57343)
  · rw [if_pos c] at h; exact absurd rfl h
  · rw [if_neg c]
theorem size_any (r : Int) (w : World) : Calls Tryz.prog 95 #[.int .i32 r] w fun e w' => e = .returned (.int .i64 (sz r : Int)) ∧ w' = w := by
  unfold sz; by_cases c1 : r < 128
  · rw [if_pos c1]; go_enter Tryz.func95, Tryz.ntmps95; go_wp2; go_ret; exact ⟨rfl, rfl⟩
  · rw [if_neg c1]; by_cases c2 : r < 2048
    · rw [if_pos c2]; go_enter Tryz.func95, Tryz.ntmps95; go_wp2; go_ret; exact ⟨rfl, rfl⟩
    · rw [if_neg c2]; by_cases c3 : r < 65536
      · rw [if_pos c3]; go_enter Tryz.func95, Tryz.ntmps95; go_wp2; go_ret; exact ⟨rfl, rfl⟩
      · rw [if_neg c3]; go_enter Tryz.func95, Tryz.ntmps95; go_wp2; go_ret; exact ⟨rfl, rfl⟩
end Go.Proofs.YtenlampiiodkhaaGreatDoor
namespace Go.Proofs.YtenlampiiodkhaaGreatDoor
set_option linter.unusedVariables false
theorem u8_eq {x : UInt8} {y : Nat} (h : x.toNat = y) : UInt8.ofNat y = x := by rw [← h]; simp
theorem at1_ok1 (x0 : UInt8) (t : List UInt8) (h0 : x0.toNat < 128) : at1 (x0 :: t) = some (x0.toNat, 1) := by
  have hs : ush ((cand (x0 :: t) 1 : Nat) : Int) = 1 := by
    simp only [cand, List.getD_cons_zero]; unfold ush; rw [if_neg (by omega), if_pos (by omega)]
  have hk : okAt (x0 :: t) 1 = true := by
    unfold okAt; have hne : ush ((cand (x0 :: t) 1 : Nat) : Int) ≠ 0 := by omega
    have ho : one (cand (x0 :: t) 1) = [x0] := by
      rw [one_ok hne, hs]; simp only [raw, Int.toNat_natCast, cand, List.getD_cons_zero]; rw [u8_eq rfl]
    rw [ho, hs]; simp
  have := at1_some hk; simpa [cand] using this
theorem at1_ok2 (x0 x1 : UInt8) (t : List UInt8) (h0 : 192 ≤ x0.toNat ∧ x0.toNat < 224) (h1 : x1.toNat / 64 = 2) (r : Nat) (hr : r = x0.toNat % 32 * 64 + x1.toNat % 64) (hs : ush (r : Int) = 2) : at1 (x0 :: x1 :: t) = some (r, 2) := by
  have hc : cand (x0 :: x1 :: t) 2 = r := by simp only [cand, List.getD_cons_zero, List.getD_cons_succ, hr]
  have hk : okAt (x0 :: x1 :: t) 2 = true := by
    unfold okAt; rw [hc]; have hne : ush (r : Int) ≠ 0 := by omega
    have ho : one (r : Int) = [x0, x1] := by
      rw [one_ok hne, hs]; simp only [raw, Int.toNat_natCast]; rw [u8_eq (x := x0) (by omega), u8_eq (x := x1) (by omega)]
    rw [ho, hs]; simp
  have := at1_some hk
  rwa [hc] at this
theorem at1_ok3 (x0 x1 x2 : UInt8) (t : List UInt8) (h0 : 224 ≤ x0.toNat ∧ x0.toNat < 240) (h1 : x1.toNat / 64 = 2) (h2 : x2.toNat / 64 = 2) (r : Nat) (hr : r = (x0.toNat % 16 * 64 + x1.toNat % 64) * 64 + x2.toNat % 64) (hs : ush (r : Int) = 3) : at1 (x0 :: x1 :: x2 :: t) = some (r, 3) := by
  have hc : cand (x0 :: x1 :: x2 :: t) 3 = r := by simp only [cand, List.getD_cons_zero, List.getD_cons_succ, hr]
  have hk : okAt (x0 :: x1 :: x2 :: t) 3 = true := by
    unfold okAt; rw [hc]; have hne : ush (r : Int) ≠ 0 := by omega
    have ho : one (r : Int) = [x0, x1, x2] := by
      rw [one_ok hne, hs]; simp only [raw, Int.toNat_natCast]; rw [u8_eq (x := x0) (by omega), u8_eq (x := x1) (by omega), u8_eq (x := x2) (by omega)]
    rw [ho, hs]; simp
  have := at1_some hk
  rwa [hc] at this
theorem at1_ok4 (x0 x1 x2 x3 : UInt8) (t : List UInt8) (h0 : 240 ≤ x0.toNat ∧ x0.toNat < 248) (h1 : x1.toNat / 64 = 2) (h2 : x2.toNat / 64 = 2) (h3 : x3.toNat / 64 = 2) (r : Nat) (hr : r = ((x0.toNat % 8 * 64 + x1.toNat % 64) * 64 + x2.toNat % 64) * 64 + x3.toNat % 64) (hs : ush (r : Int) = 4) : at1 (x0 :: x1 :: x2 :: x3 :: t) = some (r, 4) := by
  have hc : cand (x0 :: x1 :: x2 :: x3 :: t) 4 = r := by simp only [cand, List.getD_cons_zero, List.getD_cons_succ, hr]
  have hk : okAt (x0 :: x1 :: x2 :: x3 :: t) 4 = true := by
    unfold okAt; rw [hc]; have hne : ush (r : Int) ≠ 0 := by omega
    have ho : one (r : Int) = [x0, x1, x2, x3] := by
      rw [one_ok hne, hs]; simp only [raw, Int.toNat_natCast]; rw [u8_eq (x := x0) (by omega), u8_eq (x := x1) (by omega), u8_eq (x := x2) (by omega), u8_eq (x := x3) (by omega)]
    rw [ho, hs]; simp
  have := at1_some hk
  rwa [hc] at this
theorem at1_form {bs : List UInt8} {r n : Nat} (h : at1 bs = some (r, n)) :
    ld (bs.getD 0 0).toNat = n ∧ n ≤ bs.length ∧ ush (r : Int) = n ∧ r = cand bs n ∧ (2 ≤ n → (bs.getD 1 0).toNat / 64 = 2) ∧ (3 ≤ n → (bs.getD 2 0).toNat / 64 = 2) ∧ (4 ≤ n → (bs.getD 3 0).toNat / 64 = 2) := by
  obtain ⟨h1, h2, h3, h4, h5, h6, h7⟩ := at1_len h; have hne : ush (r : Int) ≠ 0 := by omega
  obtain ⟨_, hm, _, b1, b2, b3, b4, _⟩ := sh_bound h6 (by omega); rw [one_ok hne, h6] at h7; simp only [Int.toNat_natCast] at h7; have hd : ∀ i, i < n → (bs.take n).getD i 0 = bs.getD i 0 := by
    intro i hi; simp [List.getD, hi]
  have e : ∀ i, i < n → ((raw n r).getD i 0).toNat = (bs.getD i 0).toNat := by
    intro i hi; rw [h7, hd i hi]
  have c : n = 1 ∨ n = 2 ∨ n = 3 ∨ n = 4 := by omega
  rcases c with rfl | rfl | rfl | rfl
  · have := b1 rfl; have e0 := e 0 (by omega); simp only [raw, List.getD_cons_zero] at e0; rw [toNat_ofNat _ (by omega)] at e0; refine ⟨by unfold ld; rw [if_pos (by omega)], h5, h6, h2, by omega, by omega, by omega⟩
  · have := b2 rfl; have e0 := e 0 (by omega); have e1 := e 1 (by omega); simp only [raw, List.getD_cons_zero, List.getD_cons_succ] at e0 e1; rw [toNat_ofNat _ (by omega)] at e0 e1; refine ⟨by unfold ld; rw [if_neg (by omega), if_neg (by omega), if_pos (by omega)], h5, h6, h2, by omega, by omega, by omega⟩
  · have := b3 rfl; have e0 := e 0 (by omega); have e1 := e 1 (by omega); have e2 := e 2 (by omega); simp only [raw, List.getD_cons_zero, List.getD_cons_succ] at e0 e1 e2; rw [toNat_ofNat _ (by omega)] at e0 e1 e2; refine ⟨by unfold ld; rw [if_neg (by omega), if_neg (by omega), if_neg (by omega), if_pos (by omega)], h5, h6, h2, by omega, by omega, by omega⟩
  · have := b4 rfl; have e0 := e 0 (by omega); have e1 := e 1 (by omega); have e2 := e 2 (by omega); have e3 := e 3 (by omega); simp only [raw, List.getD_cons_zero, List.getD_cons_succ] at e0 e1 e2 e3; rw [toNat_ofNat _ (by omega)] at e0 e1 e2 e3; refine ⟨by unfold ld; rw [if_neg (by omega), if_neg (by omega), if_neg (by omega), if_neg (by omega), if_pos (by omega)], h5, h6, h2, by omega, by omega, by omega⟩
theorem at1_no {bs : List UInt8} (h : ∀ r n, at1 bs = some (r, n) → False) : at1 bs = none := by
  cases e : at1 bs with
  | none => rfl
  | some p => exact absurd e (by obtain ⟨r, n⟩ := p; exact fun e => h r n e)
def fst (bs : List UInt8) : Nat := match at1 bs with | some (r, _) => r | none => 0
def snd (bs : List UInt8) : Nat := match at1 bs with | some (_, n) => n | none => 0
theorem fst_some {bs : List UInt8} {r n : Nat} (h : at1 bs = some (r, n)) : fst bs = r ∧ snd bs = n := by unfold fst snd; rw [h]; exact ⟨rfl, rfl⟩
theorem fst_none {bs : List UInt8} (h : at1 bs = none) : fst bs = 0 ∧ snd bs = 0 := by unfold fst snd; rw [h]; exact ⟨rfl, rfl⟩
end Go.Proofs.YtenlampiiodkhaaGreatDoor
namespace Go.Proofs.YtenlampiiodkhaaGreatDoor
set_option linter.unusedVariables false
open Go.RowKit
def Tells (w : World) (r n : Nat) (e : Ending) (w' : World) : Prop := e = .returned (.tuple #[.int .i32 (r : Int), .int .i64 (n : Int)]) ∧ ∃ k, w' = w.drewN k
theorem first_zero (b off cap len x0 : Nat) (w : World) (hx : x0 < 256) (hl : 1 ≤ len) (hlc : len ≤ cap) (hmx : cap ≤ 9223372036854775807) (h0 : w.cell? ⟨b, off, none⟩ = some (.int .u8 (x0 : Int))) (hd : ld x0 = 0 ∨ len < ld x0) :
    Calls Tryz.prog 56 #[.slice (some ⟨b, off, none⟩) len cap] w (Tells w 0 0) := by
  have HS := hide (sizeByLead_any x0 w hx); generalize ld x0 = n at *; go_enter Tryz.func56, Tryz.ntmps56; go_wp2_with fail
  refine (unhide HS).mono ?_; rintro e w1 ⟨rfl, rfl⟩; clear HS; by_cases hn : n = 0
  · subst hn; go_wp2; go_ret2; exact ⟨rfl, 0, rfl⟩
  · have hd : len < n := by omega
    go_wp2; go_ret2; exact ⟨rfl, 0, rfl⟩
theorem an0 : ∀ x : Fin 256, bits .andNot .u8 (x.val : Int) 0 = (x.val : Int) := by decide +kernel
theorem an192 : ∀ x : Fin 256, bits .andNot .u8 (x.val : Int) 192 = ((x.val % 64 : Nat) : Int) := by decide +kernel
theorem an224 : ∀ x : Fin 256, bits .andNot .u8 (x.val : Int) 224 = ((x.val % 32 : Nat) : Int) := by decide +kernel
theorem an240 : ∀ x : Fin 256, bits .andNot .u8 (x.val : Int) 240 = ((x.val % 16 : Nat) : Int) := by decide +kernel
theorem an63 : ∀ x : Fin 256, bits .andNot .u8 (x.val : Int) 63 = ((x.val / 64 * 64 : Nat) : Int) := by decide +kernel
theorem a63 : ∀ x : Fin 256, bits .and .u8 (x.val : Int) 63 = ((x.val % 64 : Nat) : Int) := by decide +kernel
theorem lead1 (w : World) : Calls Tryz.prog 93 #[.int .i64 1] w fun e w' => e = .returned (.int .u8 0) ∧ w' = w := lead_any 1 w (by decide) (by decide)
theorem lead2 (w : World) : Calls Tryz.prog 93 #[.int .i64 2] w fun e w' => e = .returned (.int .u8 192) ∧ w' = w := lead_any 2 w (by decide) (by decide)
theorem lead3 (w : World) : Calls Tryz.prog 93 #[.int .i64 3] w fun e w' => e = .returned (.int .u8 224) ∧ w' = w := lead_any 3 w (by decide) (by decide)
theorem lead4 (w : World) : Calls Tryz.prog 93 #[.int .i64 4] w fun e w' => e = .returned (.int .u8 240) ∧ w' = w := lead_any 4 w (by decide) (by decide)
theorem first_one (b off cap len x0 : Nat) (w : World) (hx : x0 < 128) (hl : 1 ≤ len) (hlc : len ≤ cap) (hmx : cap ≤ 9223372036854775807) (h0 : w.cell? ⟨b, off, none⟩ = some (.int .u8 (x0 : Int))) :
    Calls Tryz.prog 56 #[.slice (some ⟨b, off, none⟩) len cap] w (Tells w x0 1) := by
  have hd : ld x0 = 1 := by unfold ld; rw [if_pos hx]
  have HS := hide (sizeByLead_any x0 w (by omega)); rw [hd] at HS; go_enter Tryz.func56, Tryz.ntmps56; go_wp2_with fail
  refine (unhide HS).mono ?_; rintro e w1 ⟨rfl, rfl⟩; clear HS; have e0 := an0 ⟨x0, by omega⟩; simp only at e0; go_wp2_with fail
  go_quiet ((go_at_call 93; exact Calls.quiet_of_same (lead1 _)))
  have HC := hide (uisCode_any (x0 : Int) (w1.drewN nq)); have HZ := hide (size_any (x0 : Int) (w1.drewN nq)); have hs : ush (x0 : Int) = 1 := by unfold ush; rw [if_neg (by omega), if_pos (by omega)]
  have hz : sz (x0 : Int) = 1 := by rw [sz_sh (by omega), hs]
  rw [hz] at HZ; rw [show decide (ush (x0 : Int) ≠ 0) = true by simp [hs]] at HC; clear hs hz; go_wp2
  all_goals
    refine wp_loop_rounds 1 ?_; rw [rounds_succ]; go_wp2_with fail
    refine (unhide HC).mono ?_; rintro e w2 ⟨rfl, rfl⟩; go_wp2_with fail
    refine (unhide HZ).mono ?_; rintro e w2 ⟨rfl, rfl⟩; go_wp2; go_ret2; exact ⟨rfl, nq, rfl⟩
set_option maxHeartbeats 800000 in
theorem first2_bad1 (b off cap len x0 x1 : Nat) (w : World) (hx : 192 ≤ x0 ∧ x0 < 224) (hx1 : x1 < 256) (hl : 2 ≤ len) (hlc : len ≤ cap) (hmx : cap ≤ 9223372036854775807)
    (h0 : w.cell? ⟨b, off, none⟩ = some (.int .u8 (x0 : Int))) (h1 : w.cell? ⟨b, off + 1, none⟩ = some (.int .u8 (x1 : Int)))  (g1 : ¬ x1 / 64 = 2) :
    Calls Tryz.prog 56 #[.slice (some ⟨b, off, none⟩) len cap] w (Tells w 0 0) := by
  have hd : ld x0 = 2 := by unfold ld; rw [if_neg (by omega), if_neg (by omega), if_pos (by omega)]
  have HS := hide (sizeByLead_any x0 w (by omega)); rw [hd] at HS; clear hd; have e0 := an192 ⟨x0, by omega⟩; have p1 := an63 ⟨x1, by omega⟩; have q1 := a63 ⟨x1, by omega⟩; simp only at e0 p1 q1; have hcap : ¬ cap = 1 := by omega
  go_enter Tryz.func56, Tryz.ntmps56; go_wp2_with fail
  refine (unhide HS).mono ?_; rintro e w1 ⟨rfl, rfl⟩; clear HS; go_wp2_with fail
  go_quiet ((go_at_call 93; exact Calls.quiet_of_same (lead2 _)))
  go_wp2; refine wp_loop_rounds 2 ?_; rw [rounds_succ]; go_wp2_with fail
  go_ret2; exact ⟨rfl, nq, rfl⟩
set_option maxHeartbeats 800000 in
theorem first2_no (b off cap len x0 x1 : Nat) (w : World) (hx : 192 ≤ x0 ∧ x0 < 224) (hx1 : x1 < 256) (hl : 2 ≤ len) (hlc : len ≤ cap) (hmx : cap ≤ 9223372036854775807)
    (h0 : w.cell? ⟨b, off, none⟩ = some (.int .u8 (x0 : Int))) (h1 : w.cell? ⟨b, off + 1, none⟩ = some (.int .u8 (x1 : Int))) (g1 : x1 / 64 = 2) (hs : ush ((x0 : Int) % 64 * 64 + (x1 : Int) % 64) ≠ 2) :
    Calls Tryz.prog 56 #[.slice (some ⟨b, off, none⟩) len cap] w (Tells w 0 0) := by
  have hd : ld x0 = 2 := by unfold ld; rw [if_neg (by omega), if_neg (by omega), if_pos (by omega)]
  have HS := hide (sizeByLead_any x0 w (by omega)); rw [hd] at HS; clear hd; have e0 := an192 ⟨x0, by omega⟩; have p1 := an63 ⟨x1, by omega⟩; have q1 := a63 ⟨x1, by omega⟩; simp only at e0 p1 q1; have hcap : ¬ cap = 1 := by omega
  go_enter Tryz.func56, Tryz.ntmps56; go_wp2_with fail
  refine (unhide HS).mono ?_; rintro e w1 ⟨rfl, rfl⟩; clear HS; go_wp2_with fail
  go_quiet ((go_at_call 93; exact Calls.quiet_of_same (lead2 _)))
  go_wp2; refine wp_loop_rounds 2 ?_; rw [rounds_succ]; go_wp2_with fail
  rw [rounds_succ]; go_wp2_with fail
  refine (uisCode_any _ _).mono ?_; rintro e w2 ⟨rfl, rfl⟩; generalize (x0 : Int) % 64 * 64 + (x1 : Int) % 64 = r at *; by_cases hz : ush r = 0
  · have d : decide (ush r ≠ 0) = false := by simp [hz]
    rw [d]; clear d hz hs; go_wp2; go_ret2; exact ⟨rfl, nq, rfl⟩
  · have d : decide (ush r ≠ 0) = true := by simp [hz]
    rw [d]; have s := sz_sh hz; clear d; go_wp2_with fail
    refine (size_any _ _).mono ?_; rintro e w2 ⟨rfl, rfl⟩; have hk : ¬ sz r = 2 := by omega
    clear hz hs s; generalize sz r = k at *; go_wp2; go_ret2; exact ⟨rfl, nq, rfl⟩
set_option maxHeartbeats 800000 in
theorem first2_ok (b off cap len x0 x1 : Nat) (w : World) (hx : 192 ≤ x0 ∧ x0 < 224) (hx1 : x1 < 256) (hl : 2 ≤ len) (hlc : len ≤ cap) (hmx : cap ≤ 9223372036854775807)
    (h0 : w.cell? ⟨b, off, none⟩ = some (.int .u8 (x0 : Int))) (h1 : w.cell? ⟨b, off + 1, none⟩ = some (.int .u8 (x1 : Int))) (g1 : x1 / 64 = 2) (r : Nat) (hr : (r : Int) = (x0 : Int) % 64 * 64 + (x1 : Int) % 64) (hs : ush (r : Int) = 2) :
    Calls Tryz.prog 56 #[.slice (some ⟨b, off, none⟩) len cap] w (Tells w r 2) := by
  have hd : ld x0 = 2 := by unfold ld; rw [if_neg (by omega), if_neg (by omega), if_pos (by omega)]
  have HS := hide (sizeByLead_any x0 w (by omega)); rw [hd] at HS; clear hd; have e0 := an192 ⟨x0, by omega⟩; have p1 := an63 ⟨x1, by omega⟩; have q1 := a63 ⟨x1, by omega⟩; simp only at e0 p1 q1; have hcap : ¬ cap = 1 := by omega
  go_enter Tryz.func56, Tryz.ntmps56; go_wp2_with fail
  refine (unhide HS).mono ?_; rintro e w1 ⟨rfl, rfl⟩; clear HS; go_wp2_with fail
  go_quiet ((go_at_call 93; exact Calls.quiet_of_same (lead2 _)))
  go_wp2; refine wp_loop_rounds 2 ?_; rw [rounds_succ]; go_wp2_with fail
  rw [rounds_succ]; go_wp2_with fail
  refine (uisCode_any _ _).mono ?_; rintro e w2 ⟨rfl, rfl⟩; rw [← hr]; clear hr; have d : decide (ush (r : Int) ≠ 0) = true := by simp [hs]
  rw [d]; have s := sz_sh (r := (r : Int)) (by omega); rw [hs] at s; clear d; go_wp2_with fail
  refine (size_any _ _).mono ?_; rintro e w2 ⟨rfl, rfl⟩; rw [s]; clear s hs; go_wp2; go_ret2; exact ⟨rfl, nq, rfl⟩
set_option maxHeartbeats 800000 in
theorem first3_bad1 (b off cap len x0 x1 x2 : Nat) (w : World) (hx : 224 ≤ x0 ∧ x0 < 240) (hx1 : x1 < 256) (hx2 : x2 < 256) (hl : 3 ≤ len) (hlc : len ≤ cap) (hmx : cap ≤ 9223372036854775807)
    (h0 : w.cell? ⟨b, off, none⟩ = some (.int .u8 (x0 : Int))) (h1 : w.cell? ⟨b, off + 1, none⟩ = some (.int .u8 (x1 : Int))) (h2 : w.cell? ⟨b, off + 2, none⟩ = some (.int .u8 (x2 : Int)))  (g1 : ¬ x1 / 64 = 2) :
    Calls Tryz.prog 56 #[.slice (some ⟨b, off, none⟩) len cap] w (Tells w 0 0) := by
  have hd : ld x0 = 3 := by unfold ld; rw [if_neg (by omega), if_neg (by omega), if_neg (by omega), if_pos (by omega)]
  have HS := hide (sizeByLead_any x0 w (by omega)); rw [hd] at HS; clear hd; have e0 := an224 ⟨x0, by omega⟩; have p1 := an63 ⟨x1, by omega⟩; have q1 := a63 ⟨x1, by omega⟩; simp only at e0 p1 q1; clear h2; have hcap : ¬ cap = 1 := by omega
  go_enter Tryz.func56, Tryz.ntmps56; go_wp2_with fail
  refine (unhide HS).mono ?_; rintro e w1 ⟨rfl, rfl⟩; clear HS; go_wp2_with fail
  go_quiet ((go_at_call 93; exact Calls.quiet_of_same (lead3 _)))
  go_wp2; refine wp_loop_rounds 3 ?_; rw [rounds_succ]; go_wp2_with fail
  go_ret2; exact ⟨rfl, nq, rfl⟩
set_option maxHeartbeats 800000 in
theorem first3_bad2 (b off cap len x0 x1 x2 : Nat) (w : World) (hx : 224 ≤ x0 ∧ x0 < 240) (hx1 : x1 < 256) (hx2 : x2 < 256) (hl : 3 ≤ len) (hlc : len ≤ cap) (hmx : cap ≤ 9223372036854775807)
    (h0 : w.cell? ⟨b, off, none⟩ = some (.int .u8 (x0 : Int))) (h1 : w.cell? ⟨b, off + 1, none⟩ = some (.int .u8 (x1 : Int))) (h2 : w.cell? ⟨b, off + 2, none⟩ = some (.int .u8 (x2 : Int))) (g1 : x1 / 64 = 2) (g2 : ¬ x2 / 64 = 2) :
    Calls Tryz.prog 56 #[.slice (some ⟨b, off, none⟩) len cap] w (Tells w 0 0) := by
  have hd : ld x0 = 3 := by unfold ld; rw [if_neg (by omega), if_neg (by omega), if_neg (by omega), if_pos (by omega)]
  have HS := hide (sizeByLead_any x0 w (by omega)); rw [hd] at HS; clear hd; have e0 := an224 ⟨x0, by omega⟩; have p1 := an63 ⟨x1, by omega⟩; have q1 := a63 ⟨x1, by omega⟩; have p2 := an63 ⟨x2, by omega⟩; have q2 := a63 ⟨x2, by omega⟩; simp only at e0 p1 q1 p2 q2; have hcap : ¬ cap = 1 := by omega
  go_enter Tryz.func56, Tryz.ntmps56; go_wp2_with fail
  refine (unhide HS).mono ?_; rintro e w1 ⟨rfl, rfl⟩; clear HS; go_wp2_with fail
  go_quiet ((go_at_call 93; exact Calls.quiet_of_same (lead3 _)))
  go_wp2; refine wp_loop_rounds 3 ?_; rw [rounds_succ]; go_wp2_with fail
  rw [rounds_succ]; go_wp2_with fail
  go_ret2; exact ⟨rfl, nq, rfl⟩
set_option maxHeartbeats 800000 in
theorem first3_no (b off cap len x0 x1 x2 : Nat) (w : World) (hx : 224 ≤ x0 ∧ x0 < 240) (hx1 : x1 < 256) (hx2 : x2 < 256) (hl : 3 ≤ len) (hlc : len ≤ cap) (hmx : cap ≤ 9223372036854775807)
    (h0 : w.cell? ⟨b, off, none⟩ = some (.int .u8 (x0 : Int))) (h1 : w.cell? ⟨b, off + 1, none⟩ = some (.int .u8 (x1 : Int))) (h2 : w.cell? ⟨b, off + 2, none⟩ = some (.int .u8 (x2 : Int))) (g1 : x1 / 64 = 2) (g2 : x2 / 64 = 2) (hs : ush (((x0 : Int) % 32 * 64 + (x1 : Int) % 64) * 64 + (x2 : Int) % 64) ≠ 3) :
    Calls Tryz.prog 56 #[.slice (some ⟨b, off, none⟩) len cap] w (Tells w 0 0) := by
  have hd : ld x0 = 3 := by unfold ld; rw [if_neg (by omega), if_neg (by omega), if_neg (by omega), if_pos (by omega)]
  have HS := hide (sizeByLead_any x0 w (by omega)); rw [hd] at HS; clear hd; have e0 := an224 ⟨x0, by omega⟩; have p1 := an63 ⟨x1, by omega⟩; have q1 := a63 ⟨x1, by omega⟩; have p2 := an63 ⟨x2, by omega⟩; have q2 := a63 ⟨x2, by omega⟩; simp only at e0 p1 q1 p2 q2; have hcap : ¬ cap = 1 := by omega
  go_enter Tryz.func56, Tryz.ntmps56; go_wp2_with fail
  refine (unhide HS).mono ?_; rintro e w1 ⟨rfl, rfl⟩; clear HS; go_wp2_with fail
  go_quiet ((go_at_call 93; exact Calls.quiet_of_same (lead3 _)))
  go_wp2; refine wp_loop_rounds 3 ?_; rw [rounds_succ]; go_wp2_with fail
  rw [rounds_succ]; go_wp2_with fail
  rw [rounds_succ]; go_wp2_with fail
  refine (uisCode_any _ _).mono ?_; rintro e w2 ⟨rfl, rfl⟩; generalize ((x0 : Int) % 32 * 64 + (x1 : Int) % 64) * 64 + (x2 : Int) % 64 = r at *; by_cases hz : ush r = 0
  · have d : decide (ush r ≠ 0) = false := by simp [hz]
    rw [d]; clear d hz hs; go_wp2; go_ret2; exact ⟨rfl, nq, rfl⟩
  · have d : decide (ush r ≠ 0) = true := by simp [hz]
    rw [d]; have s := sz_sh hz; clear d; go_wp2_with fail
    refine (size_any _ _).mono ?_; rintro e w2 ⟨rfl, rfl⟩; have hk : ¬ sz r = 3 := by omega
    clear hz hs s; generalize sz r = k at *; go_wp2; go_ret2; exact ⟨rfl, nq, rfl⟩
set_option maxHeartbeats 800000 in
theorem first3_ok (b off cap len x0 x1 x2 : Nat) (w : World) (hx : 224 ≤ x0 ∧ x0 < 240) (hx1 : x1 < 256) (hx2 : x2 < 256) (hl : 3 ≤ len) (hlc : len ≤ cap) (hmx : cap ≤ 9223372036854775807)
    (h0 : w.cell? ⟨b, off, none⟩ = some (.int .u8 (x0 : Int))) (h1 : w.cell? ⟨b, off + 1, none⟩ = some (.int .u8 (x1 : Int))) (h2 : w.cell? ⟨b, off + 2, none⟩ = some (.int .u8 (x2 : Int))) (g1 : x1 / 64 = 2) (g2 : x2 / 64 = 2) (r : Nat) (hr : (r : Int) = ((x0 : Int) % 32 * 64 + (x1 : Int) % 64) * 64 + (x2 : Int) % 64) (hs : ush (r : Int) = 3) :
    Calls Tryz.prog 56 #[.slice (some ⟨b, off, none⟩) len cap] w (Tells w r 3) := by
  have hd : ld x0 = 3 := by unfold ld; rw [if_neg (by omega), if_neg (by omega), if_neg (by omega), if_pos (by omega)]
  have HS := hide (sizeByLead_any x0 w (by omega)); rw [hd] at HS; clear hd; have e0 := an224 ⟨x0, by omega⟩; have p1 := an63 ⟨x1, by omega⟩; have q1 := a63 ⟨x1, by omega⟩; have p2 := an63 ⟨x2, by omega⟩; have q2 := a63 ⟨x2, by omega⟩; simp only at e0 p1 q1 p2 q2; have hcap : ¬ cap = 1 := by omega
  go_enter Tryz.func56, Tryz.ntmps56; go_wp2_with fail
  refine (unhide HS).mono ?_; rintro e w1 ⟨rfl, rfl⟩; clear HS; go_wp2_with fail
  go_quiet ((go_at_call 93; exact Calls.quiet_of_same (lead3 _)))
  go_wp2; refine wp_loop_rounds 3 ?_; rw [rounds_succ]; go_wp2_with fail
  rw [rounds_succ]; go_wp2_with fail
  rw [rounds_succ]; go_wp2_with fail
  refine (uisCode_any _ _).mono ?_; rintro e w2 ⟨rfl, rfl⟩; rw [← hr]; clear hr; have d : decide (ush (r : Int) ≠ 0) = true := by simp [hs]
  rw [d]; have s := sz_sh (r := (r : Int)) (by omega); rw [hs] at s; clear d; go_wp2_with fail
  refine (size_any _ _).mono ?_; rintro e w2 ⟨rfl, rfl⟩; rw [s]; clear s hs; go_wp2; go_ret2; exact ⟨rfl, nq, rfl⟩
set_option maxHeartbeats 800000 in
theorem first4_bad1 (b off cap len x0 x1 x2 x3 : Nat) (w : World) (hx : 240 ≤ x0 ∧ x0 < 248) (hx1 : x1 < 256) (hx2 : x2 < 256) (hx3 : x3 < 256) (hl : 4 ≤ len) (hlc : len ≤ cap) (hmx : cap ≤ 9223372036854775807)
    (h0 : w.cell? ⟨b, off, none⟩ = some (.int .u8 (x0 : Int))) (h1 : w.cell? ⟨b, off + 1, none⟩ = some (.int .u8 (x1 : Int))) (h2 : w.cell? ⟨b, off + 2, none⟩ = some (.int .u8 (x2 : Int))) (h3 : w.cell? ⟨b, off + 3, none⟩ = some (.int .u8 (x3 : Int)))  (g1 : ¬ x1 / 64 = 2) :
    Calls Tryz.prog 56 #[.slice (some ⟨b, off, none⟩) len cap] w (Tells w 0 0) := by
  have hd : ld x0 = 4 := by unfold ld; rw [if_neg (by omega), if_neg (by omega), if_neg (by omega), if_neg (by omega), if_pos (by omega)]
  have HS := hide (sizeByLead_any x0 w (by omega)); rw [hd] at HS; clear hd; have e0 := an240 ⟨x0, by omega⟩; have p1 := an63 ⟨x1, by omega⟩; have q1 := a63 ⟨x1, by omega⟩; simp only at e0 p1 q1; clear h2; clear h3; have hcap : ¬ cap = 1 := by omega
  go_enter Tryz.func56, Tryz.ntmps56; go_wp2_with fail
  refine (unhide HS).mono ?_; rintro e w1 ⟨rfl, rfl⟩; clear HS; go_wp2_with fail
  go_quiet ((go_at_call 93; exact Calls.quiet_of_same (lead4 _)))
  go_wp2; refine wp_loop_rounds 4 ?_; rw [rounds_succ]; go_wp2_with fail
  go_ret2; exact ⟨rfl, nq, rfl⟩
set_option maxHeartbeats 800000 in
theorem first4_bad2 (b off cap len x0 x1 x2 x3 : Nat) (w : World) (hx : 240 ≤ x0 ∧ x0 < 248) (hx1 : x1 < 256) (hx2 : x2 < 256) (hx3 : x3 < 256) (hl : 4 ≤ len) (hlc : len ≤ cap) (hmx : cap ≤ 9223372036854775807)
    (h0 : w.cell? ⟨b, off, none⟩ = some (.int .u8 (x0 : Int))) (h1 : w.cell? ⟨b, off + 1, none⟩ = some (.int .u8 (x1 : Int))) (h2 : w.cell? ⟨b, off + 2, none⟩ = some (.int .u8 (x2 : Int))) (h3 : w.cell? ⟨b, off + 3, none⟩ = some (.int .u8 (x3 : Int))) (g1 : x1 / 64 = 2) (g2 : ¬ x2 / 64 = 2) :
    Calls Tryz.prog 56 #[.slice (some ⟨b, off, none⟩) len cap] w (Tells w 0 0) := by
  have hd : ld x0 = 4 := by unfold ld; rw [if_neg (by omega), if_neg (by omega), if_neg (by omega), if_neg (by omega), if_pos (by omega)]
  have HS := hide (sizeByLead_any x0 w (by omega)); rw [hd] at HS; clear hd; have e0 := an240 ⟨x0, by omega⟩; have p1 := an63 ⟨x1, by omega⟩; have q1 := a63 ⟨x1, by omega⟩; have p2 := an63 ⟨x2, by omega⟩; have q2 := a63 ⟨x2, by omega⟩; simp only at e0 p1 q1 p2 q2; clear h3; have hcap : ¬ cap = 1 := by omega
  go_enter Tryz.func56, Tryz.ntmps56; go_wp2_with fail
  refine (unhide HS).mono ?_; rintro e w1 ⟨rfl, rfl⟩; clear HS; go_wp2_with fail
  go_quiet ((go_at_call 93; exact Calls.quiet_of_same (lead4 _)))
  go_wp2; refine wp_loop_rounds 4 ?_; rw [rounds_succ]; go_wp2_with fail
  rw [rounds_succ]; go_wp2_with fail
  go_ret2; exact ⟨rfl, nq, rfl⟩
set_option maxHeartbeats 800000 in
theorem first4_bad3 (b off cap len x0 x1 x2 x3 : Nat) (w : World) (hx : 240 ≤ x0 ∧ x0 < 248) (hx1 : x1 < 256) (hx2 : x2 < 256) (hx3 : x3 < 256) (hl : 4 ≤ len) (hlc : len ≤ cap) (hmx : cap ≤ 9223372036854775807)
    (h0 : w.cell? ⟨b, off, none⟩ = some (.int .u8 (x0 : Int))) (h1 : w.cell? ⟨b, off + 1, none⟩ = some (.int .u8 (x1 : Int))) (h2 : w.cell? ⟨b, off + 2, none⟩ = some (.int .u8 (x2 : Int))) (h3 : w.cell? ⟨b, off + 3, none⟩ = some (.int .u8 (x3 : Int))) (g1 : x1 / 64 = 2) (g2 : x2 / 64 = 2) (g3 : ¬ x3 / 64 = 2) :
    Calls Tryz.prog 56 #[.slice (some ⟨b, off, none⟩) len cap] w (Tells w 0 0) := by
  have hd : ld x0 = 4 := by unfold ld; rw [if_neg (by omega), if_neg (by omega), if_neg (by omega), if_neg (by omega), if_pos (by omega)]
  have HS := hide (sizeByLead_any x0 w (by omega)); rw [hd] at HS; clear hd; have e0 := an240 ⟨x0, by omega⟩; have p1 := an63 ⟨x1, by omega⟩; have q1 := a63 ⟨x1, by omega⟩; have p2 := an63 ⟨x2, by omega⟩; have q2 := a63 ⟨x2, by omega⟩; have p3 := an63 ⟨x3, by omega⟩; have q3 := a63 ⟨x3, by omega⟩; simp only at e0 p1 q1 p2 q2 p3 q3; have hcap : ¬ cap = 1 := by omega
  go_enter Tryz.func56, Tryz.ntmps56; go_wp2_with fail
  refine (unhide HS).mono ?_; rintro e w1 ⟨rfl, rfl⟩; clear HS; go_wp2_with fail
  go_quiet ((go_at_call 93; exact Calls.quiet_of_same (lead4 _)))
  go_wp2; refine wp_loop_rounds 4 ?_; rw [rounds_succ]; go_wp2_with fail
  rw [rounds_succ]; go_wp2_with fail
  rw [rounds_succ]; go_wp2_with fail
  go_ret2; exact ⟨rfl, nq, rfl⟩
set_option maxHeartbeats 800000 in
theorem first4_no (b off cap len x0 x1 x2 x3 : Nat) (w : World) (hx : 240 ≤ x0 ∧ x0 < 248) (hx1 : x1 < 256) (hx2 : x2 < 256) (hx3 : x3 < 256) (hl : 4 ≤ len) (hlc : len ≤ cap) (hmx : cap ≤ 9223372036854775807)
    (h0 : w.cell? ⟨b, off, none⟩ = some (.int .u8 (x0 : Int))) (h1 : w.cell? ⟨b, off + 1, none⟩ = some (.int .u8 (x1 : Int))) (h2 : w.cell? ⟨b, off + 2, none⟩ = some (.int .u8 (x2 : Int))) (h3 : w.cell? ⟨b, off + 3, none⟩ = some (.int .u8 (x3 : Int))) (g1 : x1 / 64 = 2) (g2 : x2 / 64 = 2) (g3 : x3 / 64 = 2) (hs : ush ((((x0 : Int) % 16 * 64 + (x1 : Int) % 64) * 64 + (x2 : Int) % 64) * 64 + (x3 : Int) % 64) ≠ 4) :
    Calls Tryz.prog 56 #[.slice (some ⟨b, off, none⟩) len cap] w (Tells w 0 0) := by
  have hd : ld x0 = 4 := by unfold ld; rw [if_neg (by omega), if_neg (by omega), if_neg (by omega), if_neg (by omega), if_pos (by omega)]
  have HS := hide (sizeByLead_any x0 w (by omega)); rw [hd] at HS; clear hd; have e0 := an240 ⟨x0, by omega⟩; have p1 := an63 ⟨x1, by omega⟩; have q1 := a63 ⟨x1, by omega⟩; have p2 := an63 ⟨x2, by omega⟩; have q2 := a63 ⟨x2, by omega⟩; have p3 := an63 ⟨x3, by omega⟩; have q3 := a63 ⟨x3, by omega⟩; simp only at e0 p1 q1 p2 q2 p3 q3; have hcap : ¬ cap = 1 := by omega
  go_enter Tryz.func56, Tryz.ntmps56; go_wp2_with fail
  refine (unhide HS).mono ?_; rintro e w1 ⟨rfl, rfl⟩; clear HS; go_wp2_with fail
  go_quiet ((go_at_call 93; exact Calls.quiet_of_same (lead4 _)))
  go_wp2; refine wp_loop_rounds 4 ?_; rw [rounds_succ]; go_wp2_with fail
  rw [rounds_succ]; go_wp2_with fail
  rw [rounds_succ]; go_wp2_with fail
  rw [rounds_succ]; go_wp2_with fail
  refine (uisCode_any _ _).mono ?_; rintro e w2 ⟨rfl, rfl⟩; generalize (((x0 : Int) % 16 * 64 + (x1 : Int) % 64) * 64 + (x2 : Int) % 64) * 64 + (x3 : Int) % 64 = r at *; by_cases hz : ush r = 0
  · have d : decide (ush r ≠ 0) = false := by simp [hz]
    rw [d]; clear d hz hs; go_wp2; go_ret2; exact ⟨rfl, nq, rfl⟩
  · have d : decide (ush r ≠ 0) = true := by simp [hz]
    rw [d]; have s := sz_sh hz; clear d; go_wp2_with fail
    refine (size_any _ _).mono ?_; rintro e w2 ⟨rfl, rfl⟩; have hk : ¬ sz r = 4 := by omega
    clear hz hs s; generalize sz r = k at *; go_wp2; go_ret2; exact ⟨rfl, nq, rfl⟩
set_option maxHeartbeats 800000 in
theorem first4_ok (b off cap len x0 x1 x2 x3 : Nat) (w : World) (hx : 240 ≤ x0 ∧ x0 < 248) (hx1 : x1 < 256) (hx2 : x2 < 256) (hx3 : x3 < 256) (hl : 4 ≤ len) (hlc : len ≤ cap) (hmx : cap ≤ 9223372036854775807)
    (h0 : w.cell? ⟨b, off, none⟩ = some (.int .u8 (x0 : Int))) (h1 : w.cell? ⟨b, off + 1, none⟩ = some (.int .u8 (x1 : Int))) (h2 : w.cell? ⟨b, off + 2, none⟩ = some (.int .u8 (x2 : Int))) (h3 : w.cell? ⟨b, off + 3, none⟩ = some (.int .u8 (x3 : Int))) (g1 : x1 / 64 = 2) (g2 : x2 / 64 = 2) (g3 : x3 / 64 = 2) (r : Nat) (hr : (r : Int) = (((x0 : Int) % 16 * 64 + (x1 : Int) % 64) * 64 + (x2 : Int) % 64) * 64 + (x3 : Int) % 64) (hs : ush (r : Int) = 4) :
    Calls Tryz.prog 56 #[.slice (some ⟨b, off, none⟩) len cap] w (Tells w r 4) := by
  have hd : ld x0 = 4 := by unfold ld; rw [if_neg (by omega), if_neg (by omega), if_neg (by omega), if_neg (by omega), if_pos (by omega)]
  have HS := hide (sizeByLead_any x0 w (by omega)); rw [hd] at HS; clear hd; have e0 := an240 ⟨x0, by omega⟩; have p1 := an63 ⟨x1, by omega⟩; have q1 := a63 ⟨x1, by omega⟩; have p2 := an63 ⟨x2, by omega⟩; have q2 := a63 ⟨x2, by omega⟩; have p3 := an63 ⟨x3, by omega⟩; have q3 := a63 ⟨x3, by omega⟩; simp only at e0 p1 q1 p2 q2 p3 q3; have hcap : ¬ cap = 1 := by omega
  go_enter Tryz.func56, Tryz.ntmps56; go_wp2_with fail
  refine (unhide HS).mono ?_; rintro e w1 ⟨rfl, rfl⟩; clear HS; go_wp2_with fail
  go_quiet ((go_at_call 93; exact Calls.quiet_of_same (lead4 _)))
  go_wp2; refine wp_loop_rounds 4 ?_; rw [rounds_succ]; go_wp2_with fail
  rw [rounds_succ]; go_wp2_with fail
  rw [rounds_succ]; go_wp2_with fail
  rw [rounds_succ]; go_wp2_with fail
  refine (uisCode_any _ _).mono ?_; rintro e w2 ⟨rfl, rfl⟩; rw [← hr]; clear hr; have d : decide (ush (r : Int) ≠ 0) = true := by simp [hs]
  rw [d]; have s := sz_sh (r := (r : Int)) (by omega); rw [hs] at s; clear d; go_wp2_with fail
  refine (size_any _ _).mono ?_; rintro e w2 ⟨rfl, rfl⟩; rw [s]; clear s hs; go_wp2; go_ret2; exact ⟨rfl, nq, rfl⟩
end Go.Proofs.YtenlampiiodkhaaGreatDoor
namespace Go.Proofs.YtenlampiiodkhaaGreatDoor
set_option linter.unusedVariables false
open Go.RowKit
theorem Tells.none {w : World} {bs : List UInt8} {f : FuncId} {args : Array Value} (h : at1 bs = none) (c : Calls Tryz.prog f args w (Tells w 0 0)) : Calls Tryz.prog f args w (Tells w (fst bs) (snd bs)) := by
  rw [(fst_none h).1, (fst_none h).2]; exact c
theorem Tells.some {w : World} {bs : List UInt8} {f : FuncId} {args : Array Value} {r n : Nat} (h : at1 bs = some (r, n)) (c : Calls Tryz.prog f args w (Tells w r n)) : Calls Tryz.prog f args w (Tells w (fst bs) (snd bs)) := by
  rw [(fst_some h).1, (fst_some h).2]; exact c
theorem ld_cases (x : Nat) (h : x < 256) : (ld x = 0) ∨ (ld x = 1 ∧ x < 128) ∨ (ld x = 2 ∧ 192 ≤ x ∧ x < 224) ∨ (ld x = 3 ∧ 224 ≤ x ∧ x < 240) ∨ (ld x = 4 ∧ 240 ≤ x ∧ x < 248) := by
  unfold ld
  repeat' split
  all_goals omega
theorem first_any (b off cap : Nat) (bs : List UInt8) (w : World) (hne : 0 < bs.length) (hlc : bs.length ≤ cap) (hmx : cap ≤ 9223372036854775807) (hc : ∀ i, i < bs.length → w.cell? ⟨b, off + i, none⟩ = some (B (bs.getD i 0))) :
    Calls Tryz.prog 56 #[.slice (some ⟨b, off, none⟩) bs.length cap] w (Tells w (fst bs) (snd bs)) := by
  match bs, hne with
  | x0 :: t, _ =>
    have c0 : w.cell? ⟨b, off, none⟩ = some (.int .u8 (x0.toNat : Int)) := by simpa using hc 0 (by simp)
    have l0 := x0.toNat_lt; rcases ld_cases x0.toNat x0.toNat_lt with d | ⟨d, r⟩ | ⟨d, r⟩ | ⟨d, r⟩ | ⟨d, r⟩
    · refine Tells.none (at1_no fun r n e => ?_) (first_zero b off cap _ _ w l0 (by simp) hlc hmx c0 (.inl d)); have := at1_form e; have := (at1_len e).2.2.1; simp only [List.getD_cons_zero] at *; omega
    · exact Tells.some (at1_ok1 x0 t r) (first_one b off cap _ _ w r (by simp) hlc hmx c0)
    · by_cases hl : (x0 :: t).length < 2
      · refine Tells.none (at1_no fun r n e => ?_) (first_zero b off cap _ _ w l0 (by simp) hlc hmx c0 (.inr (by omega))); have := at1_form e; simp only [List.getD_cons_zero] at *; omega
      · match t, hl with
        | [], hl => simp at hl
        | x1 :: t, hl =>
          have c1 : w.cell? ⟨b, off + 1, none⟩ = some (.int .u8 (x1.toNat : Int)) := by simpa using hc 1 (by simp)
          have l1 := x1.toNat_lt; by_cases g1 : x1.toNat / 64 = 2
          · obtain ⟨q, hq⟩ : ∃ q, q = x0.toNat % 32 * 64 + x1.toNat % 64 := ⟨_, rfl⟩; have hq' : (q : Int) = (x0.toNat : Int) % 64 * 64 + (x1.toNat : Int) % 64 := by omega
            by_cases hs : ush (q : Int) = 2
            · exact Tells.some (at1_ok2 x0 x1 t r g1 q hq hs) (first2_ok b off cap _ _ _ w r l1 (by simp) hlc hmx c0 c1 g1 q hq' hs)
            · refine Tells.none (at1_no fun r n e => ?_) (first2_no b off cap _ _ _ w r l1 (by simp) hlc hmx c0 c1 g1 (by rw [← hq']; exact hs)); obtain ⟨f1, f2, f3, f4, _⟩ := at1_form e; simp only [List.getD_cons_zero] at f1; have en : n = 2 := by omega
              subst en; simp only [cand, List.getD_cons_zero, List.getD_cons_succ] at f4; rw [f4, ← hq] at f3; exact hs f3
          · refine Tells.none (at1_no fun r n e => ?_) (first2_bad1 b off cap _ _ _ w r l1 (by simp) hlc hmx c0 c1 g1); obtain ⟨f1, f2, f3, f4, f5, _⟩ := at1_form e; simp only [List.getD_cons_zero, List.getD_cons_succ] at f1 f5; exact g1 (f5 (by omega))
    · by_cases hl : (x0 :: t).length < 3
      · refine Tells.none (at1_no fun r n e => ?_) (first_zero b off cap _ _ w l0 (by simp) hlc hmx c0 (.inr (by omega))); have := at1_form e; simp only [List.getD_cons_zero] at *; omega
      · match t, hl with
        | [], hl => simp at hl
        | [x1], hl => simp at hl
        | x1 :: x2 :: t, hl =>
          have c1 : w.cell? ⟨b, off + 1, none⟩ = some (.int .u8 (x1.toNat : Int)) := by simpa using hc 1 (by simp)
          have c2 : w.cell? ⟨b, off + 2, none⟩ = some (.int .u8 (x2.toNat : Int)) := by simpa using hc 2 (by simp)
          have l1 := x1.toNat_lt; have l2 := x2.toNat_lt; by_cases g1 : x1.toNat / 64 = 2
          · by_cases g2 : x2.toNat / 64 = 2
            · obtain ⟨q, hq⟩ : ∃ q, q = (x0.toNat % 16 * 64 + x1.toNat % 64) * 64 + x2.toNat % 64 := ⟨_, rfl⟩; have hq' : (q : Int) = ((x0.toNat : Int) % 32 * 64 + (x1.toNat : Int) % 64) * 64 + (x2.toNat : Int) % 64 := by omega
              by_cases hs : ush (q : Int) = 3
              · exact Tells.some (at1_ok3 x0 x1 x2 t r g1 g2 q hq hs) (first3_ok b off cap _ _ _ _ w r l1 l2 (by simp) hlc hmx c0 c1 c2 g1 g2 q hq' hs)
              · refine Tells.none (at1_no fun r n e => ?_) (first3_no b off cap _ _ _ _ w r l1 l2 (by simp) hlc hmx c0 c1 c2 g1 g2 (by rw [← hq']; exact hs)); obtain ⟨f1, f2, f3, f4, _⟩ := at1_form e; simp only [List.getD_cons_zero] at f1; have en : n = 3 := by omega
                subst en; simp only [cand, List.getD_cons_zero, List.getD_cons_succ] at f4; rw [f4, ← hq] at f3; exact hs f3
            · refine Tells.none (at1_no fun r n e => ?_) (first3_bad2 b off cap _ _ _ _ w r l1 l2 (by simp) hlc hmx c0 c1 c2 g1 g2); obtain ⟨f1, f2, f3, f4, f5, f6, _⟩ := at1_form e; simp only [List.getD_cons_zero, List.getD_cons_succ] at f1 f6; exact g2 (f6 (by omega))
          · refine Tells.none (at1_no fun r n e => ?_) (first3_bad1 b off cap _ _ _ _ w r l1 l2 (by simp) hlc hmx c0 c1 c2 g1); obtain ⟨f1, f2, f3, f4, f5, _⟩ := at1_form e; simp only [List.getD_cons_zero, List.getD_cons_succ] at f1 f5; exact g1 (f5 (by omega))
    · by_cases hl : (x0 :: t).length < 4
      · refine Tells.none (at1_no fun r n e => ?_) (first_zero b off cap _ _ w l0 (by simp) hlc hmx c0 (.inr (by omega))); have := at1_form e; simp only [List.getD_cons_zero] at *; omega
      · match t, hl with
        | [], hl => simp at hl
        | [x1], hl => simp at hl
        | [x1, x2], hl => simp at hl
        | x1 :: x2 :: x3 :: t, hl =>
          have c1 : w.cell? ⟨b, off + 1, none⟩ = some (.int .u8 (x1.toNat : Int)) := by simpa using hc 1 (by simp)
          have c2 : w.cell? ⟨b, off + 2, none⟩ = some (.int .u8 (x2.toNat : Int)) := by simpa using hc 2 (by simp)
          have c3 : w.cell? ⟨b, off + 3, none⟩ = some (.int .u8 (x3.toNat : Int)) := by simpa using hc 3 (by simp)
          have l1 := x1.toNat_lt; have l2 := x2.toNat_lt; have l3 := x3.toNat_lt; by_cases g1 : x1.toNat / 64 = 2
          · by_cases g2 : x2.toNat / 64 = 2
            · by_cases g3 : x3.toNat / 64 = 2
              · obtain ⟨q, hq⟩ : ∃ q, q = ((x0.toNat % 8 * 64 + x1.toNat % 64) * 64 + x2.toNat % 64) * 64 + x3.toNat % 64 := ⟨_, rfl⟩; have hq' : (q : Int) = (((x0.toNat : Int) % 16 * 64 + (x1.toNat : Int) % 64) * 64 + (x2.toNat : Int) % 64) * 64 + (x3.toNat : Int) % 64 := by omega
                by_cases hs : ush (q : Int) = 4
                · exact Tells.some (at1_ok4 x0 x1 x2 x3 t r g1 g2 g3 q hq hs) (first4_ok b off cap _ _ _ _ _ w r l1 l2 l3 (by simp) hlc hmx c0 c1 c2 c3 g1 g2 g3 q hq' hs)
                · refine Tells.none (at1_no fun r n e => ?_) (first4_no b off cap _ _ _ _ _ w r l1 l2 l3 (by simp) hlc hmx c0 c1 c2 c3 g1 g2 g3 (by rw [← hq']; exact hs)); obtain ⟨f1, f2, f3, f4, _⟩ := at1_form e; simp only [List.getD_cons_zero] at f1; have en : n = 4 := by omega
                  subst en; simp only [cand, List.getD_cons_zero, List.getD_cons_succ] at f4; rw [f4, ← hq] at f3; exact hs f3
              · refine Tells.none (at1_no fun r n e => ?_) (first4_bad3 b off cap _ _ _ _ _ w r l1 l2 l3 (by simp) hlc hmx c0 c1 c2 c3 g1 g2 g3); obtain ⟨f1, f2, f3, f4, f5, f6, f7⟩ := at1_form e; simp only [List.getD_cons_zero, List.getD_cons_succ] at f1 f7; exact g3 (f7 (by omega))
            · refine Tells.none (at1_no fun r n e => ?_) (first4_bad2 b off cap _ _ _ _ _ w r l1 l2 l3 (by simp) hlc hmx c0 c1 c2 c3 g1 g2); obtain ⟨f1, f2, f3, f4, f5, f6, _⟩ := at1_form e; simp only [List.getD_cons_zero, List.getD_cons_succ] at f1 f6; exact g2 (f6 (by omega))
          · refine Tells.none (at1_no fun r n e => ?_) (first4_bad1 b off cap _ _ _ _ _ w r l1 l2 l3 (by simp) hlc hmx c0 c1 c2 c3 g1); obtain ⟨f1, f2, f3, f4, f5, _⟩ := at1_form e; simp only [List.getD_cons_zero, List.getD_cons_succ] at f1 f5; exact g1 (f5 (by omega))
end Go.Proofs.YtenlampiiodkhaaGreatDoor
namespace Go.Proofs.YtenlampiiodkhaaGreatDoor
set_option linter.unusedVariables false
open Go.RowKit
def sliceLen : Value → Nat
  | .slice _ n _ => n
  | _ => 0
theorem first_rd (ao : Option Addr) (l cap : Nat) (bs : List UInt8) (w : World) (hl : bs.length = l) (h0 : 0 < l) (h : RdV w ao cap (bs.map B)) :
    Calls Tryz.prog 56 #[.slice ao l cap] w (Tells w (fst bs) (snd bs)) := by
  subst hl; obtain ⟨b, off, rfl, hc⟩ := h.cells (by simpa using h0); have := h.le; exact first_any b off cap bs w h0 (by simpa using this) h.max fun i hi => by rw [hc i (by simpa using hi), getB bs i hi]
theorem RdV.drewN {w : World} {ao : Option Addr} {cap : Nat} {vs : List Value} (h : RdV w ao cap vs) (n : Nat) : RdV (w.drewN n) ao cap vs := h.below (Ext.drewN w n)
theorem dec_step (rest : List UInt8) (h0 : 0 < rest.length) : ∃ (x : Int) (m : Nat), 1 ≤ m ∧ m ≤ rest.length ∧ x :: dec (rest.drop m) = dec rest ∧ ((snd rest = 0 ∧ x = 65533 ∧ m = 1) ∨ (snd rest = m ∧ (fst rest : Int) = x)) := by
  cases ha : at1 rest with
  | none => exact ⟨65533, 1, by omega, by omega, (dec_none ha (by intro e; rw [e] at h0; simp at h0)).symm, .inl ⟨(fst_none ha).2, rfl, rfl⟩⟩
  | some p =>
    obtain ⟨r, m⟩ := p; obtain ⟨_, _, m1, _, m2, _⟩ := at1_len ha; exact ⟨(r : Int), m, m1, m2, (dec_some ha).symm, .inr ⟨(fst_some ha).2, by rw [(fst_some ha).1]⟩⟩
set_option maxHeartbeats 400000 in
theorem decode_own (ao : Option Addr) (l cap : Nat) (bs : List UInt8) (w : World) (hl : bs.length = l) (hm : l ≤ 1000000) (h : RdV w ao cap (bs.map B)) :
    Calls Tryz.prog 25 #[.slice ao l cap] w fun e w' => ∃ v, e = .returned v ∧ w'.ownsRow w.heap.size 21 1 v (dec bs).length ((dec bs).map R) ∧ Below w.heap.size w w' := by
  subst hl; go_enter Tryz.func25, Tryz.ntmps25; go_wp2
  go_loopw [0, 3] (fun v o wr => ∃ (a : Option Addr) (c : Nat) (rest : List UInt8) (out : List Int), v = .slice a rest.length c ∧ RdV w a c (rest.map B) ∧ out ++ dec rest = dec bs ∧ out.length + rest.length ≤ bs.length ∧ wr.ownsRow w.heap.size 21 1 o out.length (out.map R) ∧ Below w.heap.size w wr) (fun v _ _ => sliceLen v)
  case atStart => exact ⟨ao, cap, bs, [], rfl, h, rfl, by simp, World.ownsRow_nil _ _ _ _, Below.refl _ _⟩
  case round =>
    obtain ⟨a, c, rest, out, rfl, hr, hv, hlen, own, hbr⟩ := hrel; have HV := hide hv; clear hv h; by_cases h0 : 0 < rest.length
    · have HF := hide (first_rd a _ c rest _ rfl h0 (hr.below hbr)); have hle := hr.le; have hmx := hr.max; simp only [List.length_map] at hle; go_wp2_with fail
      refine (unhide HF).mono ?_; rintro e w2 ⟨rfl, k, rfl⟩; clear HF; have own1 := owns_below own (Ext.drewN wr k); have hb1 : Below w.heap.size w (wr.drewN k) := hbr.trans (Below.mono (Ext.drewN wr k) hbr.size); clear own hbr; generalize wr.drewN k = wz at *; obtain ⟨x, m, m1, m2, hdec, hcase⟩ := dec_step rest h0; have HD := hide hdec; clear hdec; have RL := RdV.lit wz [R x] 21 (0, 0) (by simp); have own2 := owns_below own1 (Ext.alloc wz (.cells #[R x] 21 (0, 0))); have hb2 : Below w.heap.size w (wz.alloc (.cells #[R x] 21 (0, 0))) := hb1.trans (Below.mono (Ext.alloc wz (.cells #[R x] 21 (0, 0))) hb1.size); have hbase := hb2.size; have hone : ∀ u ∈ [R x], u.oneCell' = true := by simp [R, Value.oneCell']
      have key : ∀ v' w', w'.ownsRow w.heap.size 21 1 v' (out.length + 1) (out.map R ++ [R x]) → Below w.heap.size (wz.alloc (.cells #[R x] 21 (0, 0))) w' →
          (∃ (a' : Option Addr) (c' : Nat) (rest' : List UInt8) (out' : List Int), Value.slice (if c = m then a else a.map (·.add m)) (rest.length - m) (c - m) = .slice a' rest'.length c' ∧ RdV w a' c' (rest'.map B) ∧ out' ++ dec rest' = dec bs ∧ out'.length + rest'.length ≤ bs.length ∧ w'.ownsRow w.heap.size 21 1 v' out'.length (out'.map R) ∧ Below w.heap.size w w') ∧ rest.length - m < rest.length := by
        intro v' w' o' b'; refine ⟨⟨(if c = m then a else a.map (·.add m)), c - m, rest.drop m, out ++ [x], by simp, ?_, ?_, by simp; omega, by simpa using o', hb2.trans b'⟩, by omega⟩
        · have := hr.drop m (by omega)
          rwa [← List.map_drop] at this
        · rw [List.append_assoc, ← unhide HV, ← unhide HD]; rfl
      have KEY := hide key; clear key hb2 own1 hb1 hr HV HD; rcases hcase with ⟨e2, rfl, rfl⟩ | ⟨e2, e1⟩
      · rw [e2]; generalize fst rest = y; go_wp2_with (at_builtin; refine wpList_app rfl (.tmp 16) (.tmp 18) 45 21 (.int .i32 0) 4 Tryz.underlying45 uinfoR rfl rfl w.heap.size _ _ _ rfl own2 _ _ _ [R 65533] rfl rfl RL hone ?c2 hbase ?_)
        case c2 => omega
        intro v2 w2 o2 b2; clear own2 RL hone; have kk := unhide KEY v2 w2 o2 b2; go_wp2; exact kk
      · rw [e2, e1]; go_wp2_with (at_builtin; refine wpList_app rfl (.tmp 16) (.tmp 18) 45 21 (.int .i32 0) 4 Tryz.underlying45 uinfoR rfl rfl w.heap.size _ _ _ rfl own2 _ _ _ [R x] rfl rfl RL hone ?c2 hbase ?_)
        case c2 => omega
        intro v2 w2 o2 b2; clear own2 RL hone; have kk := unhide KEY v2 w2 o2 b2; go_wp2; exact kk
    · have e : rest = [] := List.eq_nil_of_length_eq_zero (by omega); subst e; have hb := unhide HV; go_wp2; go_ret; rw [← hb]; exact ⟨_, rfl, by simpa [dec_nil] using own, hbr⟩
theorem utf_decode_any (ao : Option Addr) (l cap : Nat) (bs : List UInt8) (w : World) (hl : bs.length = l) (hm : l ≤ 1000000) (h : RdV w ao cap (bs.map B)) :
    Calls Tryz.prog 25 #[.slice ao l cap] w (Gives w ((dec bs).map R)) :=
  (decode_own ao l cap bs w hl hm h).mono fun e w' ⟨v, he, h1, h2⟩ => by subst he; exact gives_of_owned h1 h2
end Go.Proofs.YtenlampiiodkhaaGreatDoor
