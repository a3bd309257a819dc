/-
  The walk of OctetParts: the sum of parts is that of all together, however it is cut.
-/
import Derived.Test.YtjkbapjdojhdeaaOp2
namespace Go.Proofs.Ytjkbapjdojhdeaa
set_option linter.unusedVariables false
open Go.RowKit

theorem cut3 (bs : List UInt8) (X Y : Nat) (h : X ≤ Y) : bs.take X ++ (bs.take Y).drop X ++ bs.drop Y = bs := by
  have e : bs.take X = (bs.take Y).take X := by rw [List.take_take, Nat.min_eq_left h]
  rw [e, List.take_append_drop, List.take_append_drop]

set_option maxHeartbeats 1000000 in
theorem parts_walk (a0 : Option Addr) (l0 cap0 : Nat) (bs : List UInt8) (i k : Int) (w : World) (h0 : bs.length = l0) (R0 : Rd w a0 cap0 bs)
    (hi : 0 ≤ i ∧ i ≤ 255) (hk : 0 ≤ k ∧ k ≤ 255) (hl0 : l0 ≤ 100) :
    Calls Try.prog 6 #[.slice a0 l0 cap0, .int .u8 i, .int .u8 k] w fun e w' => e = .returned (.bool true) ∧ Below w.heap.size w w' := by
  subst h0
  obtain ⟨hi1, hi2⟩ := hi
  obtain ⟨hk1, hk2⟩ := hk
  have q1 : i % ((bs.length : Int) + 1) < (bs.length : Int) + 1 := Int.emod_lt_of_pos _ (by omega)
  have q2 : 0 ≤ i % ((bs.length : Int) + 1) := Int.emod_nonneg _ (by omega)
  have q3 : k % ((bs.length : Int) - i % ((bs.length : Int) + 1) + 1) < (bs.length : Int) - i % ((bs.length : Int) + 1) + 1 := Int.emod_lt_of_pos _ (by omega)
  have q4 : 0 ≤ k % ((bs.length : Int) - i % ((bs.length : Int) + 1) + 1) := Int.emod_nonneg _ (by omega)
  go_enter Try.func6, Try.ntmps6
  go_wp2_with fail
  refine (begun_any w).mono ?_
  rintro e w1 ⟨rfl, hb1⟩
  have R1 := R0.below hb1
  go_wp2_with fail
  obtain ⟨X, hX⟩ : ∃ X : Nat, i % ((bs.length : Int) + 1) = (X : Int) := ⟨(i % ((bs.length : Int) + 1)).toNat, by omega⟩
  obtain ⟨Y, hY⟩ : ∃ Y : Nat, i % ((bs.length : Int) + 1) + k % ((bs.length : Int) - i % ((bs.length : Int) + 1) + 1) = (Y : Int) := ⟨(i % ((bs.length : Int) + 1) + k % ((bs.length : Int) - i % ((bs.length : Int) + 1) + 1)).toNat, by omega⟩
  have x1 : X ≤ Y := by omega
  have y1 : Y ≤ bs.length := by omega
  have l1 := R1.le
  have R32 := R1.take X
  have R36 := (R1.take Y).drop X (by omega)
  have R39 := R1.drop Y (by omega)
  have R61 := R1.drop X (by omega)
  have S0 : ∀ v wx, v = Value.slice a0 bs.length cap0 → Ext w1 wx → ∃ ao cap, v = .slice ao bs.length cap ∧ Rd wx ao cap bs ∧ bs.length = bs.length := fun v wx e hx => ⟨_, _, e, R1.below hx, rfl⟩
  have S32 : ∀ v wx, v = Value.slice a0 X cap0 → Ext w1 wx → ∃ ao cap, v = .slice ao X cap ∧ Rd wx ao cap (bs.take X) ∧ (bs.take X).length = X := fun v wx e hx => ⟨_, _, e, R32.below hx, by simp; omega⟩
  have S36 : ∀ v wx, v = Value.slice (if cap0 = X then a0 else a0.map (·.add X)) (Y - X) (cap0 - X) → Ext w1 wx → ∃ ao cap, v = .slice ao (Y - X) cap ∧ Rd wx ao cap ((bs.take Y).drop X) ∧ ((bs.take Y).drop X).length = Y - X := fun v wx e hx => ⟨_, _, e, R36.below hx, by simp; omega⟩
  have S39 : ∀ v wx, v = Value.slice (if cap0 = Y then a0 else a0.map (·.add Y)) (bs.length - Y) (cap0 - Y) → Ext w1 wx → ∃ ao cap, v = .slice ao (bs.length - Y) cap ∧ Rd wx ao cap (bs.drop Y) ∧ (bs.drop Y).length = bs.length - Y := fun v wx e hx => ⟨_, _, e, R39.below hx, by simp⟩
  have S61 : ∀ v wx, v = Value.slice (if cap0 = X then a0 else a0.map (·.add X)) (bs.length - X) (cap0 - X) → Ext w1 wx → ∃ ao cap, v = .slice ao (bs.length - X) cap ∧ Rd wx ao cap (bs.drop X) ∧ (bs.drop X).length = bs.length - X := fun v wx e hx => ⟨_, _, e, R61.below hx, by simp⟩
  have c2 : bs ++ [] = bs := List.append_nil bs
  have c3 : bs.take X ++ (bs.take Y).drop X ++ bs.drop Y = bs := cut3 bs X Y x1
  have c4 : [] ++ bs.take X ++ [] ++ bs.drop X = bs := by simp
  refine wp_region_open (A := knows [(6, isF (.bool true)), (30, isF (.slice a0 bs.length cap0)), (31, isF (.int .i64 (X : Int))), (32, isF (.slice a0 X cap0)), (33, isF (.slice a0 bs.length cap0)), (34, isF (.int .i64 (X : Int))), (35, isF (.int .i64 (Y : Int))), (36, isF (.slice (if cap0 = X then a0 else a0.map (·.add X)) (Y - X) (cap0 - X))), (37, isF (.slice a0 bs.length cap0)), (38, isF (.int .i64 (Y : Int))), (39, isF (.slice (if cap0 = Y then a0 else a0.map (·.add Y)) (bs.length - Y) (cap0 - Y))), (41, isF (.int .u32 (crc bs : Nat))), (42, isF (.slice a0 bs.length cap0)), (44, isF (.int .u32 (crc bs : Nat))), (45, isF (.bool true)), (46, isF (.bool true)), (47, isF (.slice a0 bs.length cap0)), (49, isF (.int .u32 (crc bs : Nat))), (50, isF (.slice a0 bs.length cap0)), (52, isF (.int .u32 (crc bs : Nat))), (53, isF (.bool true)), (54, isF (.bool true)), (55, isF (.bool true)), (56, isF (.slice a0 bs.length cap0)), (57, isF (.int .i64 (X : Int))), (58, isF (.slice a0 X cap0)), (59, isF (.slice a0 bs.length cap0)), (60, isF (.int .i64 (X : Int))), (61, isF (.slice (if cap0 = X then a0 else a0.map (·.add X)) (bs.length - X) (cap0 - X))), (63, isF (.int .u32 (crc bs : Nat))), (64, isF (.slice a0 bs.length cap0)), (66, isF (.int .u32 (crc bs : Nat))), (67, isF (.bool true)), (68, isF (.bool true)), (40, partsF (bs.take X ++ (bs.take Y).drop X ++ bs.drop Y) 3), (43, partsF (bs) 1), (48, partsF (bs ++ []) 2), (51, partsF (bs) 1), (62, partsF ([] ++ bs.take X ++ [] ++ bs.drop X) 4), (65, partsF (bs) 1)]) (by kernel_rfl) (by kernel_rfl) (knows_mono _) (steps_of ?_) ?_
  refine allOps_cons (ok_fixed (.inl rfl) rfl 0 (.slice a0 bs.length cap0) (.inl rfl) (by kernel_rfl) rfl (fun _ _ => rfl)) ?_
  refine allOps_cons (ok_fixed (.inl rfl) rfl 7 (.int .i64 (X : Int)) (.inl rfl) (by kernel_rfl) (congrArg (Value.int .i64) hX) (fun _ _ => rfl)) ?_
  refine allOps_cons (ok_to (.inl rfl) rfl 30 31 rfl (by kernel_rfl) (by kernel_rfl) a0 bs.length cap0 X (fun _ _ h => h) (fun _ _ h => h) (by omega) (fun _ _ => rfl)) ?_
  refine allOps_cons (ok_fixed (.inl rfl) rfl 0 (.slice a0 bs.length cap0) (.inl rfl) (by kernel_rfl) rfl (fun _ _ => rfl)) ?_
  refine allOps_cons (ok_fixed (.inl rfl) rfl 7 (.int .i64 (X : Int)) (.inl rfl) (by kernel_rfl) (congrArg (Value.int .i64) hX) (fun _ _ => rfl)) ?_
  refine allOps_cons (ok_fixed (.inl rfl) rfl 8 (.int .i64 (Y : Int)) (.inl rfl) (by kernel_rfl) (congrArg (Value.int .i64) hY) (fun _ _ => rfl)) ?_
  refine allOps_cons (ok_mid (.inl rfl) rfl 33 34 35 rfl (by kernel_rfl) (by kernel_rfl) (by kernel_rfl) a0 bs.length cap0 X Y (fun _ _ h => h) (fun _ _ h => h) (fun _ _ h => h) (by omega) (by omega) (fun _ _ => rfl)) ?_
  refine allOps_cons (ok_fixed (.inl rfl) rfl 0 (.slice a0 bs.length cap0) (.inl rfl) (by kernel_rfl) rfl (fun _ _ => rfl)) ?_
  refine allOps_cons (ok_fixed (.inl rfl) rfl 8 (.int .i64 (Y : Int)) (.inl rfl) (by kernel_rfl) (congrArg (Value.int .i64) hY) (fun _ _ => rfl)) ?_
  refine allOps_cons (ok_from (.inl rfl) rfl 37 38 rfl (by kernel_rfl) (by kernel_rfl) a0 bs.length cap0 Y (fun _ _ h => h) (fun _ _ h => h) (by omega) (by omega) (fun _ _ => rfl)) ?_
  refine allOps_cons (ok_build3 (.inl rfl) rfl _ _ _ rfl _ _ _ (src_slot 32 _ _ (by kernel_rfl) S32) (src_slot 36 _ _ (by kernel_rfl) S36) (src_slot 39 _ _ (by kernel_rfl) S39) (fun _ _ h => h)) ?_
  refine allOps_cons (ok_sum (.inl rfl) rfl 40 rfl (by kernel_rfl) _ 3 (by omega) (fun _ _ h => h) (fun _ => congrArg (fun l => Value.int .u32 ((crc l : Nat) : Int)) c3)) ?_
  refine allOps_cons (ok_fixed (.inl rfl) rfl 0 (.slice a0 bs.length cap0) (.inl rfl) (by kernel_rfl) rfl (fun _ _ => rfl)) ?_
  refine allOps_cons (ok_build1 (.inl rfl) rfl _ rfl _ (src_slot 42 _ _ (by kernel_rfl) S0) (fun _ _ h => h)) ?_
  refine allOps_cons (ok_sum (.inl rfl) rfl 43 rfl (by kernel_rfl) _ 1 (by omega) (fun _ _ h => h) (fun _ => rfl)) ?_
  refine allOps_cons (ok_eql_int (.inl rfl) rfl 41 44 _ _ rfl (by kernel_rfl) (by kernel_rfl) .u32 _ _ (fun _ _ h => h) (fun _ _ h => h) (fun _ => congrArg Value.bool (beq_self_eq_true _))) ?_
  refine allOps_cons (ok_move (.inl rfl) rfl 45 (.inl rfl) (by kernel_rfl) (fun _ _ h => h)) ?_
  refine allOps_cons (ok_fixed (.inr ⟨16, true, 46, rfl, by kernel_rfl, by kernel_rfl, fun _ _ h => h⟩) rfl 0 (.slice a0 bs.length cap0) (.inl rfl) (by kernel_rfl) rfl (fun _ _ => rfl)) ?_
  refine allOps_cons (ok_build2 (.inr ⟨16, true, 46, rfl, by kernel_rfl, by kernel_rfl, fun _ _ h => h⟩) rfl _ _ rfl _ _ (src_slot 47 _ _ (by kernel_rfl) S0) src_nil (fun _ _ h => h)) ?_
  refine allOps_cons (ok_sum (.inr ⟨16, true, 46, rfl, by kernel_rfl, by kernel_rfl, fun _ _ h => h⟩) rfl 48 rfl (by kernel_rfl) _ 2 (by omega) (fun _ _ h => h) (fun _ => congrArg (fun l => Value.int .u32 ((crc l : Nat) : Int)) c2)) ?_
  refine allOps_cons (ok_fixed (.inr ⟨16, true, 46, rfl, by kernel_rfl, by kernel_rfl, fun _ _ h => h⟩) rfl 0 (.slice a0 bs.length cap0) (.inl rfl) (by kernel_rfl) rfl (fun _ _ => rfl)) ?_
  refine allOps_cons (ok_build1 (.inr ⟨16, true, 46, rfl, by kernel_rfl, by kernel_rfl, fun _ _ h => h⟩) rfl _ rfl _ (src_slot 50 _ _ (by kernel_rfl) S0) (fun _ _ h => h)) ?_
  refine allOps_cons (ok_sum (.inr ⟨16, true, 46, rfl, by kernel_rfl, by kernel_rfl, fun _ _ h => h⟩) rfl 51 rfl (by kernel_rfl) _ 1 (by omega) (fun _ _ h => h) (fun _ => rfl)) ?_
  refine allOps_cons (ok_eql_int (.inr ⟨16, true, 46, rfl, by kernel_rfl, by kernel_rfl, fun _ _ h => h⟩) rfl 49 52 _ _ rfl (by kernel_rfl) (by kernel_rfl) .u32 _ _ (fun _ _ h => h) (fun _ _ h => h) (fun _ => congrArg Value.bool (beq_self_eq_true _))) ?_
  refine allOps_cons (ok_pick (.inl rfl) rfl 46 53 _ rfl (by kernel_rfl) (by kernel_rfl) (fun _ _ h => h) (fun _ _ h => h)) ?_
  refine allOps_cons (ok_move (.inl rfl) rfl 54 (.inl rfl) (by kernel_rfl) (fun _ _ h => h)) ?_
  refine allOps_cons (ok_fixed (.inr ⟨25, true, 55, rfl, by kernel_rfl, by kernel_rfl, fun _ _ h => h⟩) rfl 0 (.slice a0 bs.length cap0) (.inl rfl) (by kernel_rfl) rfl (fun _ _ => rfl)) ?_
  refine allOps_cons (ok_fixed (.inr ⟨25, true, 55, rfl, by kernel_rfl, by kernel_rfl, fun _ _ h => h⟩) rfl 7 (.int .i64 (X : Int)) (.inl rfl) (by kernel_rfl) (congrArg (Value.int .i64) hX) (fun _ _ => rfl)) ?_
  refine allOps_cons (ok_to (.inr ⟨25, true, 55, rfl, by kernel_rfl, by kernel_rfl, fun _ _ h => h⟩) rfl 56 57 rfl (by kernel_rfl) (by kernel_rfl) a0 bs.length cap0 X (fun _ _ h => h) (fun _ _ h => h) (by omega) (fun _ _ => rfl)) ?_
  refine allOps_cons (ok_fixed (.inr ⟨25, true, 55, rfl, by kernel_rfl, by kernel_rfl, fun _ _ h => h⟩) rfl 0 (.slice a0 bs.length cap0) (.inl rfl) (by kernel_rfl) rfl (fun _ _ => rfl)) ?_
  refine allOps_cons (ok_fixed (.inr ⟨25, true, 55, rfl, by kernel_rfl, by kernel_rfl, fun _ _ h => h⟩) rfl 7 (.int .i64 (X : Int)) (.inl rfl) (by kernel_rfl) (congrArg (Value.int .i64) hX) (fun _ _ => rfl)) ?_
  refine allOps_cons (ok_from (.inr ⟨25, true, 55, rfl, by kernel_rfl, by kernel_rfl, fun _ _ h => h⟩) rfl 59 60 rfl (by kernel_rfl) (by kernel_rfl) a0 bs.length cap0 X (fun _ _ h => h) (fun _ _ h => h) (by omega) (by omega) (fun _ _ => rfl)) ?_
  refine allOps_cons (ok_build4 (.inr ⟨25, true, 55, rfl, by kernel_rfl, by kernel_rfl, fun _ _ h => h⟩) rfl _ _ _ _ rfl _ _ _ _ src_nil (src_slot 58 _ _ (by kernel_rfl) S32) src_nil (src_slot 61 _ _ (by kernel_rfl) S61) (fun _ _ h => h)) ?_
  refine allOps_cons (ok_sum (.inr ⟨25, true, 55, rfl, by kernel_rfl, by kernel_rfl, fun _ _ h => h⟩) rfl 62 rfl (by kernel_rfl) _ 4 (by omega) (fun _ _ h => h) (fun _ => congrArg (fun l => Value.int .u32 ((crc l : Nat) : Int)) c4)) ?_
  refine allOps_cons (ok_fixed (.inr ⟨25, true, 55, rfl, by kernel_rfl, by kernel_rfl, fun _ _ h => h⟩) rfl 0 (.slice a0 bs.length cap0) (.inl rfl) (by kernel_rfl) rfl (fun _ _ => rfl)) ?_
  refine allOps_cons (ok_build1 (.inr ⟨25, true, 55, rfl, by kernel_rfl, by kernel_rfl, fun _ _ h => h⟩) rfl _ rfl _ (src_slot 64 _ _ (by kernel_rfl) S0) (fun _ _ h => h)) ?_
  refine allOps_cons (ok_sum (.inr ⟨25, true, 55, rfl, by kernel_rfl, by kernel_rfl, fun _ _ h => h⟩) rfl 65 rfl (by kernel_rfl) _ 1 (by omega) (fun _ _ h => h) (fun _ => rfl)) ?_
  refine allOps_cons (ok_eql_int (.inr ⟨25, true, 55, rfl, by kernel_rfl, by kernel_rfl, fun _ _ h => h⟩) rfl 63 66 _ _ rfl (by kernel_rfl) (by kernel_rfl) .u32 _ _ (fun _ _ h => h) (fun _ _ h => h) (fun _ => congrArg Value.bool (beq_self_eq_true _))) ?_
  refine allOps_cons (ok_pick (.inl rfl) rfl 55 67 _ rfl (by kernel_rfl) (by kernel_rfl) (fun _ _ h => h) (fun _ _ h => h)) ?_
  refine allOps_cons (ok_move (.inl rfl) rfl 68 (.inr rfl) (by kernel_rfl) (fun _ _ h => h)) ?_
  exact allOps_nil
  · intro a wz hx hsz hdef hfix hkn
    refine ‹∀ (a : Act) (w : World), Code.wp Try.prog Code.ret _ a w → _› a wz ?_
    have h6 : a.tmps.getD 6 undef = .bool true := hkn 6 (by kernel_rfl)
    go_wp2
    exact bodyPost_ret (v := .bool true) (by rw [results_tmp rfl, h6]) hdef ⟨rfl, hb1.trans (hx.mono hb1.size)⟩

theorem parts_big (a0 : Option Addr) (l0 cap0 : Nat) (i k : Int) (w : World) (h : 100 < l0) (h0 : l0 ≤ 9223372036854775807) :
    Calls Try.prog 6 #[.slice a0 l0 cap0, .int .u8 i, .int .u8 k] w fun e w' => e = .returned (.bool true) ∧ Below w.heap.size w w' := by
  go_enter Try.func6, Try.ntmps6
  go_wp2_with fail
  refine (begun_any w).mono ?_
  rintro e w1 ⟨rfl, hb1⟩
  go_wp2
  go_ret
  exact ⟨rfl, hb1⟩
end Go.Proofs.Ytjkbapjdojhdeaa
