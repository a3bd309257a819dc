/-
  FoldR, FoldM, FoldS, FoldT.
-/
import Derived.Test.YtenlampiiodkhaaGreatDoorBDc
import Derived.Laws.Cells
import Derived.Laws.MakeOwn
namespace Go.Proofs.YtenlampiiodkhaaGreatDoor
set_option linter.unusedVariables false
open Go.RowKit
theorem bor : ∀ k : Fin 48, bits .or .i32 (256 + (k.val : Int)) 1 = 256 + (k.val : Int) + (1 - (256 + (k.val : Int)) % 2) := by decide +kernel
theorem or_one (r : Int) (h : 256 ≤ r ∧ r ≤ 303) : bits .or .i32 r 1 = r + (1 - r % 2) := by
  have := bor ⟨(r - 256).toNat, by omega⟩; simp only at this; rw [show (256 : Int) + ((r - 256).toNat : Int) = r by omega] at this; exact this
theorem wide_no {r : Int} (h : ¬ (65281 ≤ r ∧ r ≤ 65374)) : wide r = r := by unfold wide; rw [if_neg h]
theorem mp_lost {r : Int} (h : Lost r) : mpo r = 0 ∧ mpk r = false := by
  have e := (lost_iff r).2 h; exact ⟨by unfold mpo; rw [if_pos e], by unfold mpk; rw [e, Bool.not_true]⟩
theorem mp_is {r v : Int} (hw : ¬ (65281 ≤ r ∧ r ≤ 65374)) (hn : ¬ Lost r) (h : small r = v) : mpo r = v ∧ mpk r = true :=
  ⟨by rw [mpo_of (lost_false hn), wide_no hw]; exact h, mpk_of (lost_false hn)⟩
theorem mp_wide {r : Int} (hw : 65281 ≤ r ∧ r ≤ 65374) : mpo r = mpo (r - 65248) ∧ mpk r = true ∧ mpk (r - 65248) = true := by
  have h1 : ¬ Lost r := by unfold Lost; omega
  have h2 : ¬ Lost (r - 65248) := by unfold Lost; omega
  refine ⟨?_, mpk_of (lost_false h1), mpk_of (lost_false h2)⟩; rw [mpo_of (lost_false h1), mpo_of (lost_false h2), wide_no (r := r - 65248) (by omega)]; congr 1; unfold wide; rw [if_pos hw]
theorem small_u {r : Int} (h : (65 ≤ r ∧ r ≤ 90) ∨ (192 ≤ r ∧ r ≤ 222 ∧ r ≠ 215) ∨ (913 ≤ r ∧ r ≤ 937 ∧ r ≠ 930) ∨ (1040 ≤ r ∧ r ≤ 1071)) : small r = r + 32 := by unfold small; rw [if_neg (by omega), if_pos h]
theorem small_c {r : Int} (h : 1024 ≤ r ∧ r ≤ 1039) : small r = r + 80 := by unfold small; rw [if_neg (by omega), if_neg (by omega), if_pos h]
theorem small_e {r : Int} (h : 256 ≤ r ∧ r ≤ 303) : small r = r + (1 - r % 2) := by unfold small; rw [if_neg (by omega), if_neg (by omega), if_neg (by omega), if_pos h]
theorem small_d {r : Int} (h : r = 12290 ∨ r = 65377) : small r = 46 := by unfold small; rw [if_pos h]
theorem small_s {r : Int} (h0 : ¬ (r = 12290 ∨ r = 65377)) (h1 : ¬ ((65 ≤ r ∧ r ≤ 90) ∨ (192 ≤ r ∧ r ≤ 222 ∧ r ≠ 215) ∨ (913 ≤ r ∧ r ≤ 937 ∧ r ≠ 930) ∨ (1040 ≤ r ∧ r ≤ 1071))) (h2 : ¬ (1024 ≤ r ∧ r ≤ 1039)) (h3 : ¬ (256 ≤ r ∧ r ≤ 303)) : small r = r := by unfold small; rw [if_neg h0, if_neg h1, if_neg h2, if_neg h3]
theorem lies (r : Int) (hw : ¬ (65281 ≤ r ∧ r ≤ 65374)) : r ≤ 64 ∨ (65 ≤ r ∧ r ≤ 90) ∨ (91 ≤ r ∧ r ≤ 172) ∨ r = 173 ∨ (174 ≤ r ∧ r ≤ 191) ∨ (192 ≤ r ∧ r ≤ 214) ∨ r = 215 ∨ (216 ≤ r ∧ r ≤ 222) ∨ (223 ≤ r ∧ r ≤ 255) ∨ (256 ≤ r ∧ r ≤ 303) ∨ (304 ≤ r ∧ r ≤ 912) ∨ (913 ≤ r ∧ r ≤ 929) ∨ r = 930 ∨ (931 ≤ r ∧ r ≤ 937) ∨ (938 ≤ r ∧ r ≤ 1023) ∨ (1024 ≤ r ∧ r ≤ 1039) ∨ (1040 ≤ r ∧ r ≤ 1071) ∨ (1072 ≤ r ∧ r ≤ 8202) ∨ (8203 ≤ r ∧ r ≤ 8205) ∨ (8206 ≤ r ∧ r ≤ 8287) ∨ r = 8288 ∨ (8289 ≤ r ∧ r ≤ 12289) ∨ r = 12290 ∨ (12291 ≤ r ∧ r ≤ 65278) ∨ r = 65279 ∨ r = 65280 ∨ (65375 ≤ r ∧ r ≤ 65376) ∨ r = 65377 ∨ 65378 ≤ r := by omega
set_option maxHeartbeats 4000000 in
theorem rmap_narrow (r : Int) (w : World) (hr : -2147483648 ≤ r ∧ r ≤ 2147483647) (hw : ¬ (65281 ≤ r ∧ r ≤ 65374)) :
    Calls Tryz.prog 64 #[R r] w fun e w' => e = .returned (.tuple #[R (mpo r), .bool (mpk r)]) ∧ w' = w := by
  have hl := lies r hw; rcases hl with h | h | h | h | h | h | h | h | h | h | h | h | h | h | h | h | h | h | h | h | h | h | h | h | h | h | h | h | h
  · obtain ⟨m1, m2⟩ := mp_is hw (by unfold Lost; omega) (small_s (by omega) (by omega) (by omega) (by omega)); rw [m1, m2]; clear m1 m2 hw; have n173 : (r == 173) = false := beq_eq_false_iff_ne.2 (by omega); have n8288 : (r == 8288) = false := beq_eq_false_iff_ne.2 (by omega); have n65279 : (r == 65279) = false := beq_eq_false_iff_ne.2 (by omega); have n12290 : (r == 12290) = false := beq_eq_false_iff_ne.2 (by omega); have n65377 : (r == 65377) = false := beq_eq_false_iff_ne.2 (by omega); have n215 : (r != 215) = true := bne_iff_ne.2 (by omega); have n930 : (r != 930) = true := bne_iff_ne.2 (by omega); go_enter Tryz.func64, Tryz.ntmps64; go_wp2; go_ret2; exact ⟨by simp, rfl⟩
  · obtain ⟨m1, m2⟩ := mp_is hw (by unfold Lost; omega) (small_u (by omega)); rw [m1, m2]; clear m1 m2 hw; have n173 : (r == 173) = false := beq_eq_false_iff_ne.2 (by omega); have n8288 : (r == 8288) = false := beq_eq_false_iff_ne.2 (by omega); have n65279 : (r == 65279) = false := beq_eq_false_iff_ne.2 (by omega); have n12290 : (r == 12290) = false := beq_eq_false_iff_ne.2 (by omega); have n65377 : (r == 65377) = false := beq_eq_false_iff_ne.2 (by omega); have n215 : (r != 215) = true := bne_iff_ne.2 (by omega); have n930 : (r != 930) = true := bne_iff_ne.2 (by omega); go_enter Tryz.func64, Tryz.ntmps64; go_wp2; go_ret2; exact ⟨by simp, rfl⟩
  · obtain ⟨m1, m2⟩ := mp_is hw (by unfold Lost; omega) (small_s (by omega) (by omega) (by omega) (by omega)); rw [m1, m2]; clear m1 m2 hw; have n173 : (r == 173) = false := beq_eq_false_iff_ne.2 (by omega); have n8288 : (r == 8288) = false := beq_eq_false_iff_ne.2 (by omega); have n65279 : (r == 65279) = false := beq_eq_false_iff_ne.2 (by omega); have n12290 : (r == 12290) = false := beq_eq_false_iff_ne.2 (by omega); have n65377 : (r == 65377) = false := beq_eq_false_iff_ne.2 (by omega); have n215 : (r != 215) = true := bne_iff_ne.2 (by omega); have n930 : (r != 930) = true := bne_iff_ne.2 (by omega); go_enter Tryz.func64, Tryz.ntmps64; go_wp2; go_ret2; exact ⟨by simp, rfl⟩
  · obtain ⟨m1, m2⟩ := mp_lost (r := r) (by unfold Lost; omega); subst h; rw [m1, m2]; clear m1 m2 hw; go_enter Tryz.func64, Tryz.ntmps64; go_wp2; go_ret2; exact ⟨by simp, rfl⟩
  · obtain ⟨m1, m2⟩ := mp_is hw (by unfold Lost; omega) (small_s (by omega) (by omega) (by omega) (by omega)); rw [m1, m2]; clear m1 m2 hw; have n173 : (r == 173) = false := beq_eq_false_iff_ne.2 (by omega); have n8288 : (r == 8288) = false := beq_eq_false_iff_ne.2 (by omega); have n65279 : (r == 65279) = false := beq_eq_false_iff_ne.2 (by omega); have n12290 : (r == 12290) = false := beq_eq_false_iff_ne.2 (by omega); have n65377 : (r == 65377) = false := beq_eq_false_iff_ne.2 (by omega); have n215 : (r != 215) = true := bne_iff_ne.2 (by omega); have n930 : (r != 930) = true := bne_iff_ne.2 (by omega); go_enter Tryz.func64, Tryz.ntmps64; go_wp2; go_ret2; exact ⟨by simp, rfl⟩
  · obtain ⟨m1, m2⟩ := mp_is hw (by unfold Lost; omega) (small_u (by omega)); rw [m1, m2]; clear m1 m2 hw; have n173 : (r == 173) = false := beq_eq_false_iff_ne.2 (by omega); have n8288 : (r == 8288) = false := beq_eq_false_iff_ne.2 (by omega); have n65279 : (r == 65279) = false := beq_eq_false_iff_ne.2 (by omega); have n12290 : (r == 12290) = false := beq_eq_false_iff_ne.2 (by omega); have n65377 : (r == 65377) = false := beq_eq_false_iff_ne.2 (by omega); have n215 : (r != 215) = true := bne_iff_ne.2 (by omega); have n930 : (r != 930) = true := bne_iff_ne.2 (by omega); go_enter Tryz.func64, Tryz.ntmps64; go_wp2; go_ret2; exact ⟨by simp, rfl⟩
  · obtain ⟨m1, m2⟩ := mp_is hw (by unfold Lost; omega) (small_s (by omega) (by omega) (by omega) (by omega)); subst h; rw [m1, m2]; clear m1 m2 hw; go_enter Tryz.func64, Tryz.ntmps64; go_wp2; go_ret2; exact ⟨by simp, rfl⟩
  · obtain ⟨m1, m2⟩ := mp_is hw (by unfold Lost; omega) (small_u (by omega)); rw [m1, m2]; clear m1 m2 hw; have n173 : (r == 173) = false := beq_eq_false_iff_ne.2 (by omega); have n8288 : (r == 8288) = false := beq_eq_false_iff_ne.2 (by omega); have n65279 : (r == 65279) = false := beq_eq_false_iff_ne.2 (by omega); have n12290 : (r == 12290) = false := beq_eq_false_iff_ne.2 (by omega); have n65377 : (r == 65377) = false := beq_eq_false_iff_ne.2 (by omega); have n215 : (r != 215) = true := bne_iff_ne.2 (by omega); have n930 : (r != 930) = true := bne_iff_ne.2 (by omega); go_enter Tryz.func64, Tryz.ntmps64; go_wp2; go_ret2; exact ⟨by simp, rfl⟩
  · obtain ⟨m1, m2⟩ := mp_is hw (by unfold Lost; omega) (small_s (by omega) (by omega) (by omega) (by omega)); rw [m1, m2]; clear m1 m2 hw; have n173 : (r == 173) = false := beq_eq_false_iff_ne.2 (by omega); have n8288 : (r == 8288) = false := beq_eq_false_iff_ne.2 (by omega); have n65279 : (r == 65279) = false := beq_eq_false_iff_ne.2 (by omega); have n12290 : (r == 12290) = false := beq_eq_false_iff_ne.2 (by omega); have n65377 : (r == 65377) = false := beq_eq_false_iff_ne.2 (by omega); have n215 : (r != 215) = true := bne_iff_ne.2 (by omega); have n930 : (r != 930) = true := bne_iff_ne.2 (by omega); go_enter Tryz.func64, Tryz.ntmps64; go_wp2; go_ret2; exact ⟨by simp, rfl⟩
  · obtain ⟨m1, m2⟩ := mp_is hw (by unfold Lost; omega) (small_e (by omega)); rw [m1, m2]; clear m1 m2 hw; have ho := or_one r h; have n173 : (r == 173) = false := beq_eq_false_iff_ne.2 (by omega); have n8288 : (r == 8288) = false := beq_eq_false_iff_ne.2 (by omega); have n65279 : (r == 65279) = false := beq_eq_false_iff_ne.2 (by omega); have n12290 : (r == 12290) = false := beq_eq_false_iff_ne.2 (by omega); have n65377 : (r == 65377) = false := beq_eq_false_iff_ne.2 (by omega); have n215 : (r != 215) = true := bne_iff_ne.2 (by omega); have n930 : (r != 930) = true := bne_iff_ne.2 (by omega); go_enter Tryz.func64, Tryz.ntmps64; go_wp2; go_ret2; exact ⟨by simp, rfl⟩
  · obtain ⟨m1, m2⟩ := mp_is hw (by unfold Lost; omega) (small_s (by omega) (by omega) (by omega) (by omega)); rw [m1, m2]; clear m1 m2 hw; have n173 : (r == 173) = false := beq_eq_false_iff_ne.2 (by omega); have n8288 : (r == 8288) = false := beq_eq_false_iff_ne.2 (by omega); have n65279 : (r == 65279) = false := beq_eq_false_iff_ne.2 (by omega); have n12290 : (r == 12290) = false := beq_eq_false_iff_ne.2 (by omega); have n65377 : (r == 65377) = false := beq_eq_false_iff_ne.2 (by omega); have n215 : (r != 215) = true := bne_iff_ne.2 (by omega); have n930 : (r != 930) = true := bne_iff_ne.2 (by omega); go_enter Tryz.func64, Tryz.ntmps64; go_wp2; go_ret2; exact ⟨by simp, rfl⟩
  · obtain ⟨m1, m2⟩ := mp_is hw (by unfold Lost; omega) (small_u (by omega)); rw [m1, m2]; clear m1 m2 hw; have n173 : (r == 173) = false := beq_eq_false_iff_ne.2 (by omega); have n8288 : (r == 8288) = false := beq_eq_false_iff_ne.2 (by omega); have n65279 : (r == 65279) = false := beq_eq_false_iff_ne.2 (by omega); have n12290 : (r == 12290) = false := beq_eq_false_iff_ne.2 (by omega); have n65377 : (r == 65377) = false := beq_eq_false_iff_ne.2 (by omega); have n215 : (r != 215) = true := bne_iff_ne.2 (by omega); have n930 : (r != 930) = true := bne_iff_ne.2 (by omega); go_enter Tryz.func64, Tryz.ntmps64; go_wp2; go_ret2; exact ⟨by simp, rfl⟩
  · obtain ⟨m1, m2⟩ := mp_is hw (by unfold Lost; omega) (small_s (by omega) (by omega) (by omega) (by omega)); subst h; rw [m1, m2]; clear m1 m2 hw; go_enter Tryz.func64, Tryz.ntmps64; go_wp2; go_ret2; exact ⟨by simp, rfl⟩
  · obtain ⟨m1, m2⟩ := mp_is hw (by unfold Lost; omega) (small_u (by omega)); rw [m1, m2]; clear m1 m2 hw; have n173 : (r == 173) = false := beq_eq_false_iff_ne.2 (by omega); have n8288 : (r == 8288) = false := beq_eq_false_iff_ne.2 (by omega); have n65279 : (r == 65279) = false := beq_eq_false_iff_ne.2 (by omega); have n12290 : (r == 12290) = false := beq_eq_false_iff_ne.2 (by omega); have n65377 : (r == 65377) = false := beq_eq_false_iff_ne.2 (by omega); have n215 : (r != 215) = true := bne_iff_ne.2 (by omega); have n930 : (r != 930) = true := bne_iff_ne.2 (by omega); go_enter Tryz.func64, Tryz.ntmps64; go_wp2; go_ret2; exact ⟨by simp, rfl⟩
  · obtain ⟨m1, m2⟩ := mp_is hw (by unfold Lost; omega) (small_s (by omega) (by omega) (by omega) (by omega)); rw [m1, m2]; clear m1 m2 hw; have n173 : (r == 173) = false := beq_eq_false_iff_ne.2 (by omega); have n8288 : (r == 8288) = false := beq_eq_false_iff_ne.2 (by omega); have n65279 : (r == 65279) = false := beq_eq_false_iff_ne.2 (by omega); have n12290 : (r == 12290) = false := beq_eq_false_iff_ne.2 (by omega); have n65377 : (r == 65377) = false := beq_eq_false_iff_ne.2 (by omega); have n215 : (r != 215) = true := bne_iff_ne.2 (by omega); have n930 : (r != 930) = true := bne_iff_ne.2 (by omega); go_enter Tryz.func64, Tryz.ntmps64; go_wp2; go_ret2; exact ⟨by simp, rfl⟩
  · obtain ⟨m1, m2⟩ := mp_is hw (by unfold Lost; omega) (small_c (by omega)); rw [m1, m2]; clear m1 m2 hw; have n173 : (r == 173) = false := beq_eq_false_iff_ne.2 (by omega); have n8288 : (r == 8288) = false := beq_eq_false_iff_ne.2 (by omega); have n65279 : (r == 65279) = false := beq_eq_false_iff_ne.2 (by omega); have n12290 : (r == 12290) = false := beq_eq_false_iff_ne.2 (by omega); have n65377 : (r == 65377) = false := beq_eq_false_iff_ne.2 (by omega); have n215 : (r != 215) = true := bne_iff_ne.2 (by omega); have n930 : (r != 930) = true := bne_iff_ne.2 (by omega); go_enter Tryz.func64, Tryz.ntmps64; go_wp2; go_ret2; exact ⟨by simp, rfl⟩
  · obtain ⟨m1, m2⟩ := mp_is hw (by unfold Lost; omega) (small_u (by omega)); rw [m1, m2]; clear m1 m2 hw; have n173 : (r == 173) = false := beq_eq_false_iff_ne.2 (by omega); have n8288 : (r == 8288) = false := beq_eq_false_iff_ne.2 (by omega); have n65279 : (r == 65279) = false := beq_eq_false_iff_ne.2 (by omega); have n12290 : (r == 12290) = false := beq_eq_false_iff_ne.2 (by omega); have n65377 : (r == 65377) = false := beq_eq_false_iff_ne.2 (by omega); have n215 : (r != 215) = true := bne_iff_ne.2 (by omega); have n930 : (r != 930) = true := bne_iff_ne.2 (by omega); go_enter Tryz.func64, Tryz.ntmps64; go_wp2; go_ret2; exact ⟨by simp, rfl⟩
  · obtain ⟨m1, m2⟩ := mp_is hw (by unfold Lost; omega) (small_s (by omega) (by omega) (by omega) (by omega)); rw [m1, m2]; clear m1 m2 hw; have n173 : (r == 173) = false := beq_eq_false_iff_ne.2 (by omega); have n8288 : (r == 8288) = false := beq_eq_false_iff_ne.2 (by omega); have n65279 : (r == 65279) = false := beq_eq_false_iff_ne.2 (by omega); have n12290 : (r == 12290) = false := beq_eq_false_iff_ne.2 (by omega); have n65377 : (r == 65377) = false := beq_eq_false_iff_ne.2 (by omega); have n215 : (r != 215) = true := bne_iff_ne.2 (by omega); have n930 : (r != 930) = true := bne_iff_ne.2 (by omega); go_enter Tryz.func64, Tryz.ntmps64; go_wp2; go_ret2; exact ⟨by simp, rfl⟩
  · obtain ⟨m1, m2⟩ := mp_lost (r := r) (by unfold Lost; omega); rw [m1, m2]; clear m1 m2 hw; have n173 : (r == 173) = false := beq_eq_false_iff_ne.2 (by omega); have n8288 : (r == 8288) = false := beq_eq_false_iff_ne.2 (by omega); have n65279 : (r == 65279) = false := beq_eq_false_iff_ne.2 (by omega); have n12290 : (r == 12290) = false := beq_eq_false_iff_ne.2 (by omega); have n65377 : (r == 65377) = false := beq_eq_false_iff_ne.2 (by omega); have n215 : (r != 215) = true := bne_iff_ne.2 (by omega); have n930 : (r != 930) = true := bne_iff_ne.2 (by omega); go_enter Tryz.func64, Tryz.ntmps64; go_wp2; go_ret2; exact ⟨by simp, rfl⟩
  · obtain ⟨m1, m2⟩ := mp_is hw (by unfold Lost; omega) (small_s (by omega) (by omega) (by omega) (by omega)); rw [m1, m2]; clear m1 m2 hw; have n173 : (r == 173) = false := beq_eq_false_iff_ne.2 (by omega); have n8288 : (r == 8288) = false := beq_eq_false_iff_ne.2 (by omega); have n65279 : (r == 65279) = false := beq_eq_false_iff_ne.2 (by omega); have n12290 : (r == 12290) = false := beq_eq_false_iff_ne.2 (by omega); have n65377 : (r == 65377) = false := beq_eq_false_iff_ne.2 (by omega); have n215 : (r != 215) = true := bne_iff_ne.2 (by omega); have n930 : (r != 930) = true := bne_iff_ne.2 (by omega); go_enter Tryz.func64, Tryz.ntmps64; go_wp2; go_ret2; exact ⟨by simp, rfl⟩
  · obtain ⟨m1, m2⟩ := mp_lost (r := r) (by unfold Lost; omega); subst h; rw [m1, m2]; clear m1 m2 hw; go_enter Tryz.func64, Tryz.ntmps64; go_wp2; go_ret2; exact ⟨by simp, rfl⟩
  · obtain ⟨m1, m2⟩ := mp_is hw (by unfold Lost; omega) (small_s (by omega) (by omega) (by omega) (by omega)); rw [m1, m2]; clear m1 m2 hw; have n173 : (r == 173) = false := beq_eq_false_iff_ne.2 (by omega); have n8288 : (r == 8288) = false := beq_eq_false_iff_ne.2 (by omega); have n65279 : (r == 65279) = false := beq_eq_false_iff_ne.2 (by omega); have n12290 : (r == 12290) = false := beq_eq_false_iff_ne.2 (by omega); have n65377 : (r == 65377) = false := beq_eq_false_iff_ne.2 (by omega); have n215 : (r != 215) = true := bne_iff_ne.2 (by omega); have n930 : (r != 930) = true := bne_iff_ne.2 (by omega); go_enter Tryz.func64, Tryz.ntmps64; go_wp2; go_ret2; exact ⟨by simp, rfl⟩
  · obtain ⟨m1, m2⟩ := mp_is hw (by unfold Lost; omega) (small_d (by omega)); subst h; rw [m1, m2]; clear m1 m2 hw; go_enter Tryz.func64, Tryz.ntmps64; go_wp2; go_ret2; exact ⟨by simp, rfl⟩
  · obtain ⟨m1, m2⟩ := mp_is hw (by unfold Lost; omega) (small_s (by omega) (by omega) (by omega) (by omega)); rw [m1, m2]; clear m1 m2 hw; have n173 : (r == 173) = false := beq_eq_false_iff_ne.2 (by omega); have n8288 : (r == 8288) = false := beq_eq_false_iff_ne.2 (by omega); have n65279 : (r == 65279) = false := beq_eq_false_iff_ne.2 (by omega); have n12290 : (r == 12290) = false := beq_eq_false_iff_ne.2 (by omega); have n65377 : (r == 65377) = false := beq_eq_false_iff_ne.2 (by omega); have n215 : (r != 215) = true := bne_iff_ne.2 (by omega); have n930 : (r != 930) = true := bne_iff_ne.2 (by omega); go_enter Tryz.func64, Tryz.ntmps64; go_wp2; go_ret2; exact ⟨by simp, rfl⟩
  · obtain ⟨m1, m2⟩ := mp_lost (r := r) (by unfold Lost; omega); subst h; rw [m1, m2]; clear m1 m2 hw; go_enter Tryz.func64, Tryz.ntmps64; go_wp2; go_ret2; exact ⟨by simp, rfl⟩
  · obtain ⟨m1, m2⟩ := mp_is hw (by unfold Lost; omega) (small_s (by omega) (by omega) (by omega) (by omega)); subst h; rw [m1, m2]; clear m1 m2 hw; go_enter Tryz.func64, Tryz.ntmps64; go_wp2; go_ret2; exact ⟨by simp, rfl⟩
  · obtain ⟨m1, m2⟩ := mp_is hw (by unfold Lost; omega) (small_s (by omega) (by omega) (by omega) (by omega)); rw [m1, m2]; clear m1 m2 hw; have n173 : (r == 173) = false := beq_eq_false_iff_ne.2 (by omega); have n8288 : (r == 8288) = false := beq_eq_false_iff_ne.2 (by omega); have n65279 : (r == 65279) = false := beq_eq_false_iff_ne.2 (by omega); have n12290 : (r == 12290) = false := beq_eq_false_iff_ne.2 (by omega); have n65377 : (r == 65377) = false := beq_eq_false_iff_ne.2 (by omega); have n215 : (r != 215) = true := bne_iff_ne.2 (by omega); have n930 : (r != 930) = true := bne_iff_ne.2 (by omega); go_enter Tryz.func64, Tryz.ntmps64; go_wp2; go_ret2; exact ⟨by simp, rfl⟩
  · obtain ⟨m1, m2⟩ := mp_is hw (by unfold Lost; omega) (small_d (by omega)); subst h; rw [m1, m2]; clear m1 m2 hw; go_enter Tryz.func64, Tryz.ntmps64; go_wp2; go_ret2; exact ⟨by simp, rfl⟩
  · obtain ⟨m1, m2⟩ := mp_is hw (by unfold Lost; omega) (small_s (by omega) (by omega) (by omega) (by omega)); rw [m1, m2]; clear m1 m2 hw; have n173 : (r == 173) = false := beq_eq_false_iff_ne.2 (by omega); have n8288 : (r == 8288) = false := beq_eq_false_iff_ne.2 (by omega); have n65279 : (r == 65279) = false := beq_eq_false_iff_ne.2 (by omega); have n12290 : (r == 12290) = false := beq_eq_false_iff_ne.2 (by omega); have n65377 : (r == 65377) = false := beq_eq_false_iff_ne.2 (by omega); have n215 : (r != 215) = true := bne_iff_ne.2 (by omega); have n930 : (r != 930) = true := bne_iff_ne.2 (by omega); go_enter Tryz.func64, Tryz.ntmps64; go_wp2; go_ret2; exact ⟨by simp, rfl⟩
end Go.Proofs.YtenlampiiodkhaaGreatDoor
namespace Go.Proofs.YtenlampiiodkhaaGreatDoor
set_option linter.unusedVariables false
open Go.RowKit
def outT : List Value := [R 173, R 173, R 1, R 8203, R 8205, R 1, R 8288, R 8288, R 1, R 65279, R 65279, R 1]
def bigT : List Value := [R 65, R 90, R 1, R 32, R 192, R 214, R 1, R 32, R 216, R 222, R 1, R 32, R 256, R 303, R 2, R 1, R 913, R 929, R 1, R 32, R 931, R 937, R 1, R 32, R 1024, R 1039, R 1, R 80, R 1040, R 1071, R 1, R 32]
structure Tabs (w : World) : Prop where
  out : ∀ j v, outT[j]? = some v → w.cell? ⟨0, j, none⟩ = some v
  big : ∀ j v, bigT[j]? = some v → w.cell? ⟨1, j, none⟩ = some v
theorem Tabs.below {w w' : World} (h : Tabs w) (hx : Ext w w') : Tabs w' :=
  ⟨fun j v hv => by have := h.out j v hv; rw [← this]; exact hx.cell (p := ⟨0, j, none⟩) (cell_lt this),
   fun j v hv => by have := h.big j v hv; rw [← this]; exact hx.cell (p := ⟨1, j, none⟩) (cell_lt this)⟩
theorem load_tab {w : World} (g t : Nat) (l : List Value) (n e : Nat) (hu : Tryz.prog.underlying t = some (.array n e)) (hi : (Tryz.prog.info? t).map (·.size) = some l.length) (h : ∀ j v, l[j]? = some v → w.cell? ⟨g, j, none⟩ = some v) :
    (Instr.loadAt t (.pointer (some ⟨g, 0, none⟩))).run Tryz.prog w = .ok (.agg l.toArray) w := by
  have hl := run_loadCells_list (P := Tryz.prog) w ⟨g, 0, none⟩ l (fun j v hv => by
    have hadd : (⟨g, 0, none⟩ : Addr).add j = ⟨g, j, none⟩ := by unfold Addr.add; split <;> simp_all
    rw [hadd]; exact h j v hv)
  cases hq : Tryz.prog.info? t with
  | none => simp [hq] at hi
  | some i =>
    have hs : i.size = l.length := by simpa [hq] using hi
    have hagg : (isAgg t).run Tryz.prog w = .ok true w := by
      unfold isAgg; rw [Sem.run_bind, run_underlying hu w]; simp
    simp only [Instr.loadAt, Instr.sureAddr, Sem.run_bind, Sem.run_pure, Result.andThen]; simp [loadVar, Sem.run_bind, hagg, sizeOf, typeInfo, hq, hs, hl]
theorem load_out {w : World} (h : Tabs w) : (Instr.loadAt 135 (.pointer (some ⟨0, 0, none⟩))).run Tryz.prog w = .ok (.agg outT.toArray) w :=
  load_tab 0 135 outT 4 134 Tryz.underlying135 (by kernel_rfl) h.out
theorem load_big {w : World} (h : Tabs w) : (Instr.loadAt 138 (.pointer (some ⟨1, 0, none⟩))).run Tryz.prog w = .ok (.agg bigT.toArray) w :=
  load_tab 1 138 bigT 8 137 Tryz.underlying138 (by kernel_rfl) h.big
theorem wpList_load_run {ops : Array Oper} {rest : List Oper} {o : Oper} {a : Act} {w : World} {Q : Exit → Act → World → Prop} (hgd : o.guard = none) (ty : TypeId) (x : Operand) (ho : o.op = .load ty x) (p v : Value)
    (hx : a.eval x = p) (hrun : (Instr.loadAt ty p).run Tryz.prog w = .ok v w) (h : wpList Tryz.prog ops Q rest (a.put o.dst v) w) : wpList Tryz.prog ops Q (o :: rest) a w :=
  wpList_plain hgd fun K hK => by
    unfold Oper.wp execOp; simp only [ho, hx, Sem.run_bind, Sem.run_pure, Result.andThen_ok, hrun]; exact hK _ _ h
set_option maxHeartbeats 400000 in
theorem has_low (f l s r : Int) (w : World) (hb : r < f) : Calls Tryz.prog 130 #[.agg #[R f, R l, R s], R r] w fun e w' => e = .returned (.bool false) ∧ Ext w w' := by
  go_enter Tryz.func130, Tryz.ntmps130; go_wp2; go_ret; exact ⟨by simp, Ext.alloc _ _⟩
set_option maxHeartbeats 400000 in
theorem has_high (f l s r : Int) (w : World) (ha : f ≤ r) (hb : l < r) : Calls Tryz.prog 130 #[.agg #[R f, R l, R s], R r] w fun e w' => e = .returned (.bool false) ∧ Ext w w' := by
  go_enter Tryz.func130, Tryz.ntmps130; go_wp2; go_ret; exact ⟨by simp, Ext.alloc _ _⟩
set_option maxHeartbeats 400000 in
theorem has_one (f l r : Int) (w : World) (h0 : 0 ≤ f) (h1 : l ≤ 100000) (ha : f ≤ r) (hb : r ≤ l) : Calls Tryz.prog 130 #[.agg #[R f, R l, R 1], R r] w fun e w' => e = .returned (.bool true) ∧ Ext w w' := by
  go_enter Tryz.func130, Tryz.ntmps130; go_wp2; go_ret; exact ⟨by simp, Ext.alloc _ _⟩
set_option maxHeartbeats 400000 in
theorem has_two (r : Int) (w : World) (ha : 256 ≤ r) (hb : r ≤ 303) (b : Bool) (h : ((r - 256) % 2 == 0) = b) : Calls Tryz.prog 130 #[.agg #[R 256, R 303, R 2], R r] w fun e w' => e = .returned (.bool b) ∧ Ext w w' := by
  go_enter Tryz.func130, Tryz.ntmps130; go_wp2; go_ret; exact ⟨by simp, Ext.alloc _ _⟩
def hasB (f l s r : Int) : Bool := decide (f ≤ r) && decide (r ≤ l) && ((r - f) % s == 0)
def Row (f l s : Int) : Prop := (0 ≤ f ∧ l ≤ 100000 ∧ s = 1) ∨ (f = 256 ∧ l = 303 ∧ s = 2)
theorem has_any (f l s r : Int) (hrow : Row f l s) (w : World) : Calls Tryz.prog 130 #[.agg #[R f, R l, R s], R r] w fun e w' => e = .returned (.bool (hasB f l s r)) ∧ Ext w w' := by
  unfold hasB; by_cases h1 : f ≤ r
  · by_cases h2 : r ≤ l
    · rcases hrow with ⟨h3, h4, rfl⟩ | ⟨rfl, rfl, rfl⟩
      · have e : (decide (f ≤ r) && decide (r ≤ l) && ((r - f) % 1 == 0)) = true := by simp [h1, h2, Int.emod_one]
        rw [e]; exact has_one f l r w h3 h4 h1 h2
      · have e : (decide ((256 : Int) ≤ r) && decide (r ≤ 303) && ((r - 256) % 2 == 0)) = ((r - 256) % 2 == 0) := by simp [h1, h2]
        rw [e]; exact has_two r w h1 h2 _ rfl
    · have e : (decide (f ≤ r) && decide (r ≤ l) && ((r - f) % s == 0)) = false := by simp [h2]
      rw [e]; exact has_high f l s r w h1 (by omega)
  · have e : (decide (f ≤ r) && decide (r ≤ l) && ((r - f) % s == 0)) = false := by simp [h1]
    rw [e]; exact has_low f l s r w (by omega)
theorem hasB_yes {f l s r : Int} (h : hasB f l s r = true) : f ≤ r ∧ r ≤ l ∧ (r - f) % s = 0 := by
  unfold hasB at h; simp only [Bool.and_eq_true, decide_eq_true_eq, beq_iff_eq] at h; exact ⟨h.1.1, h.1.2, h.2⟩
theorem hasB_no {f l s r : Int} (h : hasB f l s r = false) : ¬ (f ≤ r ∧ r ≤ l ∧ (r - f) % s = 0) := by
  rintro ⟨h1, h2, h3⟩; unfold hasB at h; simp [h1, h2, h3] at h
theorem idx_out0 (w : World) : (Instr.index 135 (.agg outT.toArray) (.int .i64 0)).run Tryz.prog w = .ok (.agg #[R 173, R 173, R 1]) w := by kernel_rfl
theorem idx_out1 (w : World) : (Instr.index 135 (.agg outT.toArray) (.int .i64 1)).run Tryz.prog w = .ok (.agg #[R 8203, R 8205, R 1]) w := by kernel_rfl
theorem idx_out2 (w : World) : (Instr.index 135 (.agg outT.toArray) (.int .i64 2)).run Tryz.prog w = .ok (.agg #[R 8288, R 8288, R 1]) w := by kernel_rfl
theorem idx_out3 (w : World) : (Instr.index 135 (.agg outT.toArray) (.int .i64 3)).run Tryz.prog w = .ok (.agg #[R 65279, R 65279, R 1]) w := by kernel_rfl
def Hit (x : Int × Int × Int) (r : Int) : Prop := x.1 ≤ r ∧ r ≤ x.2.1 ∧ (r - x.1) % x.2.2 = 0
def outL : List (Int × Int × Int) := [(173, 173, 1), (8203, 8205, 1), (8288, 8288, 1), (65279, 65279, 1)]
def OutInv (r : Int) (k : Nat) : Prop := ∀ i, i < k → ¬ Hit (outL.getD i (0, 0, 1)) r
theorem out_zero (r : Int) : OutInv r 0 := fun i hi => absurd hi (by omega)
theorem out_next {r : Int} {k : Nat} (h : ¬ Hit (outL.getD k (0, 0, 1)) r) (hk : OutInv r k) : OutInv r (k + 1) := by
  intro i hi; rcases Nat.lt_or_eq_of_le (Nat.le_of_lt_succ hi) with h' | rfl
  · exact hk i h'
  · exact h
theorem out_end {r : Int} (h : OutInv r 4) : lost r = false := by
  have h0 : ¬ (173 ≤ r ∧ r ≤ 173 ∧ (r - 173) % 1 = 0) := h 0 (by omega); have h1 : ¬ (8203 ≤ r ∧ r ≤ 8205 ∧ (r - 8203) % 1 = 0) := h 1 (by omega); have h2 : ¬ (8288 ≤ r ∧ r ≤ 8288 ∧ (r - 8288) % 1 = 0) := h 2 (by omega); have h3 : ¬ (65279 ≤ r ∧ r ≤ 65279 ∧ (r - 65279) % 1 = 0) := h 3 (by omega); clear h; exact lost_false (by omega)
theorem out_row (r : Int) (j : Nat) (hj : j < 4) : ∃ f l s, (∀ w : World, (Instr.index 135 (.agg outT.toArray) (.int .i64 (j : Int))).run Tryz.prog w = .ok (.agg #[R f, R l, R s]) w) ∧ Row f l s ∧
    (f ≤ r ∧ r ≤ l ∧ (r - f) % s = 0 → OutInv r j → lost r = true) ∧ (¬ (f ≤ r ∧ r ≤ l ∧ (r - f) % s = 0) → OutInv r j → OutInv r (j + 1)) := by
  have hj4 : j = 0 ∨ j = 1 ∨ j = 2 ∨ j = 3 := by omega
  rcases hj4 with rfl | rfl | rfl | rfl
  · exact ⟨173, 173, 1, idx_out0, .inl ⟨by omega, by omega, rfl⟩, fun h _ => (lost_iff r).2 (by omega), fun h k => out_next (k := 0) h k⟩
  · exact ⟨8203, 8205, 1, idx_out1, .inl ⟨by omega, by omega, rfl⟩, fun h _ => (lost_iff r).2 (by omega), fun h k => out_next (k := 1) h k⟩
  · exact ⟨8288, 8288, 1, idx_out2, .inl ⟨by omega, by omega, rfl⟩, fun h _ => (lost_iff r).2 (by omega), fun h k => out_next (k := 2) h k⟩
  · exact ⟨65279, 65279, 1, idx_out3, .inl ⟨by omega, by omega, rfl⟩, fun h _ => (lost_iff r).2 (by omega), fun h k => out_next (k := 3) h k⟩
set_option maxHeartbeats 800000 in
theorem left_any (r : Int) (w : World) (tb : Tabs w) : Calls Tryz.prog 90 #[R r] w fun e w' => e = .returned (.bool (lost r)) ∧ Ext w w' := by
  have hload := load_out tb; have HR := hide (out_row r); have HE : Hid (OutInv r 4 → lost r = false) := out_end; generalize lost r = lo at *; generalize outT.toArray = A at *; go_enter Tryz.func90, Tryz.ntmps90; go_wp2_with (refine wpList_load_run rfl 135 (.global 0) rfl _ _ rfl hload ?_)
  clear hload tb
  go_loopw [6] (fun i wr => ∃ j : Nat, j ≤ 4 ∧ i = .int .i64 j ∧ OutInv r j ∧ Ext w wr) (fun i _ => 4 - (intOf i).toNat)
  case atStart => exact ⟨0, by omega, rfl, out_zero r, Ext.refl _⟩
  case round =>
    obtain ⟨j, hj, rfl, hinv, hxr⟩ := hrel; by_cases hj4 : j < 4
    · obtain ⟨f, l, s, ix, hrow, hit, miss⟩ := unhide HR j hj4; have HH := hide (has_any f l s r hrow); have HI := hide (fun h => hit (hasB_yes h) hinv); have HM := hide (fun h => miss (hasB_no h) hinv); clear hit miss hrow HR HE hinv; go_wp2_with fail
      refine (unhide HH _).mono ?_; rintro e w2 ⟨rfl, hx2⟩; have hx2 : Ext w w2 := (hxr.trans (Ext.alloc _ _)).trans hx2; clear HH ix
      cases hb : hasB f l s r
      · have hno := unhide HM hb; clear hb HM HI; go_wp2; go_roundw
        case rel => exact ⟨j + 1, by omega, by go_num, hno, hx2⟩
        case measure => simp [intOf]; omega
      · have hy := unhide HI hb; clear hb HM HI; go_wp2; go_ret; exact ⟨by rw [hy]; rfl, hx2⟩
    · have hj4 : j = 4 := by omega
      subst hj4; have he := unhide HE hinv; clear HR HE hinv; go_wp2; go_ret; exact ⟨by rw [he]; rfl, hxr⟩
theorem idx_big0 (w : World) : (Instr.index 138 (.agg bigT.toArray) (.int .i64 0)).run Tryz.prog w = .ok (.agg #[R 65, R 90, R 1, R 32]) w := by kernel_rfl
theorem idx_big1 (w : World) : (Instr.index 138 (.agg bigT.toArray) (.int .i64 1)).run Tryz.prog w = .ok (.agg #[R 192, R 214, R 1, R 32]) w := by kernel_rfl
theorem idx_big2 (w : World) : (Instr.index 138 (.agg bigT.toArray) (.int .i64 2)).run Tryz.prog w = .ok (.agg #[R 216, R 222, R 1, R 32]) w := by kernel_rfl
theorem idx_big3 (w : World) : (Instr.index 138 (.agg bigT.toArray) (.int .i64 3)).run Tryz.prog w = .ok (.agg #[R 256, R 303, R 2, R 1]) w := by kernel_rfl
theorem idx_big4 (w : World) : (Instr.index 138 (.agg bigT.toArray) (.int .i64 4)).run Tryz.prog w = .ok (.agg #[R 913, R 929, R 1, R 32]) w := by kernel_rfl
theorem idx_big5 (w : World) : (Instr.index 138 (.agg bigT.toArray) (.int .i64 5)).run Tryz.prog w = .ok (.agg #[R 931, R 937, R 1, R 32]) w := by kernel_rfl
theorem idx_big6 (w : World) : (Instr.index 138 (.agg bigT.toArray) (.int .i64 6)).run Tryz.prog w = .ok (.agg #[R 1024, R 1039, R 1, R 80]) w := by kernel_rfl
theorem idx_big7 (w : World) : (Instr.index 138 (.agg bigT.toArray) (.int .i64 7)).run Tryz.prog w = .ok (.agg #[R 1040, R 1071, R 1, R 32]) w := by kernel_rfl
def bigL : List (Int × Int × Int) := [(65, 90, 1), (192, 214, 1), (216, 222, 1), (256, 303, 2), (913, 929, 1), (931, 937, 1), (1024, 1039, 1), (1040, 1071, 1)]
def BigInv (r : Int) (k : Nat) : Prop := ∀ i, i < k → ¬ Hit (bigL.getD i (0, 0, 1)) r
theorem big_zero (r : Int) : BigInv r 0 := fun i hi => absurd hi (by omega)
theorem big_next {r : Int} {k : Nat} (h : ¬ Hit (bigL.getD k (0, 0, 1)) r) (hk : BigInv r k) : BigInv r (k + 1) := by
  intro i hi; rcases Nat.lt_or_eq_of_le (Nat.le_of_lt_succ hi) with h' | rfl
  · exact hk i h'
  · exact h
theorem big_end {r : Int} (hd : ¬ (r = 12290 ∨ r = 65377)) (h : BigInv r 8) : r = small r := by
  have h0 : ¬ (65 ≤ r ∧ r ≤ 90 ∧ (r - 65) % 1 = 0) := h 0 (by omega); have h1 : ¬ (192 ≤ r ∧ r ≤ 214 ∧ (r - 192) % 1 = 0) := h 1 (by omega); have h2 : ¬ (216 ≤ r ∧ r ≤ 222 ∧ (r - 216) % 1 = 0) := h 2 (by omega); have h3 : ¬ (256 ≤ r ∧ r ≤ 303 ∧ (r - 256) % 2 = 0) := h 3 (by omega); have h4 : ¬ (913 ≤ r ∧ r ≤ 929 ∧ (r - 913) % 1 = 0) := h 4 (by omega); have h5 : ¬ (931 ≤ r ∧ r ≤ 937 ∧ (r - 931) % 1 = 0) := h 5 (by omega); have h6 : ¬ (1024 ≤ r ∧ r ≤ 1039 ∧ (r - 1024) % 1 = 0) := h 6 (by omega); have h7 : ¬ (1040 ≤ r ∧ r ≤ 1071 ∧ (r - 1040) % 1 = 0) := h 7 (by omega); clear h; by_cases he : 256 ≤ r ∧ r ≤ 303
  · rw [small_e he]; clear h0 h1 h2 h4 h5 h6 h7; omega
  · have k0 : ¬ (65 ≤ r ∧ r ≤ 90) := by clear h1 h2 h3 h4 h5 h6 h7; omega
    have k1 : ¬ (192 ≤ r ∧ r ≤ 222 ∧ r ≠ 215) := by clear h0 h3 h4 h5 h6 h7; omega
    have k2 : ¬ (913 ≤ r ∧ r ≤ 937 ∧ r ≠ 930) := by clear h0 h1 h2 h3 h6 h7; omega
    have k3 : ¬ (1040 ≤ r ∧ r ≤ 1071) := by clear h0 h1 h2 h3 h4 h5 h6; omega
    have k4 : ¬ (1024 ≤ r ∧ r ≤ 1039) := by clear h0 h1 h2 h3 h4 h5 h7; omega
    exact (small_s hd (fun h => h.elim k0 fun h => h.elim k1 fun h => h.elim k2 k3) k4 he).symm
theorem big_row (r : Int) (hd : ¬ (r = 12290 ∨ r = 65377)) (j : Nat) (hj : j < 8) : ∃ f l s m, (∀ w : World, (Instr.index 138 (.agg bigT.toArray) (.int .i64 (j : Int))).run Tryz.prog w = .ok (.agg #[R f, R l, R s, R m]) w) ∧ Row f l s ∧
    (f ≤ r ∧ r ≤ l ∧ (r - f) % s = 0 → BigInv r j → small r = r + m ∧ 0 ≤ r + m ∧ r + m ≤ 2000) ∧ (¬ (f ≤ r ∧ r ≤ l ∧ (r - f) % s = 0) → BigInv r j → BigInv r (j + 1)) := by
  have hj8 : j = 0 ∨ j = 1 ∨ j = 2 ∨ j = 3 ∨ j = 4 ∨ j = 5 ∨ j = 6 ∨ j = 7 := by omega
  rcases hj8 with rfl | rfl | rfl | rfl | rfl | rfl | rfl | rfl
  · exact ⟨65, 90, 1, 32, idx_big0, .inl ⟨by omega, by omega, rfl⟩, fun h _ => ⟨small_u (by omega), by omega, by omega⟩, fun h k => big_next (k := 0) h k⟩
  · exact ⟨192, 214, 1, 32, idx_big1, .inl ⟨by omega, by omega, rfl⟩, fun h _ => ⟨small_u (by omega), by omega, by omega⟩, fun h k => big_next (k := 1) h k⟩
  · exact ⟨216, 222, 1, 32, idx_big2, .inl ⟨by omega, by omega, rfl⟩, fun h _ => ⟨small_u (by omega), by omega, by omega⟩, fun h k => big_next (k := 2) h k⟩
  · exact ⟨256, 303, 2, 1, idx_big3, .inr ⟨rfl, rfl, rfl⟩, fun h _ => ⟨by rw [small_e (by omega)]; omega, by omega, by omega⟩, fun h k => big_next (k := 3) h k⟩
  · exact ⟨913, 929, 1, 32, idx_big4, .inl ⟨by omega, by omega, rfl⟩, fun h _ => ⟨small_u (by omega), by omega, by omega⟩, fun h k => big_next (k := 4) h k⟩
  · exact ⟨931, 937, 1, 32, idx_big5, .inl ⟨by omega, by omega, rfl⟩, fun h _ => ⟨small_u (by omega), by omega, by omega⟩, fun h k => big_next (k := 5) h k⟩
  · exact ⟨1024, 1039, 1, 80, idx_big6, .inl ⟨by omega, by omega, rfl⟩, fun h _ => ⟨small_c (by omega), by omega, by omega⟩, fun h k => big_next (k := 6) h k⟩
  · exact ⟨1040, 1071, 1, 32, idx_big7, .inl ⟨by omega, by omega, rfl⟩, fun h _ => ⟨small_u (by omega), by omega, by omega⟩, fun h k => big_next (k := 7) h k⟩
set_option maxHeartbeats 1600000 in
theorem small_any (r : Int) (w : World) (hr : -2147483648 ≤ r ∧ r ≤ 2147483647) (hd : ¬ (r = 12290 ∨ r = 65377)) (tb : Tabs w) : Calls Tryz.prog 91 #[R r] w fun e w' => e = .returned (R (small r)) ∧ Ext w w' := by
  have hload := load_big tb; have HR := hide (big_row r hd); have HE : Hid (BigInv r 8 → r = small r) := big_end hd; generalize small r = sr at *; generalize bigT.toArray = A at *; clear hd; go_enter Tryz.func91, Tryz.ntmps91; go_wp2_with (refine wpList_load_run rfl 138 (.global 1) rfl _ _ rfl hload ?_)
  clear hload tb
  go_loopw [6] (fun i wr => ∃ j : Nat, j ≤ 8 ∧ i = .int .i64 j ∧ BigInv r j ∧ Ext w wr) (fun i _ => 8 - (intOf i).toNat)
  case atStart => exact ⟨0, by omega, rfl, big_zero r, Ext.refl _⟩
  case round =>
    obtain ⟨j, hj, rfl, hinv, hxr⟩ := hrel; by_cases hj8 : j < 8
    · obtain ⟨f, l, s, m, ix, hrow, hit, miss⟩ := unhide HR j hj8; have HH := hide (has_any f l s r hrow); have HI := hide (fun h => hit (hasB_yes h) hinv); have HM := hide (fun h => miss (hasB_no h) hinv); clear hit miss hrow HR HE hinv; go_wp2_with fail
      refine (unhide HH _).mono ?_; rintro e w2 ⟨rfl, hx2⟩; clear HH ix; have cell3 : w2.cell? ⟨wr.heap.size, 3, none⟩ = some (R m) := by
        rw [show w2.cell? ⟨wr.heap.size, 3, none⟩ = (wr.alloc (.cells #[R f, R l, R s, R m] 137)).cell? ⟨wr.heap.size, 3, none⟩ from hx2.cell (p := ⟨wr.heap.size, 3, none⟩) (by show wr.heap.size < (wr.heap.push _).size; simp)]; rw [World.cell?_alloc_mark]; rfl
      have hx2 : Ext w w2 := (hxr.trans (Ext.alloc _ _)).trans hx2
      cases hb : hasB f l s r
      · have hno := unhide HM hb; clear hb HM HI cell3; go_wp2; go_roundw
        case rel => exact ⟨j + 1, by omega, by go_num, hno, hx2⟩
        case measure => simp [intOf]; omega
      · obtain ⟨hy, h1, h2⟩ := unhide HI hb; clear hb HM HI; have h3 : r + m ≤ 2147483647 := by omega
        have h4 : -2147483648 ≤ r + m := by omega
        go_wp2; go_ret; exact ⟨by simp [hy], hx2⟩
    · have hj8 : j = 8 := by omega
      subst hj8; have he := unhide HE hinv; clear HR HE hinv; go_wp2; go_ret; exact ⟨by rw [← he]; rfl, hxr⟩
end Go.Proofs.YtenlampiiodkhaaGreatDoor
namespace Go.Proofs.YtenlampiiodkhaaGreatDoor
set_option linter.unusedVariables false
open Go.RowKit
set_option maxHeartbeats 400000 in
theorem rmap_any (r : Int) (w : World) (hr : -2147483648 ≤ r ∧ r ≤ 2147483647) :
    Calls Tryz.prog 64 #[R r] w fun e w' => e = .returned (.tuple #[R (mpo r), .bool (mpk r)]) ∧ w' = w := by
  by_cases hw : 65281 ≤ r ∧ r ≤ 65374
  · obtain ⟨m1, m2, m3⟩ := mp_wide hw; have HN := hide (rmap_narrow (r - 65248) w (by omega) (by omega)); rw [m3] at HN; rw [m1, m2]; clear m1 m2 m3; generalize mpo (r - 65248) = v at *; obtain ⟨h1, h2⟩ := hw; have n173 : (r == 173) = false := beq_eq_false_iff_ne.2 (by omega); have n8288 : (r == 8288) = false := beq_eq_false_iff_ne.2 (by omega); have n65279 : (r == 65279) = false := beq_eq_false_iff_ne.2 (by omega); go_enter Tryz.func64, Tryz.ntmps64; go_wp2_with fail
    refine (unhide HN).mono ?_; rintro e w' ⟨rfl, rfl⟩; clear HN; go_wp2; go_ret2; exact ⟨by simp, rfl⟩
  · exact rmap_narrow r w hr hw
theorem fgetD_range {rs : List Int} (hr : ∀ r ∈ rs, -2147483648 ≤ r ∧ r ≤ 2147483647) (k : Nat) (h : k < rs.length) : -2147483648 ≤ rs.getD k 0 ∧ rs.getD k 0 ≤ 2147483647 := by
  have : rs.getD k 0 = rs[k] := by simp [List.getD, h]
  rw [this]; exact hr _ (List.getElem_mem h)
set_option maxHeartbeats 400000 in
theorem rtext_own (ao : Option Addr) (l cap : Nat) (rs : List Int) (w : World) (hl : rs.length = l) (hm : l ≤ 1000000) (hr : ∀ r ∈ rs, -2147483648 ≤ r ∧ r ≤ 2147483647) (h : RdV w ao cap (rs.map R)) :
    Calls Tryz.prog 33 #[.slice ao l cap] w fun e w' => ∃ v, e = .returned v ∧ w'.ownsRow w.heap.size 21 1 v (txt rs).length ((txt rs).map R) ∧ Below w.heap.size w w' := by
  subst hl; have hle := h.le; have hmx := h.max; simp only [List.length_map] at hle; go_enter Tryz.func33, Tryz.ntmps33; go_wp2
  go_loopw [3, 4] (fun o i wr => ∃ k : Nat, k ≤ rs.length ∧ i = .int .i64 k ∧ wr.ownsRow w.heap.size 21 1 o (txt (rs.take k)).length ((txt (rs.take k)).map R) ∧ Below w.heap.size w wr) (fun _ i _ => rs.length - (intOf i).toNat)
  case atStart => exact ⟨0, by omega, rfl, World.ownsRow_nil _ _ _ _, Below.refl _ _⟩
  case round =>
    obtain ⟨k, hk, rfl, ownr, hbr⟩ := hrel; by_cases hkl : k < rs.length
    · obtain ⟨b, off, rfl, hc⟩ := h.cells (by simp; omega); have c0 : wr.cell? ⟨b, off + k, none⟩ = some (R (rs.getD k 0)) := by
        have := hc k (by simpa using hkl); rw [getR rs k hkl] at this; rw [← this]; exact hbr.cell (p := ⟨b, off + k, none⟩) (cell_lt this)
      clear hc; have HM := hide (rmap_any (rs.getD k 0) wr (fgetD_range hr k hkl)); have HT := hide (take_snoc rs k 0 hkl); have HL := hide (txt_len (rs.take k)); generalize rs.getD k 0 = x at *; have key : ∀ (v' : Value) (w' : World), w'.ownsRow w.heap.size 21 1 v' ((txt (rs.take k)).length + (if mpk x then [mpo x] else []).length) ((txt (rs.take k)).map R ++ (if mpk x then [mpo x] else []).map R) → Below w.heap.size w w' →
          ((∃ (k' : Nat), k' ≤ rs.length ∧ Value.int .i64 ((k : Int) + 1) = .int .i64 k' ∧ w'.ownsRow w.heap.size 21 1 v' (txt (rs.take k')).length ((txt (rs.take k')).map R) ∧ Below w.heap.size w w') ∧ rs.length - ((k : Int) + 1).toNat < rs.length - k) := by
        intro v' w' ho hb'; refine ⟨⟨k + 1, by omega, by simp, ?_, hb'⟩, by omega⟩; rw [unhide HT, txt_snoc, List.length_append, List.map_append]; exact ho
      have KEY := hide key; clear key HT; have hlen := unhide HL; rw [List.length_take, Nat.min_eq_left hk] at hlen; clear HL; generalize txt (rs.take k) = out at *; go_wp2_with fail
      refine (unhide HM).mono ?_; rintro e wz ⟨rfl, hwz⟩; subst hwz; clear HM; generalize mpo x = y at *
      cases hp : mpk x
      · rw [hp] at KEY; have kk := unhide KEY _ wz (by simpa using ownr) hbr; clear KEY ownr hbr; go_wp2; exact kk
      · rw [hp] at KEY; have RL := RdV.lit wz [R y] 21 (0, 0) (by simp); have own2 := owns_below ownr (Ext.alloc wz (.cells #[R y] 21 (0, 0))); have hb2 : Below w.heap.size w (wz.alloc (.cells #[R y] 21 (0, 0))) := hbr.trans (Below.mono (Ext.alloc wz _) hbr.size); have hbase2 := hb2.size; have hone : ∀ u ∈ [R y], u.oneCell' = true := by simp [R, Value.oneCell']
        clear ownr hbr; go_wp2_with (at_builtin; refine wpList_app rfl (.tmp 22) (.tmp 24) 45 21 (.int .i32 0) 4 Tryz.underlying45 infoR rfl rfl w.heap.size _ _ _ rfl own2 _ _ _ [R y] rfl rfl RL hone (by omega) hbase2 ?_)
        intro v2 w2 o2 b2; clear own2 RL hone; have kk := unhide KEY v2 w2 (by simpa using o2) (hb2.trans b2); go_wp2; exact kk
    · have e : rs.take k = rs := List.take_of_length_le (by omega); rw [e] at ownr; go_wp2; go_ret; exact ⟨_, rfl, ownr, hbr⟩
theorem rtext_any (ao : Option Addr) (l cap : Nat) (rs : List Int) (w : World) (hl : rs.length = l) (hm : l ≤ 1000000) (hr : ∀ r ∈ rs, -2147483648 ≤ r ∧ r ≤ 2147483647) (h : RdV w ao cap (rs.map R)) :
    Calls Tryz.prog 33 #[.slice ao l cap] w (Gives w ((txt rs).map R)) :=
  (rtext_own ao l cap rs w hl hm hr h).mono fun e w' ⟨v, he, h1, h2⟩ => by subst he; exact gives_of_owned h1 h2
end Go.Proofs.YtenlampiiodkhaaGreatDoor
namespace Go.Proofs.YtenlampiiodkhaaGreatDoor
set_option linter.unusedVariables false
open Go.RowKit
set_option maxHeartbeats 800000 in
theorem map_narrow (r : Int) (w : World) (hr : -2147483648 ≤ r ∧ r ≤ 2147483647) (hw : ¬ (65281 ≤ r ∧ r ≤ 65374)) (tb : Tabs w) :
    Calls Tryz.prog 55 #[R r] w fun e w' => e = .returned (.tuple #[R (mpo r), .bool (mpk r)]) ∧ Ext w w' := by
  have HL := hide (left_any r w tb); by_cases hlo : Lost r
  · obtain ⟨m1, m2⟩ := mp_lost hlo; rw [(lost_iff r).2 hlo] at HL; rw [m1, m2]; clear m1 m2 tb; go_enter Tryz.func55, Tryz.ntmps55; go_wp2_with fail
    refine (unhide HL).mono ?_; rintro e w1 ⟨rfl, hx1⟩; clear HL; go_wp2; go_ret2; exact ⟨by simp, hx1⟩
  · rw [lost_false hlo] at HL; by_cases hd : r = 12290 ∨ r = 65377
    · obtain ⟨m1, m2⟩ := mp_is hw hlo (small_d hd); rw [m1, m2]; clear m1 m2 tb hlo; rcases hd with rfl | rfl
      · go_enter Tryz.func55, Tryz.ntmps55; go_wp2_with fail
        refine (unhide HL).mono ?_; rintro e w1 ⟨rfl, hx1⟩; clear HL; go_wp2; go_ret2; exact ⟨by simp, hx1⟩
      · go_enter Tryz.func55, Tryz.ntmps55; go_wp2_with fail
        refine (unhide HL).mono ?_; rintro e w1 ⟨rfl, hx1⟩; clear HL; go_wp2; go_ret2; exact ⟨by simp, hx1⟩
    · obtain ⟨m1, m2⟩ := mp_is hw hlo (rfl : small r = small r); rw [m1, m2]; clear m1 m2 hlo; have HS := hide (fun w tb => small_any r w hr hd tb); have TB := hide (fun w' hx => tb.below (w' := w') hx); clear tb; generalize small r = y at *; have n12290 : (r == 12290) = false := beq_eq_false_iff_ne.2 (by omega); have n65377 : (r == 65377) = false := beq_eq_false_iff_ne.2 (by omega); by_cases h1 : 65281 ≤ r
      · have h2 : ¬ r ≤ 65374 := by omega
        clear hw hd; go_enter Tryz.func55, Tryz.ntmps55; go_wp2_with fail
        refine (unhide HL).mono ?_; rintro e w1 ⟨rfl, hx1⟩; clear HL; go_wp2_with fail
        refine (unhide HS w1 (unhide TB w1 hx1)).mono ?_; rintro e w2 ⟨rfl, hx2⟩; go_wp2; go_ret2; exact ⟨by simp, hx1.trans hx2⟩
      · clear hw hd; go_enter Tryz.func55, Tryz.ntmps55; go_wp2_with fail
        refine (unhide HL).mono ?_; rintro e w1 ⟨rfl, hx1⟩; clear HL; go_wp2_with fail
        refine (unhide HS w1 (unhide TB w1 hx1)).mono ?_; rintro e w2 ⟨rfl, hx2⟩; go_wp2; go_ret2; exact ⟨by simp, hx1.trans hx2⟩
set_option maxHeartbeats 800000 in
theorem map_any (r : Int) (w : World) (hr : -2147483648 ≤ r ∧ r ≤ 2147483647) (tb : Tabs w) :
    Calls Tryz.prog 55 #[R r] w fun e w' => e = .returned (.tuple #[R (mpo r), .bool (mpk r)]) ∧ Ext w w' := by
  by_cases hw : 65281 ≤ r ∧ r ≤ 65374
  · obtain ⟨m1, m2, m3⟩ := mp_wide hw; have HL := hide (left_any r w tb); rw [lost_false (by omega)] at HL; have HN := hide (fun w tb => map_narrow (r - 65248) w (by omega) (by omega) tb); have TB := hide (fun w' hx => tb.below (w' := w') hx); clear tb; rw [m3] at HN; rw [m1, m2]; clear m1 m2 m3; generalize mpo (r - 65248) = v at *; obtain ⟨h1, h2⟩ := hw; go_enter Tryz.func55, Tryz.ntmps55; go_wp2_with fail
    refine (unhide HL).mono ?_; rintro e w1 ⟨rfl, hx1⟩; clear HL; go_wp2_with fail
    refine (unhide HN w1 (unhide TB w1 hx1)).mono ?_; rintro e w2 ⟨rfl, hx2⟩; clear HN TB; go_wp2; go_ret2; exact ⟨by simp, hx1.trans hx2⟩
  · exact map_narrow r w hr hw tb
theorem make_runes (w : World) (base c : Nat) (hc : c ≤ 100000000) (hbase : base ≤ w.heap.size) :
    ∃ w', (Instr.makeSlice 45 (.int .i64 0) (.int .i64 (c : Int))).run Tryz.prog w = .ok (.slice (some ⟨w.heap.size, 0, none⟩) 0 c) w' ∧
      w'.ownsRow base 21 1 (.slice (some ⟨w.heap.size, 0, none⟩) 0 c) 0 [] ∧ Ext w w' := by
  obtain ⟨i0, hi, hz0, hz1, hz2⟩ := info_parts infoR; obtain ⟨w', h1, h2, h3⟩ := run_make_own (P := Tryz.prog) w base 45 21 i0 (.int .i32 0) 1 Tryz.underlying45 hi hz0 hz1 .i64 .i64 c (by rw [hz2]; omega) (by unfold maxLen; omega) hbase; exact ⟨w', h1, h2, (Below.refl _ _).grown h3 (Nat.le_refl _) (fun t ht => by cases ht)⟩
set_option maxHeartbeats 800000 in
theorem text_own (ao : Option Addr) (l cap : Nat) (rs : List Int) (w : World) (hl : rs.length = l) (hm : l ≤ 1000000) (hr : ∀ r ∈ rs, -2147483648 ≤ r ∧ r ≤ 2147483647) (h : RdV w ao cap (rs.map R)) (tb : Tabs w) :
    Calls Tryz.prog 24 #[.slice ao l cap] w fun e w' => ∃ v, e = .returned v ∧ w'.ownsRow w.heap.size 21 1 v (txt rs).length ((txt rs).map R) ∧ Below w.heap.size w w' := by
  subst hl; have hle := h.le; have hmx := h.max; simp only [List.length_map] at hle; obtain ⟨w0, hmk, own, hx0⟩ := make_runes w w.heap.size rs.length (by omega) (Nat.le_refl _); have TB := hide (fun (w' : World) (hx : Below w.heap.size w w') => tb.below hx); clear tb; go_enter Tryz.func24, Tryz.ntmps24; go_wp2; clear hmk
  go_loopw [3, 13] (fun o i wr => ∃ k : Nat, k ≤ rs.length ∧ i = .int .i64 k ∧ wr.ownsRow w.heap.size 21 1 o (txt (rs.take k)).length ((txt (rs.take k)).map R) ∧ Below w.heap.size w wr) (fun _ i _ => rs.length - (intOf i).toNat)
  case atStart => exact ⟨0, by omega, rfl, by simpa [txt] using own, hx0⟩
  case round =>
    obtain ⟨k, hk, rfl, ownr, hbr⟩ := hrel; clear own hx0; by_cases hkl : k < rs.length
    · obtain ⟨b, off, rfl, hc⟩ := h.cells (by simp; omega); have c0 : wr.cell? ⟨b, off + k, none⟩ = some (R (rs.getD k 0)) := by
        have := hc k (by simpa using hkl); rw [getR rs k hkl] at this; rw [← this]; exact hbr.cell (p := ⟨b, off + k, none⟩) (cell_lt this)
      clear hc; have HM := hide (map_any (rs.getD k 0) wr (fgetD_range hr k hkl) (unhide TB wr hbr)); have HT := hide (take_snoc rs k 0 hkl); have HL := hide (txt_len (rs.take k)); generalize rs.getD k 0 = x at *; have key : ∀ (v' : Value) (w' : World), w'.ownsRow w.heap.size 21 1 v' ((txt (rs.take k)).length + (if mpk x then [mpo x] else []).length) ((txt (rs.take k)).map R ++ (if mpk x then [mpo x] else []).map R) → Below w.heap.size w w' →
          ((∃ (k' : Nat), k' ≤ rs.length ∧ Value.int .i64 ((k : Int) + 1) = .int .i64 k' ∧ w'.ownsRow w.heap.size 21 1 v' (txt (rs.take k')).length ((txt (rs.take k')).map R) ∧ Below w.heap.size w w') ∧ rs.length - ((k : Int) + 1).toNat < rs.length - k) := by
        intro v' w' ho hb'; refine ⟨⟨k + 1, by omega, by simp, ?_, hb'⟩, by omega⟩; rw [unhide HT, txt_snoc, List.length_append, List.map_append]; exact ho
      have KEY := hide key; clear key HT; have hlen := unhide HL; rw [List.length_take, Nat.min_eq_left hk] at hlen; clear HL TB; generalize txt (rs.take k) = out at *; go_wp2_with fail
      refine (unhide HM).mono ?_; rintro e wz ⟨rfl, hxz⟩; have ownr := owns_below ownr hxz; have hbr : Below w.heap.size w wz := hbr.trans (Below.mono hxz hbr.size); clear HM; generalize mpo x = y at *
      cases hp : mpk x
      · rw [hp] at KEY; have kk := unhide KEY _ wz (by simpa using ownr) hbr; clear KEY ownr hbr; go_wp2; exact kk
      · rw [hp] at KEY; have RL := RdV.lit wz [R y] 21 (0, 0) (by simp); have own2 := owns_below ownr (Ext.alloc wz (.cells #[R y] 21 (0, 0))); have hb2 : Below w.heap.size w (wz.alloc (.cells #[R y] 21 (0, 0))) := hbr.trans (Below.mono (Ext.alloc wz _) hbr.size); have hbase2 := hb2.size; have hone : ∀ u ∈ [R y], u.oneCell' = true := by simp [R, Value.oneCell']
        clear ownr hbr; go_wp2_with (at_builtin; refine wpList_app rfl (.tmp 23) (.tmp 25) 45 21 (.int .i32 0) 4 Tryz.underlying45 infoR rfl rfl w.heap.size _ _ _ rfl own2 _ _ _ [R y] rfl rfl RL hone (by omega) hbase2 ?_)
        intro v2 w2 o2 b2; clear own2 RL hone; have kk := unhide KEY v2 w2 (by simpa using o2) (hb2.trans b2); go_wp2; exact kk
    · have e : rs.take k = rs := List.take_of_length_le (by omega); rw [e] at ownr; go_wp2; go_ret; exact ⟨_, rfl, ownr, hbr⟩
theorem text_any (ao : Option Addr) (l cap : Nat) (rs : List Int) (w : World) (hl : rs.length = l) (hm : l ≤ 1000000) (hr : ∀ r ∈ rs, -2147483648 ≤ r ∧ r ≤ 2147483647) (h : RdV w ao cap (rs.map R)) (tb : Tabs w) :
    Calls Tryz.prog 24 #[.slice ao l cap] w (Gives w ((txt rs).map R)) :=
  (text_own ao l cap rs w hl hm hr h tb).mono fun e w' ⟨v, he, h1, h2⟩ => by subst he; exact gives_of_owned h1 h2
end Go.Proofs.YtenlampiiodkhaaGreatDoor
