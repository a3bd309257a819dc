/-
  What the document's own Map and Text tell.
-/
import Derived.Test.YtgnkhfmpooomkaaDoorFoldP
namespace Go.Proofs.YtgnkhfmpooomkaaDoor
set_option linter.unusedVariables false
open Go.RowKit

theorem bor : ∀ k : Fin 48, bits .or .i32 (256 + (k.val : Int)) 1 = 256 + (k.val : Int) + (1 - (256 + (k.val : Int)) % 2) := by decide +kernel
theorem or_one (r : Int) (h : 256 ≤ r ∧ r ≤ 303) : bits .or .i32 r 1 = r + (1 - r % 2) := by
  have := bor ⟨(r - 256).toNat, by omega⟩
  simp only at this
  rw [show (256 : Int) + ((r - 256).toNat : Int) = r by omega] at this
  exact this

theorem wide_no {r : Int} (h : ¬ (65281 ≤ r ∧ r ≤ 65374)) : wide r = r := by unfold wide; rw [if_neg h]
theorem mp_lost {r : Int} (h : Lost r) : mpo r = 0 ∧ mpk r = false := by
  have e := (lost_iff r).2 h
  exact ⟨by unfold mpo; rw [if_pos e], by unfold mpk; rw [e, Bool.not_true]⟩
theorem mp_is {r v : Int} (hw : ¬ (65281 ≤ r ∧ r ≤ 65374)) (hn : ¬ Lost r) (h : small r = v) : mpo r = v ∧ mpk r = true :=
  ⟨by rw [mpo_of (lost_false hn), wide_no hw]; exact h, mpk_of (lost_false hn)⟩
theorem mp_wide {r : Int} (hw : 65281 ≤ r ∧ r ≤ 65374) : mpo r = mpo (r - 65248) ∧ mpk r = true ∧ mpk (r - 65248) = true := by
  have h1 : ¬ Lost r := by unfold Lost; omega
  have h2 : ¬ Lost (r - 65248) := by unfold Lost; omega
  refine ⟨?_, mpk_of (lost_false h1), mpk_of (lost_false h2)⟩
  rw [mpo_of (lost_false h1), mpo_of (lost_false h2), wide_no (r := r - 65248) (by omega)]
  congr 1
  unfold wide
  rw [if_pos hw]

theorem small_u {r : Int} (h : (65 ≤ r ∧ r ≤ 90) ∨ (192 ≤ r ∧ r ≤ 222 ∧ r ≠ 215) ∨ (913 ≤ r ∧ r ≤ 937 ∧ r ≠ 930) ∨ (1040 ≤ r ∧ r ≤ 1071)) : small r = r + 32 := by unfold small; rw [if_neg (by omega), if_pos h]
theorem small_c {r : Int} (h : 1024 ≤ r ∧ r ≤ 1039) : small r = r + 80 := by unfold small; rw [if_neg (by omega), if_neg (by omega), if_pos h]
theorem small_e {r : Int} (h : 256 ≤ r ∧ r ≤ 303) : small r = r + (1 - r % 2) := by unfold small; rw [if_neg (by omega), if_neg (by omega), if_neg (by omega), if_pos h]
theorem small_d {r : Int} (h : r = 12290 ∨ r = 65377) : small r = 46 := by unfold small; rw [if_pos h]
theorem small_s {r : Int} (h0 : ¬ (r = 12290 ∨ r = 65377)) (h1 : ¬ ((65 ≤ r ∧ r ≤ 90) ∨ (192 ≤ r ∧ r ≤ 222 ∧ r ≠ 215) ∨ (913 ≤ r ∧ r ≤ 937 ∧ r ≠ 930) ∨ (1040 ≤ r ∧ r ≤ 1071))) (h2 : ¬ (1024 ≤ r ∧ r ≤ 1039)) (h3 : ¬ (256 ≤ r ∧ r ≤ 303)) : small r = r := by unfold small; rw [if_neg h0, if_neg h1, if_neg h2, if_neg h3]

/-- Where a code point that is not wide may lie. -/
theorem lies (r : Int) (hw : ¬ (65281 ≤ r ∧ r ≤ 65374)) : r ≤ 64 ∨ (65 ≤ r ∧ r ≤ 90) ∨ (91 ≤ r ∧ r ≤ 172) ∨ r = 173 ∨ (174 ≤ r ∧ r ≤ 191) ∨ (192 ≤ r ∧ r ≤ 214) ∨ r = 215 ∨ (216 ≤ r ∧ r ≤ 222) ∨ (223 ≤ r ∧ r ≤ 255) ∨ (256 ≤ r ∧ r ≤ 303) ∨ (304 ≤ r ∧ r ≤ 912) ∨ (913 ≤ r ∧ r ≤ 929) ∨ r = 930 ∨ (931 ≤ r ∧ r ≤ 937) ∨ (938 ≤ r ∧ r ≤ 1023) ∨ (1024 ≤ r ∧ r ≤ 1039) ∨ (1040 ≤ r ∧ r ≤ 1071) ∨ (1072 ≤ r ∧ r ≤ 8202) ∨ (8203 ≤ r ∧ r ≤ 8205) ∨ (8206 ≤ r ∧ r ≤ 8287) ∨ r = 8288 ∨ (8289 ≤ r ∧ r ≤ 12289) ∨ r = 12290 ∨ (12291 ≤ r ∧ r ≤ 65278) ∨ r = 65279 ∨ r = 65280 ∨ (65375 ≤ r ∧ r ≤ 65376) ∨ r = 65377 ∨ 65378 ≤ r := by omega

end Go.Proofs.YtgnkhfmpooomkaaDoor
