/-
  I6R.
-/
import Derived.Test.YtenlampiiodkhaaGreatDoorBKc
namespace Go.Proofs.YtenlampiiodkhaaGreatDoor
set_option linter.unusedVariables false
open Go.RowKit
abbrev U (v : Nat) : Value := .int .u16 (v : Int)
theorem runB_end {bs : List Bool} {j : Nat} (h : bs.length ≤ j) : runB (bs.drop j) = 0 := by
  rw [List.drop_of_length_le h]; rfl
theorem drop_at {bs : List Bool} {j : Nat} (h : j < bs.length) : bs.drop j = bs.getD j false :: bs.drop (j + 1) := by
  rw [List.drop_eq_getElem_cons h]; simp [List.getD, h]
theorem runB_yes {bs : List Bool} {j : Nat} (h : j < bs.length) (hb : bs.getD j false = true) : runB (bs.drop j) = runB (bs.drop (j + 1)) + 1 := by
  rw [drop_at h, hb]; rfl
theorem runB_no {bs : List Bool} {j : Nat} (h : j < bs.length) (hb : bs.getD j false = false) : runB (bs.drop j) = 0 := by
  rw [drop_at h, hb]; rfl
theorem zb_at {a : List Nat} {j : Nat} (h : j < a.length) : (zb a).getD j false = (a.getD j 0 == 0) := by
  unfold zb; simp [List.getD, h]
theorem zb_len (a : List Nat) : (zb a).length = a.length := by
  unfold zb; rw [List.length_map]
theorem box8 (w : World) (a0 a1 a2 a3 a4 a5 a6 a7 : Nat) (t : TypeId) (i : Nat) (hi : i < 8) : (w.alloc (.cells #[U a0, U a1, U a2, U a3, U a4, U a5, U a6, U a7] t)).cell? ⟨w.heap.size, i, none⟩ = some (U ([a0, a1, a2, a3, a4, a5, a6, a7].getD i 0)) := by
  have e : i = 0 ∨ i = 1 ∨ i = 2 ∨ i = 3 ∨ i = 4 ∨ i = 5 ∨ i = 6 ∨ i = 7 := by omega
  rcases e with rfl | rfl | rfl | rfl | rfl | rfl | rfl | rfl <;> (rw [World.cell?_alloc_mark]; rfl)
theorem prow_end (bs : List Bool) (f i fr to : Nat) (h : ¬ i < 8) : prow bs f i fr to = (fr, to) := by
  cases f with
  | zero => rfl
  | succ f => rw [prow, if_neg h]
theorem prow_yes (bs : List Bool) (f i fr to z : Nat) (h : i < 8) (hz : z = runB (bs.drop i)) (h2 : 2 ≤ z) (h3 : to - fr < z) : prow bs (f + 1) i fr to = prow bs f (i + z + 1) i (i + z) := by
  rw [prow, if_pos h, ← hz, if_pos ⟨h2, h3⟩]
theorem prow_no (bs : List Bool) (f i fr to z : Nat) (h : i < 8) (hz : z = runB (bs.drop i)) (h2 : ¬ (2 ≤ z ∧ to - fr < z)) : prow bs (f + 1) i fr to = prow bs f (i + z + 1) fr to := by
  rw [prow, if_pos h, ← hz, if_neg h2]
set_option maxHeartbeats 2000000 in
set_option maxRecDepth 100000 in
theorem longest_any (a0 a1 a2 a3 a4 a5 a6 a7 : Nat) (w : World) : Calls Tryz.prog 128 #[.agg #[U a0, U a1, U a2, U a3, U a4, U a5, U a6, U a7]] w fun e w' =>
    e = .returned (.tuple #[.int .i64 ((rowOf (zb [a0, a1, a2, a3, a4, a5, a6, a7])).1 : Int), .int .i64 ((rowOf (zb [a0, a1, a2, a3, a4, a5, a6, a7])).2 : Int)]) ∧ Ext w w' := by
  have fin : ∀ fr to : Nat, (fr, to) = rowOf (zb [a0, a1, a2, a3, a4, a5, a6, a7]) → Ending.returned (.tuple #[.int .i64 (fr : Int), .int .i64 (to : Int)]) = .returned (.tuple #[.int .i64 ((rowOf (zb [a0, a1, a2, a3, a4, a5, a6, a7])).1 : Int), .int .i64 ((rowOf (zb [a0, a1, a2, a3, a4, a5, a6, a7])).2 : Int)]) := fun fr to h => by rw [← h]
  have FIN := hide fin; clear fin; have HB := hide (fun (t : TypeId) (i : Nat) (hi : i < 8) => box8 w a0 a1 a2 a3 a4 a5 a6 a7 t i hi); have HZ : Hid (∀ j, j < 8 → (zb [a0, a1, a2, a3, a4, a5, a6, a7]).getD j false = ([a0, a1, a2, a3, a4, a5, a6, a7].getD j 0 == 0)) := fun j hj => zb_at hj; have HL : Hid ((zb [a0, a1, a2, a3, a4, a5, a6, a7]).length = 8) := zb_len _; have ST : Hid (prow (zb [a0, a1, a2, a3, a4, a5, a6, a7]) 9 0 8 8 = rowOf (zb [a0, a1, a2, a3, a4, a5, a6, a7])) := rfl; generalize zb [a0, a1, a2, a3, a4, a5, a6, a7] = bs at *; have hx : Ext w (w.alloc (.cells #[U a0, U a1, U a2, U a3, U a4, U a5, U a6, U a7] 36)) := Ext.alloc _ _; have HC := hide (unhide HB 36); clear HB; go_enter Tryz.func128, Tryz.ntmps128; go_wp2_with fail
  generalize w.alloc (.cells #[U a0, U a1, U a2, U a3, U a4, U a5, U a6, U a7] 36) = w1 at *; generalize [a0, a1, a2, a3, a4, a5, a6, a7] = a at *
  go_loopw [2, 3, 4] (fun fr to i wr => ∃ f i' fr' to' : Nat, i = .int .i64 i' ∧ fr = .int .i64 fr' ∧ to = .int .i64 to' ∧ i' ≤ 9 ∧ 9 ≤ f + i' ∧ fr' ≤ to' ∧ to' ≤ 8 ∧ Hid (prow bs f i' fr' to' = rowOf bs) ∧ wr = w1) (fun _ _ i _ => 9 - (intOf i).toNat)
  case atStart => exact ⟨9, 0, 8, 8, rfl, rfl, rfl, by omega, by omega, by omega, by omega, ST, rfl⟩
  case round =>
    obtain ⟨f, i, fr, to, rfl, rfl, rfl, hi, hf, hft, ht8, HP, rfl⟩ := hrel; clear ST; by_cases hi8 : i < 8
    · obtain ⟨f, rfl⟩ : ∃ f', f = f' + 1 := ⟨f - 1, by omega⟩; have hi8' : (i : Int) < 8 := by omega
      go_wp2_with fail
      go_loopw [4] (fun j wr' => ∃ j' : Nat, j = .int .i64 j' ∧ i ≤ j' ∧ j' ≤ 8 ∧ Hid (runB (bs.drop i) = (j' - i) + runB (bs.drop j')) ∧ wr' = wr) (fun j _ => 8 - (intOf j).toNat)
      case atStart => exact ⟨i, rfl, Nat.le_refl _, by omega, hide (by omega), rfl⟩
      case round =>
        obtain ⟨j, rfl, hij, hj8, HJ, hw⟩ := hrel; subst hw; by_cases hj : j < 8
        · have hj' : (j : Int) < 8 := by omega
          have c0 := unhide HC j hj; have hz := unhide HZ j hj; generalize a.getD j 0 = x at *; by_cases hx0 : x = 0
          · have hxb : ((x : Int) == 0) = true := by simpa using hx0
            have HJ2 : Hid (runB (bs.drop i) = (j + 1 - i) + runB (bs.drop (j + 1))) := by
              show _ = _; have h1 := runB_yes (bs := bs) (j := j) (by rw [unhide HL]; exact hj) (by rw [hz, hx0]; rfl); have h2 := unhide HJ; omega
            clear HJ hz hx0; go_wp2; exact ⟨⟨j + 1, by simp, by omega, by omega, HJ2, by first | rfl | trivial⟩, by simp [intOf]; omega⟩
          · have hxb : ((x : Int) == 0) = false := by
              rw [beq_eq_false_iff_ne]; omega
            have hrun : runB (bs.drop j) = 0 := runB_no (by rw [unhide HL]; exact hj) (by rw [hz]; simpa using hx0); have hz2 : runB (bs.drop i) = j - i := by
              have h2 := unhide HJ; omega
            clear hrun hz hx0; by_cases hq : 2 ≤ j - i ∧ to - fr < j - i
            · have HP2 := hide ((prow_yes bs f i fr to (j - i) hi8 hz2.symm hq.1 hq.2).symm.trans (unhide HP)); rw [show i + (j - i) + 1 = j + 1 by omega, show i + (j - i) = j by omega] at HP2; have q1 : (2 : Int) ≤ (j : Int) - (i : Int) := by omega
              have q2 : (to : Int) - (fr : Int) < (j : Int) - (i : Int) := by omega
              clear HJ HP HL HZ hz2 HC; go_wp2; exact ⟨⟨f, j + 1, i, j, by simp, rfl, rfl, by omega, by omega, by omega, by omega, HP2, by first | rfl | trivial⟩, by simp [intOf]; omega⟩
            · have HP2 := hide ((prow_no bs f i fr to (j - i) hi8 hz2.symm hq).symm.trans (unhide HP)); rw [show i + (j - i) + 1 = j + 1 by omega] at HP2; clear HJ HP HL HZ hz2 HC; by_cases q1 : (2 : Int) ≤ (j : Int) - (i : Int)
              · have q2 : ¬ (to : Int) - (fr : Int) < (j : Int) - (i : Int) := by omega
                go_wp2; exact ⟨⟨f, j + 1, fr, to, by simp, rfl, rfl, by omega, by omega, by omega, by omega, HP2, by first | rfl | trivial⟩, by simp [intOf]; omega⟩
              · go_wp2; exact ⟨⟨f, j + 1, fr, to, by simp, rfl, rfl, by omega, by omega, by omega, by omega, HP2, by first | rfl | trivial⟩, by simp [intOf]; omega⟩
        · have hj' : ¬ (j : Int) < 8 := by omega
          have hz2 : runB (bs.drop i) = j - i := by
            have h2 := unhide HJ; have h3 := runB_end (bs := bs) (j := j) (by rw [unhide HL]; omega); omega
          by_cases hq : 2 ≤ j - i ∧ to - fr < j - i
          · have HP2 := hide ((prow_yes bs f i fr to (j - i) hi8 hz2.symm hq.1 hq.2).symm.trans (unhide HP)); rw [show i + (j - i) + 1 = j + 1 by omega, show i + (j - i) = j by omega] at HP2; have q1 : (2 : Int) ≤ (j : Int) - (i : Int) := by omega
            have q2 : (to : Int) - (fr : Int) < (j : Int) - (i : Int) := by omega
            clear HJ HP HL HZ hz2 HC; go_wp2; exact ⟨⟨f, j + 1, i, j, by simp, rfl, rfl, by omega, by omega, by omega, by omega, HP2, by first | rfl | trivial⟩, by simp [intOf]; omega⟩
          · have HP2 := hide ((prow_no bs f i fr to (j - i) hi8 hz2.symm hq).symm.trans (unhide HP)); rw [show i + (j - i) + 1 = j + 1 by omega] at HP2; clear HJ HP HL HZ hz2 HC; by_cases q1 : (2 : Int) ≤ (j : Int) - (i : Int)
            · have q2 : ¬ (to : Int) - (fr : Int) < (j : Int) - (i : Int) := by omega
              go_wp2; exact ⟨⟨f, j + 1, fr, to, by simp, rfl, rfl, by omega, by omega, by omega, by omega, HP2, by first | rfl | trivial⟩, by simp [intOf]; omega⟩
            · go_wp2; exact ⟨⟨f, j + 1, fr, to, by simp, rfl, rfl, by omega, by omega, by omega, by omega, HP2, by first | rfl | trivial⟩, by simp [intOf]; omega⟩
    · have hi8' : ¬ (i : Int) < 8 := by omega
      have HE := hide (unhide FIN fr to ((prow_end bs f i fr to hi8).symm.trans (unhide HP))); clear FIN HP HL HZ HC; go_wp2; go_ret2; exact ⟨unhide HE, hx⟩
end Go.Proofs.YtenlampiiodkhaaGreatDoor
