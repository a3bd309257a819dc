/-
  DmA.
-/
import Derived.Test.YtenlampiiodkhaaGreatDoorEncAc
namespace Go.Proofs.YtenlampiiodkhaaGreatDoor
set_option linter.unusedVariables false
open Go.RowKit
def fnd (x : Int) : List Int → Nat
  | [] => 0
  | y :: t => if y = x then 0 else fnd x t + 1
def fndI (x : Int) (l : List Int) : Int := if fnd x l < l.length then (fnd x l : Int) else -1
theorem fnd_at {x : Int} : ∀ (l : List Int) (k : Nat), k < l.length → (∀ r ∈ l.take k, r ≠ x) → l.getD k 0 = x → fnd x l = k
  | [], k, h, _, _ => by simp at h
  | y :: t, 0, _, _, h2 => by
    rw [fnd, if_pos (by simpa using h2)]
  | y :: t, k + 1, h, h1, h2 => by
    have hy : y ≠ x := h1 y (by simp); rw [fnd, if_neg hy, fnd_at t k (by simpa using h) (fun r hr => h1 r (by simp [hr])) (by simpa using h2)]
theorem fnd_none {x : Int} : ∀ (l : List Int), (∀ r ∈ l, r ≠ x) → fnd x l = l.length
  | [], _ => rfl
  | y :: t, h => by
    rw [fnd, if_neg (h y (by simp)), fnd_none t fun r hr => h r (by simp [hr])]; rfl
theorem fnd_mem {x : Int} : ∀ (l : List Int), fnd x l < l.length ↔ x ∈ l
  | [] => by simp [fnd]
  | y :: t => by
    have ih := fnd_mem (x := x) t; rw [fnd]; by_cases h : y = x
    · subst h; simp
    · rw [if_neg h]; simp only [List.length_cons, List.mem_cons]; constructor
      · intro hh; exact .inr (ih.1 (by omega))
      · rintro (hh | hh)
        · exact absurd hh.symm h
        · have := ih.2 hh; omega
set_option maxHeartbeats 1000000 in
set_option maxRecDepth 100000 in
theorem index_any (ao : Option Addr) (l cap : Nat) (rs : List Int) (x : Int) (w : World) (hl : rs.length = l) (hm : l ≤ 1000000) (h : RdV w ao cap (rs.map R)) :
    Calls Tryz.prog 57 #[.slice ao l cap, R x] w fun e w' => e = .returned (.int .i64 (fndI x rs)) ∧ w' = w := by
  subst hl; have hle := h.le; have hmx := h.max; simp only [List.length_map] at hle; have fin : ∀ b : Int, b = fndI x rs → Ending.returned (.int .i64 b) = .returned (.int .i64 (fndI x rs)) := fun b h => by rw [h]
  have FIN := hide fin; clear fin; go_enter Tryz.func57, Tryz.ntmps57; go_wp2_with fail
  go_loopw [8] (fun i wr => ∃ k : Nat, k ≤ rs.length ∧ i = .int .i64 k ∧ Hid (∀ r ∈ rs.take k, r ≠ x) ∧ wr = w) (fun i _ => rs.length - (intOf i).toNat)
  case atStart => exact ⟨0, by omega, rfl, hide (by simp), rfl⟩
  case round =>
    obtain ⟨k, hk, rfl, HOK, hw⟩ := hrel; subst hw; by_cases hkl : k < rs.length
    · obtain ⟨b, off, rfl, hc⟩ := h.cells (by simp; omega); have c0 : wr.cell? ⟨b, off + k, none⟩ = some (.int .i32 (rs.getD k 0)) := by
        rw [hc k (by simpa using hkl), getR rs k hkl]
      clear hc; have HT := hide (take_snoc rs k 0 hkl); have HA := hide (fun hx => fnd_at (x := x) rs k hkl (unhide HOK) hx); generalize rs.getD k 0 = y at *; by_cases hx : y = x
      · subst hx; have HF : Hid (((k : Nat) : Int) = fndI y rs) := by
          show (k : Int) = fndI y rs; unfold fndI; rw [unhide HA rfl, if_pos hkl]
        clear HOK HT HA; go_wp2; go_ret; exact ⟨unhide FIN _ (unhide HF), rfl⟩
      · have HOK2 : Hid (∀ r ∈ rs.take (k + 1), r ≠ x) := by
          show ∀ r ∈ rs.take (k + 1), r ≠ x; rw [unhide HT]; intro r hr; rcases List.mem_append.1 hr with hr | hr
          · exact unhide HOK r hr
          · rw [List.mem_singleton] at hr; rw [hr]; exact hx
        have hx1 : ¬ x = y := fun e => hx e.symm; have hx2 : (x == y) = false := by simpa using hx1
        clear HOK HT HA; go_wp2; exact ⟨⟨k + 1, by omega, by simp, HOK2, by first | rfl | trivial⟩, (show rs.length - ((k : Int) + 1).toNat < rs.length - ((k : Int)).toNat by omega)⟩
    · have hok := unhide HOK; rw [List.take_of_length_le (by omega)] at hok; have HF : Hid ((-1 : Int) = fndI x rs) := by
        show (-1 : Int) = fndI x rs; unfold fndI; rw [fnd_none rs hok, if_neg (by omega)]
      clear hok HOK; go_wp2; go_ret; exact ⟨unhide FIN _ (unhide HF), rfl⟩
set_option maxHeartbeats 1000000 in
theorem contains_any (ao : Option Addr) (l cap : Nat) (rs : List Int) (x : Int) (w : World) (hl : rs.length = l) (hm : l ≤ 1000000) (h : RdV w ao cap (rs.map R)) :
    Calls Tryz.prog 26 #[.slice ao l cap, R x] w fun e w' => e = .returned (.bool (decide (x ∈ rs))) ∧ w' = w := by
  have CC := hide (index_any ao l cap rs x w hl hm h); have fin : ∀ b : Bool, b = decide (x ∈ rs) → Ending.returned (.bool b) = .returned (.bool (decide (x ∈ rs))) := fun b h => by rw [h]
  have FIN := hide fin; clear fin; have HI := hide (show (x ∈ rs ∧ 0 ≤ fndI x rs) ∨ (¬ x ∈ rs ∧ fndI x rs = -1) by
    unfold fndI; by_cases hx : x ∈ rs
    · exact .inl ⟨hx, by rw [if_pos ((fnd_mem rs).2 hx)]; omega⟩
    · exact .inr ⟨hx, by rw [if_neg (fun hh => hx ((fnd_mem rs).1 hh))]⟩)
  go_enter Tryz.func26, Tryz.ntmps26; go_wp2_with fail
  refine (unhide CC).mono ?_; rintro e w2 ⟨rfl, hw⟩; subst hw; clear CC; generalize fndI x rs = z at *; rcases unhide HI with ⟨h1, h2⟩ | ⟨h1, h2⟩
  · clear HI; have H1 := hide h1; clear h1; go_wp2; go_ret; exact ⟨unhide FIN _ (by simp [unhide H1]; try omega), rfl⟩
  · clear HI; subst h2; have H1 := hide h1; clear h1; go_wp2; go_ret; exact ⟨unhide FIN _ (by simp [unhide H1]), rfl⟩
set_option maxHeartbeats 1000000 in
set_option maxRecDepth 100000 in
theorem dplain_any (ao : Option Addr) (l cap : Nat) (rs : List Int) (w : World) (hl : rs.length = l) (hm : l ≤ 1000000) (h : RdV w ao cap (rs.map R)) :
    Calls Tryz.prog 96 #[.slice ao l cap] w fun e w' => e = .returned (.bool (rs.all fun r => decide (r ≤ 127))) ∧ w' = w := by
  subst hl; have hle := h.le; have hmx := h.max; simp only [List.length_map] at hle; have fin : ∀ b : Bool, b = (rs.all fun r => decide (r ≤ 127)) → Ending.returned (.bool b) = .returned (.bool (rs.all fun r => decide (r ≤ 127))) := fun b h => by rw [h]
  have FIN := hide fin; clear fin; go_enter Tryz.func96, Tryz.ntmps96; go_wp2_with fail
  go_loopw [7] (fun i wr => ∃ k : Nat, k ≤ rs.length ∧ i = .int .i64 k ∧ Hid (∀ r ∈ rs.take k, r ≤ 127) ∧ wr = w) (fun i _ => rs.length - (intOf i).toNat)
  case atStart => exact ⟨0, by omega, rfl, hide (by simp), rfl⟩
  case round =>
    obtain ⟨k, hk, rfl, HOK, hw⟩ := hrel; subst hw; by_cases hkl : k < rs.length
    · obtain ⟨b, off, rfl, hc⟩ := h.cells (by simp; omega); have c0 : wr.cell? ⟨b, off + k, none⟩ = some (.int .i32 (rs.getD k 0)) := by
        rw [hc k (by simpa using hkl), getR rs k hkl]
      clear hc; have HT := hide (take_snoc rs k 0 hkl); have HMM := hide (show rs.getD k 0 ∈ rs by simp [List.getD, hkl]); generalize rs.getD k 0 = x at *; by_cases hx : 128 ≤ x
      · have hF : (rs.all fun r => decide (r ≤ 127)) = false := by
          rw [Bool.eq_false_iff]; intro hall; have := List.all_eq_true.1 hall x (unhide HMM); simp at this; omega
        have HF := hide hF; clear hF HOK HT HMM; go_wp2; go_ret; exact ⟨unhide FIN _ (unhide HF).symm, rfl⟩
      · have HOK2 : Hid (∀ r ∈ rs.take (k + 1), r ≤ 127) := by
          show ∀ r ∈ rs.take (k + 1), r ≤ 127; rw [unhide HT]; intro r hr; rcases List.mem_append.1 hr with hr | hr
          · exact unhide HOK r hr
          · rw [List.mem_singleton] at hr; rw [hr]; omega
        clear HOK HT HMM; go_wp2; exact ⟨⟨k + 1, by omega, by simp, HOK2, by first | rfl | trivial⟩, (show rs.length - ((k : Int) + 1).toNat < rs.length - ((k : Int)).toNat by omega)⟩
    · have hok := unhide HOK; rw [List.take_of_length_le (by omega)] at hok; have HF : Hid ((rs.all fun r => decide (r ≤ 127)) = true) := by
        show (rs.all fun r => decide (r ≤ 127)) = true; rw [List.all_eq_true]; intro r hr; simpa using hok r hr
      clear hok HOK; go_wp2; go_ret; exact ⟨unhide FIN _ (unhide HF).symm, rfl⟩
end Go.Proofs.YtenlampiiodkhaaGreatDoor
