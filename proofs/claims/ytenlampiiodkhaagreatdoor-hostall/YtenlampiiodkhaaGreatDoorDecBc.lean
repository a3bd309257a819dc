/-
  DecB.
-/
import Derived.Test.YtenlampiiodkhaaGreatDoorDecAc
import Derived.Test.YtenlampiiodkhaaGreatDoorDecPc
namespace Go.Proofs.YtenlampiiodkhaaGreatDoor
set_option linter.unusedVariables false
open Go.RowKit
theorem take_S (l : List UInt8) (k : Nat) (h : k ≤ l.length) : (⟨l.toArray⟩ : ByteArray).extract 0 k = ⟨(l.take k).toArray⟩ := by
  have e := Lib.extract_data ⟨l.toArray⟩ 0 k; have h2 : ((⟨l.toArray⟩ : ByteArray).extract 0 k).data = (l.take k).toArray := by
    apply Array.toList_inj.1; rw [e]; show List.take (k - 0) (List.drop 0 l) = _; simp
  exact ByteArray.ext h2
theorem run_take (w : World) (l : List UInt8) (k : Nat) (h : k ≤ l.length) : (Instr.slice 9 (S l) none (some (.int .i64 (k : Int))) none).run Tryz.prog w = .ok (S (l.take k)) w := by
  rw [run_slice_string_h w 9 ⟨l.toArray⟩ Tryz.underlying9 .i64 (k : Int) (by omega) (by rw [size_S]; omega)]; rw [Int.toNat_natCast, take_S l k h]
set_option maxHeartbeats 1000000 in
set_option maxRecDepth 100000 in
theorem lastIndex_any (s : List UInt8) (w : World) (hs : s.length ≤ 1000) : Calls Tryz.prog 200 #[S s, .int .u8 45] w fun e w' => e = .returned (.int .i64 (cutI s)) ∧ w' = w := by
  have CC := hide (lastByte_any s w hs); go_enter Tryz.func200, Tryz.ntmps200; go_wp2_with fail
  refine (unhide CC).mono ?_; rintro e w0 ⟨rfl, hw⟩; subst hw; clear CC; go_wp2; go_ret; exact ⟨rfl, rfl⟩
set_option maxHeartbeats 1000000 in
set_option maxRecDepth 100000 in
theorem parts_any (s : List UInt8) (w : World) (hs : s.length ≤ 1000) : Calls Tryz.prog 173 #[S s] w fun e w' => e = .returned (.tuple #[S (prt s).1, S (prt s).2]) ∧ ∃ q, w' = w.drewN q := by
  have CC := hide (lastIndex_any s w hs); have fin : ∀ a b : List UInt8, prt s = (a, b) → Ending.returned (.tuple #[S a, S b]) = .returned (.tuple #[S (prt s).1, S (prt s).2]) := fun a b h => by rw [h]
  have FIN := hide fin; clear fin; have key : (cutI s ≤ 0 ∧ prt s = ([], s)) ∨ ∃ k : Nat, cutI s = ((k : Int) + 1) ∧ k + 1 < s.length ∧ prt s = (s.take (k + 1), s.drop (k + 2)) := by
    unfold cutI prt
    cases hc : cutAt s with
    | none => exact .inl ⟨by simp, rfl⟩
    | some k =>
      cases k with
      | zero => exact .inl ⟨by simp, rfl⟩
      | succ k => exact .inr ⟨k, by simp, (cutAt_is hc).1, rfl⟩
  go_enter Tryz.func173, Tryz.ntmps173; go_wp2_with fail
  refine (unhide CC).mono ?_; rintro e w0 ⟨rfl, hw⟩; subst hw; clear CC; rcases key with ⟨k1, k2⟩ | ⟨k, k1, k2, k3⟩
  · have k1' : ¬ 0 < cutI s := by omega
    have K2 := hide k2; clear k2; generalize cutI s = z at *; go_wp2; go_ret2; exact ⟨unhide FIN _ _ (unhide K2), 0, rfl⟩
  · have k1' : 0 < cutI s := by omega
    rw [k1]; have K3 := hide k3; have h1 : ∀ v, (Instr.slice 9 (S s) none (some (.int .i64 ((k : Int) + 1))) none).run Tryz.prog v = .ok (S (s.take (k + 1))) v := fun v => by
      have := run_take v s (k + 1) (by omega)
      rwa [show ((k + 1 : Nat) : Int) = (k : Int) + 1 by omega] at this
    have h2 : ∀ v, (Instr.slice 9 (S s) (some (.int .i64 ((k : Int) + 1 + 1))) none none).run Tryz.prog v = .ok (S (s.drop (k + 2))) v := fun v => by
      have := run_drop v s (k + 2) (by omega)
      rwa [show ((k + 2 : Nat) : Int) = (k : Int) + 1 + 1 by omega] at this
    have h2' : ∀ v, (Instr.slice 9 (S s) (some (.int .i64 ((k : Int) + 2))) none none).run Tryz.prog v = .ok (S (s.drop (k + 2))) v := fun v => by
      have := run_drop v s (k + 2) (by omega)
      rwa [show ((k + 2 : Nat) : Int) = (k : Int) + 2 by omega] at this
    clear k3 k1 k1'; have k4 : (0 : Int) < (k : Int) + 1 := by omega
    go_wp2_with fail
    go_quiet (fail)
    go_wp2; go_ret2; exact ⟨unhide FIN _ _ (unhide K3), nq, rfl⟩
set_option maxHeartbeats 1000000 in
set_option maxRecDepth 100000 in
theorem isPlain_any (s : List UInt8) (w : World) (hs : s.length ≤ 1000) : Calls Tryz.prog 174 #[S s] w fun e w' => e = .returned (.bool (decide (∀ b ∈ s, b.toNat ≤ 127))) ∧ w' = w := by
  have hsl : (⟨s.toArray⟩ : ByteArray).size = s.length := size_S s; have fin : ∀ b : Bool, b = decide (∀ b ∈ s, b.toNat ≤ 127) → Ending.returned (.bool b) = .returned (.bool (decide (∀ b ∈ s, b.toNat ≤ 127))) := fun b h => by rw [h]
  have FIN := hide fin; clear fin; go_enter Tryz.func174, Tryz.ntmps174; go_wp2_with fail
  go_loopw [6] (fun i wr => ∃ k : Nat, k ≤ s.length ∧ i = .int .i64 k ∧ Hid (∀ b ∈ s.take k, b.toNat ≤ 127) ∧ wr = w) (fun i _ => s.length - (intOf i).toNat)
  case atStart => exact ⟨0, by omega, rfl, hide (by simp), rfl⟩
  case round =>
    obtain ⟨k, hk, rfl, HOK, hw⟩ := hrel; subst hw; by_cases hkl : k < s.length
    · have hi := fun w => idx_str w s .i64 k hkl; have hbt := (s.getD k 0).toNat_lt; have HT := hide (take_snoc s k 0 hkl); have HM := hide (show s.getD k 0 ∈ s by simp [List.getD, hkl]); unfold B at hi; by_cases hx : (s.getD k 0).toNat ≤ 127
      · have HOK2 : Hid (∀ b ∈ s.take (k + 1), b.toNat ≤ 127) := by
          show ∀ b ∈ s.take (k + 1), b.toNat ≤ 127; rw [unhide HT]; intro b hb; rcases List.mem_append.1 hb with hb | hb
          · exact unhide HOK b hb
          · rw [List.mem_singleton] at hb; rw [hb]; exact hx
        clear HOK HT HM; generalize (s.getD k 0).toNat = z at *; have hx' : ¬ (128 : Int) ≤ (z : Int) := by omega
        go_wp2; exact ⟨⟨k + 1, by omega, by simp, HOK2, by first | rfl | trivial⟩, (show s.length - ((k : Int) + 1).toNat < s.length - ((k : Int)).toNat by omega)⟩
      · have HF : Hid (decide (∀ b ∈ s, b.toNat ≤ 127) = false) := decide_eq_false fun h => hx (h _ (unhide HM)); clear HOK HT HM; generalize (s.getD k 0).toNat = z at *; have hx' : (128 : Int) ≤ (z : Int) := by omega
        go_wp2; go_ret; exact ⟨unhide FIN _ (unhide HF).symm, rfl⟩
    · have hok := unhide HOK; rw [List.take_of_length_le (by omega)] at hok; have HF : Hid (decide (∀ b ∈ s, b.toNat ≤ 127) = true) := decide_eq_true hok; clear hok HOK; go_wp2; go_ret; exact ⟨unhide FIN _ (unhide HF).symm, rfl⟩
def TellsN (bias : Nat) (t : List UInt8) (w : World) (e : Ending) (w' : World) : Prop :=
  (cutN bias t 36 = none ∧ e = .returned (.tuple #[.int .i64 0, S [], .bool false]) ∧ w' = w) ∨
  ∃ V r q, cutN bias t 36 = some (V, r) ∧ e = .returned (.tuple #[.int .i64 ((min V 70189056 : Nat) : Int), S r, .bool true]) ∧ w' = w.drewN q
set_option maxHeartbeats 600000 in
set_option maxRecDepth 100000 in
theorem cutNumber_any (t : List UInt8) (bias : Nat) (w : World) (hs : t.length ≤ 200) (hb : bias ≤ 2400) : Calls Tryz.prog 175 #[S t, .int .i64 (bias : Int)] w (TellsN bias t w) := by
  have hsl : (⟨t.toArray⟩ : ByteArray).size = t.length := size_S t; go_enter Tryz.func175, Tryz.ntmps175; go_wp2_with fail
  go_loopw [4, 7, 14] (fun vn vw vi wr => ∃ j i wt : Nat, j ≤ t.length ∧ vi = .int .i64 j ∧ vn = .int .i64 ((min i 70189056 : Nat) : Int) ∧ vw = .int .i64 ((min wt 70189056 : Nat) : Int) ∧
    Hid ((cutN bias (t.drop j) (36 * j + 36)).map (fun p => (i + wt * p.1, p.2)) = cutN bias t 36) ∧ wr = w) (fun _ _ vi _ => t.length - (intOf vi).toNat)
  case atStart => exact ⟨0, 0, 1, by omega, rfl, rfl, rfl, hide (by simp), rfl⟩
  case round =>
    obtain ⟨j, i, wt, hj, rfl, rfl, rfl, HR, hw⟩ := hrel; subst hw; by_cases hjl : j < t.length
    · have hi := fun w => idx_str w t .i64 j hjl; have HDG := hide (fun w => digit_any (t.getD j 0) w); have HTH := hide (fun w => threshold_any j bias w (by omega) (by omega)); have hdr : t.drop j = t.getD j 0 :: t.drop (j + 1) := by rw [List.drop_eq_getElem_cons hjl]; simp [List.getD, hjl]
      have hR := unhide HR; rw [hdr, cutN] at hR; clear HR hdr; generalize t.getD j 0 = x at *
      cases hd : dv x with
      | none =>
        rw [hd] at hR HDG; have HR2 := hide hR; clear hR; simp only [Option.getD_none, Option.isSome_none] at HDG; go_wp2_with fail
        refine (unhide HDG _).mono ?_; rintro e w0 ⟨rfl, hw⟩; subst hw; clear HDG HTH; go_wp2; go_returns; exact .inl ⟨by rw [← unhide HR2]; rfl, by rfl, rfl⟩
      | some d =>
        rw [hd] at hR HDG; have hdl := dv_lt hd; simp only at hR; simp only [Option.getD_some, Option.isSome_some] at HDG; have hsat := sat_add i d wt 70189056; have hm1 : min i 70189056 ≤ 70189056 := Nat.min_le_right _ _; have hm2 : min wt 70189056 ≤ 70189056 := Nat.min_le_right _ _; have hm3 : d * min wt 70189056 ≤ 35 * 70189056 := Nat.mul_le_mul (by omega) hm2; have ht1 := thr_pos (36 * j + 36) bias; have ht2 := thr_le (36 * j + 36) bias; have hsm := sat_mul wt (36 - thr (36 * j + 36) bias) 70189056 (by omega); have hm4 : min wt 70189056 * (36 - thr (36 * j + 36) bias) ≤ 70189056 * 35 := Nat.mul_le_mul hm2 (by omega); by_cases hlt : d < thr (36 * j + 36) bias
        · rw [if_pos hlt] at hR; simp only [Option.map_some] at hR; have hsl2 := fun v => run_drop v t (j + 1) (by omega); rw [show ((j + 1 : Nat) : Int) = (j : Int) + 1 by omega] at hsl2; have HV : Hid (cutN bias t 36 = some (i + wt * d, t.drop (j + 1))) := hR.symm; have HSAT : Hid (min (min i 70189056 + d * min wt 70189056) 70189056 = min (i + wt * d) 70189056) := by rw [Nat.mul_comm wt d]; exact hsat
          clear hR hsat hsm; generalize thr (36 * j + 36) bias = th at *; generalize min i 70189056 = n1 at *; generalize min wt 70189056 = w1 at *; have epr : (d : Int) * (w1 : Int) = ((d * w1 : Nat) : Int) := by simp
          generalize d * w1 = m1 at *; generalize i + wt * d = V at *; have hlt' : (d : Int) < (th : Int) := by omega
          rcases Nat.lt_or_ge 70189056 (n1 + m1) with hm | hm
          · have hmi : (70189056 : Int) < (n1 : Int) + (m1 : Int) := by omega
            have HV2 : Hid ((70189056 : Int) = ((min V 70189056 : Nat) : Int)) := by have := unhide HSAT; rw [← this]; show (70189056 : Int) = _; omega
            clear HSAT; go_wp2_with fail
            refine (unhide HDG _).mono ?_; rintro e w0 ⟨rfl, hw⟩; subst hw; clear HDG; go_wp2_with fail
            refine (unhide HTH _).mono ?_; rintro e w0 ⟨rfl, hw⟩; subst hw; clear HTH; go_wp2_with fail
            go_quiet (fail)
            go_wp2; go_returns; exact .inr ⟨V, t.drop (j + 1), nq, unhide HV, by rw [← unhide HV2]; rfl, rfl⟩
          · have hmi : ¬ (70189056 : Int) < (n1 : Int) + (m1 : Int) := by omega
            have hmi2 : (n1 : Int) + (m1 : Int) ≤ 70189056 := by omega
            have HV2 : Hid ((n1 : Int) + (m1 : Int) = ((min V 70189056 : Nat) : Int)) := by have := unhide HSAT; rw [← this]; show (n1 : Int) + (m1 : Int) = _; omega
            clear HSAT; go_wp2_with fail
            refine (unhide HDG _).mono ?_; rintro e w0 ⟨rfl, hw⟩; subst hw; clear HDG; go_wp2_with fail
            refine (unhide HTH _).mono ?_; rintro e w0 ⟨rfl, hw⟩; subst hw; clear HTH; go_wp2_with fail
            go_quiet (fail)
            go_wp2; go_returns; exact .inr ⟨V, t.drop (j + 1), nq, unhide HV, by rw [← unhide HV2]; rfl, rfl⟩
        · rw [if_neg hlt, Option.map_map] at hR; have HR2 : Hid ((cutN bias (t.drop (j + 1)) (36 * (j + 1) + 36)).map (fun p => (i + wt * d + wt * (36 - thr (36 * j + 36) bias) * p.1, p.2)) = cutN bias t 36) := by
            rw [← hR]; show _ = _; congr 1; funext p; simp only [Function.comp]; rw [Nat.mul_add, ← Nat.mul_assoc, Nat.add_assoc]
          have HSAT : Hid (min (min i 70189056 + d * min wt 70189056) 70189056 = min (i + wt * d) 70189056) := by rw [Nat.mul_comm wt d]; exact hsat
          have HSM := hide hsm; clear hR hsat hsm; have NEXT : ∀ (z u : Int), z = ((min (i + wt * d) 70189056 : Nat) : Int) → u = ((min (wt * (36 - thr (36 * j + 36) bias)) 70189056 : Nat) : Int) → (∃ j' i' wt' : Nat, j' ≤ t.length ∧ Value.int .i64 ((j : Int) + 1) = .int .i64 j' ∧ Value.int .i64 z = .int .i64 ((min i' 70189056 : Nat) : Int) ∧ Value.int .i64 u = .int .i64 ((min wt' 70189056 : Nat) : Int) ∧
              Hid ((cutN bias (t.drop j') (36 * j' + 36)).map (fun p => (i' + wt' * p.1, p.2)) = cutN bias t 36)) := fun z u hz hu => ⟨j + 1, i + wt * d, wt * (36 - thr (36 * j + 36) bias), by omega, by simp, by rw [hz], by rw [hu], HR2⟩
          have HNEXT := hide NEXT; clear NEXT HR2; generalize thr (36 * j + 36) bias = th at *; have epr : (d : Int) * ((min wt 70189056 : Nat) : Int) = ((d * min wt 70189056 : Nat) : Int) := by simp
          have epq : ((min wt 70189056 : Nat) : Int) * (36 - (th : Int)) = ((min wt 70189056 * (36 - th) : Nat) : Int) := by
            rw [Int.natCast_mul, Int.natCast_sub (by omega)]; rfl
          generalize min i 70189056 = n1 at *; generalize min wt 70189056 = w1 at *; generalize d * w1 = m1 at *; generalize w1 * (36 - th) = m2 at *; have hlt' : ¬ (d : Int) < (th : Int) := by omega
          rcases Nat.lt_or_ge 70189056 (n1 + m1) with hm | hm
          all_goals rcases Nat.lt_or_ge 70189056 m2 with hk | hk
          · have hmi : (70189056 : Int) < (n1 : Int) + (m1 : Int) := by omega
            have hki : (70189056 : Int) < (m2 : Int) := by omega
            have F2 := unhide HNEXT 70189056 70189056 (by have := unhide HSAT; rw [← this]; show (70189056 : Int) = _; omega) (by have := unhide HSM; rw [← this]; show (70189056 : Int) = _; omega); have HF2 := hide F2; clear F2 HNEXT HSAT HSM; go_wp2_with fail
            refine (unhide HDG _).mono ?_; rintro e w0 ⟨rfl, hw⟩; subst hw; clear HDG; go_wp2_with fail
            refine (unhide HTH _).mono ?_; rintro e w0 ⟨rfl, hw⟩; subst hw; clear HTH; go_wp2; obtain ⟨j', i', wt', q1, q2, q3, q4, q5⟩ := unhide HF2; exact ⟨⟨j', i', wt', q1, q2, q3, q4, q5, by first | rfl | trivial⟩, (show t.length - ((j : Int) + 1).toNat < t.length - ((j : Int)).toNat by omega)⟩
          · have hmi : (70189056 : Int) < (n1 : Int) + (m1 : Int) := by omega
            have hki : (m2 : Int) ≤ 70189056 := by omega
            have F2 := unhide HNEXT 70189056 (m2 : Int) (by have := unhide HSAT; rw [← this]; show (70189056 : Int) = _; omega) (by have := unhide HSM; rw [← this]; show (m2 : Int) = _; omega); have HF2 := hide F2; clear F2 HNEXT HSAT HSM; go_wp2_with fail
            refine (unhide HDG _).mono ?_; rintro e w0 ⟨rfl, hw⟩; subst hw; clear HDG; go_wp2_with fail
            refine (unhide HTH _).mono ?_; rintro e w0 ⟨rfl, hw⟩; subst hw; clear HTH; go_wp2; obtain ⟨j', i', wt', q1, q2, q3, q4, q5⟩ := unhide HF2; exact ⟨⟨j', i', wt', q1, q2, q3, q4, q5, by first | rfl | trivial⟩, (show t.length - ((j : Int) + 1).toNat < t.length - ((j : Int)).toNat by omega)⟩
          · have hmi : (n1 : Int) + (m1 : Int) ≤ 70189056 := by omega
            have hki : (70189056 : Int) < (m2 : Int) := by omega
            have F2 := unhide HNEXT ((n1 : Int) + (m1 : Int)) 70189056 (by have := unhide HSAT; rw [← this]; show (n1 : Int) + (m1 : Int) = _; omega) (by have := unhide HSM; rw [← this]; show (70189056 : Int) = _; omega); have HF2 := hide F2; clear F2 HNEXT HSAT HSM; go_wp2_with fail
            refine (unhide HDG _).mono ?_; rintro e w0 ⟨rfl, hw⟩; subst hw; clear HDG; go_wp2_with fail
            refine (unhide HTH _).mono ?_; rintro e w0 ⟨rfl, hw⟩; subst hw; clear HTH; go_wp2; obtain ⟨j', i', wt', q1, q2, q3, q4, q5⟩ := unhide HF2; exact ⟨⟨j', i', wt', q1, q2, q3, q4, q5, by first | rfl | trivial⟩, (show t.length - ((j : Int) + 1).toNat < t.length - ((j : Int)).toNat by omega)⟩
          · have hmi : (n1 : Int) + (m1 : Int) ≤ 70189056 := by omega
            have hki : (m2 : Int) ≤ 70189056 := by omega
            have F2 := unhide HNEXT ((n1 : Int) + (m1 : Int)) (m2 : Int) (by have := unhide HSAT; rw [← this]; show (n1 : Int) + (m1 : Int) = _; omega) (by have := unhide HSM; rw [← this]; show (m2 : Int) = _; omega); have HF2 := hide F2; clear F2 HNEXT HSAT HSM; go_wp2_with fail
            refine (unhide HDG _).mono ?_; rintro e w0 ⟨rfl, hw⟩; subst hw; clear HDG; go_wp2_with fail
            refine (unhide HTH _).mono ?_; rintro e w0 ⟨rfl, hw⟩; subst hw; clear HTH; go_wp2; obtain ⟨j', i', wt', q1, q2, q3, q4, q5⟩ := unhide HF2; exact ⟨⟨j', i', wt', q1, q2, q3, q4, q5, by first | rfl | trivial⟩, (show t.length - ((j : Int) + 1).toNat < t.length - ((j : Int)).toNat by omega)⟩
    · have e : j = t.length := by omega
      have hR := unhide HR; rw [e, List.drop_length, cutN] at hR; have HR2 : Hid (cutN bias t 36 = none) := hR.symm; clear hR HR; go_wp2; go_returns; exact .inl ⟨unhide HR2, by rfl, rfl⟩
end Go.Proofs.YtenlampiiodkhaaGreatDoor
