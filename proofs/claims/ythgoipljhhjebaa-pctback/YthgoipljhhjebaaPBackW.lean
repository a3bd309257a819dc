/-
  The walk of PctBack.
-/
import Derived.Test.YthgoipljhhjebaaPctC
namespace Go.Proofs.Ythgoipljhhjebaa
set_option linter.unusedVariables false
open Go.RowKit

set_option maxHeartbeats 800000 in
theorem back_walk (s : UInt8) (ao : Option Addr) (l cap : Nat) (bs : List UInt8) (w : World) (hl : bs.length = l) (h : RdV w ao cap (bs.map B)) :
    Calls Try.prog 4 #[B s, .slice ao l cap] w fun e w' => e = .returned (.bool true) ∧ Below w.heap.size w w' := by
  subst hl
  have hle := h.le
  have hmx := h.max
  simp only [List.length_map] at hle
  go_enter Try.func4, Try.ntmps4
  go_wp2_with fail
  refine (begun_yes _).mono ?_
  rintro e w1 ⟨rfl, hx1⟩
  by_cases hb : 60 < bs.length
  · go_wp2
    go_ret
    exact ⟨rfl, hx1⟩
  have h1 := h.below hx1
  go_wp2_with fail
  go_loopw [5] (fun i wr => ∃ j : Nat, j ≤ bs.length ∧ i = .int .i64 j ∧ (∀ y ∈ bs.take j, y ≠ 37) ∧ wr = w1) (fun i _ => bs.length - (intOf i).toNat)
  case atStart => exact ⟨0, by omega, rfl, by simp, rfl⟩
  case round =>
    obtain ⟨j, hj, rfl, hno, rfl⟩ := hrel
    have HN := hide hno
    clear hno
    by_cases hjl : j < bs.length
    · have HT := hide (take_snoc bs j 0 hjl)
      obtain ⟨b, off, rfl, hc⟩ := h1.cells (by simp; omega)
      have c0 : wr.cell? ⟨b, off + j, none⟩ = some (B (bs.getD j 0)) := by
        have := hc j (by simpa using hjl)
        rw [getB bs j hjl] at this
        exact this
      clear hc
      generalize bs.getD j 0 = x at *
      by_cases hx : (x.toNat : Int) = 37
      · go_wp2
        go_ret
        exact ⟨rfl, hx1⟩
      · go_wp2
        go_roundw
        case rel =>
          refine ⟨j + 1, by omega, by go_num, ?_, by trivial⟩
          rw [unhide HT]
          intro y hy
          rcases List.mem_append.1 hy with hy | hy
          · exact unhide HN y hy
          · rw [List.mem_singleton] at hy
            intro e
            rw [e] at hy
            exact hx (by rw [← hy]; rfl)
        case measure => simp [intOf]; omega
    · have hno := unhide HN
      rw [List.take_of_length_le (by omega)] at hno
      clear HN
      have HN := hide hno
      clear hno
      go_wp2_with fail
      clear hj hjl
      have ek : (s.toNat : Int) % 7 = ((s.toNat % 7 : Nat) : Int) := by omega
      have hk : s.toNat % 7 < 7 := by omega
      rw [ek]
      clear ek
      generalize s.toNat % 7 = k at *
      refine (encode_own (k : Int) ao _ cap bs _ rfl (by omega) h1).mono ?_
      rintro e w2 ⟨rfl, hx2⟩
      have hlen := encd_len (k : Int) bs
      obtain ⟨c3, w3, hcv, hr3, hx3, hfz⟩ := conv_bytes w2 (encd (k : Int) bs) (by omega)
      have hx3 : Below w.heap.size w w3 := (hx1.trans hx2).trans hx3
      have hg : w.heap.size ≤ w2.heap.size := (hx1.trans hx2).size
      go_wp2_with fail
      clear hcv
      have HB : Hid (∀ ts : List UInt8, (k = 6 → ts = (encd (k : Int) bs).map plus) → (k ≠ 6 → ts = encd (k : Int) bs) → decd ts = bs) := by
        intro ts h6 h7
        by_cases e : k = 6
        · rw [h6 e, e]; exact back_form bs
        · rw [h7 e]; exact back_six k (by omega) bs (unhide HN)
      have hlen2 : (encd (k : Int) bs).length ≤ 180 := by omega
      clear HN hlen hx2
      generalize w2.heap.size = g at *
      generalize encd (k : Int) bs = t at *
      clear h1 hx1
      go_loopw [8] (fun i wr => ∃ (j : Nat) (ts : List UInt8), j ≤ t.length ∧ i = .int .i64 j ∧ ts.length = t.length ∧ (k = 6 → ts = (t.take j).map plus ++ t.drop j) ∧ (k ≠ 6 → ts = t) ∧ RdV wr (some ⟨g, 0, none⟩) c3 (ts.map B) ∧ (∀ i, i < t.length → wr.frozen? ⟨g, i, none⟩ = false) ∧ Below w.heap.size w wr) (fun i _ => t.length - (intOf i).toNat)
      case atStart => exact ⟨0, t, by omega, rfl, rfl, fun _ => by simp, fun _ => rfl, hr3, hfz, hx3⟩
      case round =>
        clear hr3 hfz hx3
        rename_i wq _
        obtain ⟨i, ts, hi, rfl, hts, h6, h7, hr, hfz, hbr⟩ := hrel
        have HS6 := hide h6
        have HS7 := hide h7
        clear h6 h7
        by_cases hgo : k = 6 ∧ i < t.length
        · obtain ⟨rfl, hil⟩ := hgo
          have hle3 := hr.le
          have hmx3 := hr.max
          rw [List.length_map, hts] at hle3
          obtain ⟨b', off', e', hc⟩ := hr.cells (by simp; omega)
          simp only [Option.some.injEq, Addr.mk.injEq] at e'
          obtain ⟨rfl, rfl, _⟩ := e'
          have c0 : wr.cell? ⟨g, i, none⟩ = some (B (ts.getD i 0)) := by
            have := hc i (by simp; omega)
            rw [getB ts i (by omega), Nat.zero_add] at this
            exact this
          have f0 := hfz i hil
          have e0 : ts.getD i 0 = t.getD i 0 := by
            rw [unhide HS6 rfl]
            simp [List.getD, List.getElem?_append_right, Nat.min_eq_left hi, hil]
          have hT := take_snoc t i 0 hil
          have hD : t.drop i = t.getD i 0 :: t.drop (i + 1) := by
            rw [List.drop_eq_getElem_cons hil]
            simp [List.getD, hil]
          rw [e0] at c0
          have HF := hide hfz
          have HE := hide e0
          clear hfz hc e0
          have HK : Hid (∀ ts' : List UInt8, ts' = ts.set i (plus (t.getD i 0)) → ts' = (t.take (i + 1)).map plus ++ t.drop (i + 1)) := by
            intro ts' e
            rw [e, unhide HS6 rfl, hT, hD]
            simp [Nat.min_eq_left hi]
          clear hT hD
          generalize t.getD i 0 = x at *
          by_cases hx : (x.toNat : Int) = 43
          · have hx' : x = 43 := UInt8.toNat_inj.1 (by simpa using (by omega : x.toNat = 43))
            subst hx'
            have hr2 := hr.put i (by omega) 32
            have hbr2 := hbr.setCell (p := ⟨g, i, none⟩) hg (B 32)
            have hfz2 : ∀ q, q < t.length → (wr.setCell ⟨g, i, none⟩ (B 32)).frozen? ⟨g, q, none⟩ = false := fun q hq => by
              rw [World.frozen?_setCell]; exact unhide HF q hq
            have hk2 := unhide HK (ts.set i 32) rfl
            go_wp2
            go_roundw
            case rel => exact ⟨i + 1, ts.set i 32, by omega, by go_num, by simpa using hts, fun _ => hk2, fun e => absurd rfl e, hr2, hfz2, hbr2⟩
            case measure => simp [intOf]; omega
          · have hx' : plus x = x := by
              unfold plus
              rw [if_neg]
              rintro rfl
              exact hx rfl
            have hk2 := unhide HK
            rw [hx'] at hk2
            have hset : ts.set i x = ts := by
              have e := unhide HE
              have hil2 : i < ts.length := by omega
              have e2 : ts[i] = x := by rw [← e]; simp [List.getD, hil2]
              rw [← e2]
              exact List.set_getElem_self hil2
            have hk2 := hk2 ts hset.symm
            have hfz2 := unhide HF
            clear HF HK
            go_wp2
            go_roundw
            case rel => exact ⟨i + 1, ts, by omega, by go_num, hts, fun _ => hk2, fun e => absurd rfl e, hr, hfz2, hbr⟩
            case measure => simp [intOf]; omega
        · have hdec : decd ts = bs := by
            refine unhide HB ts (fun e => ?_) (fun e => unhide HS7 e)
            have : t.length ≤ i := by
              rcases Nat.lt_or_ge i t.length with hlt | hge
              · exact absurd ⟨e, hlt⟩ hgo
              · exact hge
            rw [unhide HS6 e, List.take_of_length_le this, List.drop_of_length_le this, List.append_nil]
          have hB := h.below hbr
          clear HB HS6 HS7
          have hex : t.length ≤ i ∨ (i < t.length ∧ ¬ (k : Int) = 6) := by omega
          clear hgo
          rcases hex with hex | ⟨hex, hk6⟩
          all_goals
            go_wp2_with fail
            refine wp_region_open (A := knows [(50, cellsF (ts.map B)), (51, isF (S ts)), (52, cellsF (bs.map B)), (53, isF (S bs)), (54, cellsF (bs.map B)), (55, isF (S bs)), (56, isF (.bool true)), (4, isF (.bool true))]) (by kernel_rfl) (by kernel_rfl) (knows_mono _) (steps_of ?_) ?_
            · skip
              refine allOps_cons (ok_fixed (.inl rfl) rfl 7 (.slice (some ⟨g, 0, none⟩) t.length c3) (.inl rfl) (by kernel_rfl) rfl (fun wx hx => ⟨some ⟨g, 0, none⟩, c3, by simp [hts], hr.below hx⟩)) ?_
              refine allOps_cons (ok_str (.inl rfl) rfl 50 rfl (by kernel_rfl) ts (fun _ _ h => h) (fun _ => rfl)) ?_
              refine allOps_cons (ok_dec (.inl rfl) rfl 51 _ rfl (by kernel_rfl) ts (by omega) (fun _ _ h => h) (fun v wx h => by rw [hdec] at h; exact h)) ?_
              refine allOps_cons (ok_str (.inl rfl) rfl 52 rfl (by kernel_rfl) bs (fun _ _ h => h) (fun _ => rfl)) ?_
              refine allOps_cons (ok_fixed (.inl rfl) rfl 1 (.slice ao bs.length cap) (.inl rfl) (by kernel_rfl) rfl (fun wx hx => ⟨ao, cap, by simp, hB.below hx⟩)) ?_
              refine allOps_cons (ok_str (.inl rfl) rfl 54 rfl (by kernel_rfl) bs (fun _ _ h => h) (fun _ => rfl)) ?_
              refine allOps_cons (ok_same (.inl rfl) rfl 53 55 _ _ rfl (by kernel_rfl) (by kernel_rfl) bs (fun _ _ h => h) (fun _ _ h => h) (fun _ => rfl)) ?_
              refine allOps_cons (ok_move (.inl rfl) rfl 56 (.inr rfl) (by kernel_rfl) (fun _ _ h => h)) ?_
              exact allOps_nil
            · intro a wz hx hsz hdef hfix hkn
              refine ‹∀ (a : Act) (w : World), Code.wp Try.prog Code.ret _ a w → _› a wz ?_
              have h4 : a.tmps.getD 4 undef = .bool true := hkn 4 (by kernel_rfl)
              go_wp2
              exact bodyPost_ret (v := .bool true) (by rw [results_tmp rfl, h4]) hdef ⟨rfl, Below.trans hbr (Below.mono hx hbr.size)⟩
end Go.Proofs.Ythgoipljhhjebaa
