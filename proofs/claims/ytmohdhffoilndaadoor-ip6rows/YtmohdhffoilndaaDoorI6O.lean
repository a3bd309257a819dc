/-
  A row of pieces, nought or not, shown: the walk.
-/
import Derived.Test.YtmohdhffoilndaaDoorI6N
namespace Go.Proofs.YtmohdhffoilndaaDoor
set_option linter.unusedVariables false
open Go.RowKit

theorem fill_set (a : List Nat) (k : Nat) (hk : k < a.length) (h8 : a.length = 8) : ((a.take k).map U ++ List.replicate (8 - k) (U 0)).toArray.setIfInBounds k (U (a.getD k 0)) = ((a.take (k + 1)).map U ++ List.replicate (8 - (k + 1)) (U 0)).toArray := by
  have hl : ((a.take k).map U).length = k := by rw [List.length_map, List.length_take]; omega
  rw [List.setIfInBounds_toArray]
  congr 1
  rw [List.set_append_right k _ (by omega), hl, Nat.sub_self, show 8 - k = (8 - (k + 1)) + 1 by omega, List.replicate_succ, List.set_cons_zero, take_snoc a k 0 hk, List.map_append, List.append_assoc]
  rfl
theorem bit_digit (v : Nat) (h : v ≤ 1) : B (hexd v) = .int .u8 (48 + (v : Int)) ∧ bdg 16 v = [hexd v] := by
  have e : v = 0 ∨ v = 1 := by omega
  rcases e with rfl | rfl <;> exact ⟨rfl, bdg_small (by decide) (by decide)⟩

theorem list8 (a : List Nat) (h : a.length = 8) : ∃ x0 x1 x2 x3 x4 x5 x6 x7, a = [x0, x1, x2, x3, x4, x5, x6, x7] := by
  match a, h with
  | [a, b, c, d, e, f, g, i], _ => exact ⟨a, b, c, d, e, f, g, i, rfl⟩
set_option maxHeartbeats 4000000 in
set_option maxRecDepth 100000 in
theorem rows_walk (m : Nat) (hm : m < 256) (w : World) (tb : Tb8 w) : Calls Tryd.prog 6 #[.int .u8 (m : Int)] w fun e w' => e = .returned (.bool true) ∧ Ext w w' := by
  have HB := hide (begun_yes w tb)
  have HTB := hide (fun w' (hx : Ext w w') => tb.below hx)
  have HBT := hide (fun k (hk : k < 8) => bit_and m k hm hk)
  have HAT := hide (bitL_at m)
  obtain ⟨hsm, h01⟩ := bitL_small m
  have h8 : (bitL m).length = 8 := rfl
  have HSH : Hid (∀ v, Ext w v → Calls Tryd.prog 12 #[V8 (bitL m)] v fun e w' => e = .returned (S (shw6 (bitL m))) ∧ Ext v w') := fun v hv => show6_any _ _ _ _ _ _ _ _ v hsm (tb.below hv)
  have HSM := hide hsm
  have H01 := hide h01
  clear hsm h01 tb
  go_enter Tryd.func6, Tryd.ntmps6
  go_wp2_with fail
  refine (unhide HB).mono ?_
  rintro e w1 ⟨rfl, hx1⟩
  clear HB
  have hz1 := Z8_new w1
  have hxz := hx1.trans (Z8_ext w1)
  have hgw : w.heap.size ≤ w1.heap.size := hx1.size
  unfold Z8 at hz1 hxz
  have HZ := hide hz1
  clear hz1
  go_wp2_with fail
  generalize hg : w1.heap.size = g at *
  generalize w1.alloc (.cells #[.int .u16 0, .int .u16 0, .int .u16 0, .int .u16 0, .int .u16 0, .int .u16 0, .int .u16 0, .int .u16 0] 23) = w2 at *
  clear hg
  go_loopw [4] (fun i wr => ∃ k : Nat, k ≤ 8 ∧ i = .int .i64 k ∧ Hid (wr.heap[g]? = some (.cells (((bitL m).take k).map U ++ List.replicate (8 - k) (U 0)).toArray 23 (0, 0))) ∧ Below g w2 wr) (fun i _ => 8 - (intOf i).toNat)
  case atStart => exact ⟨0, by omega, rfl, HZ, Below.refl _ _⟩
  case round =>
    clear HZ
    obtain ⟨k, hk, rfl, HG, hb⟩ := hrel
    by_cases hk8 : k < 8
    · have hk8' : (k : Int) < 8 := by omega
      have hband := unhide HBT k hk8
      rw [← unhide HAT k hk8] at hband
      have hv1 : (bitL m).getD k 0 ≤ 1 := unhide H01 _ (by simp [List.getD, show k < (bitL m).length from hk8])
      have c0 : (wr.cell? ⟨g, k, none⟩) = some (U 0) := by
        have hg := unhide HG
        have hl : (((bitL m).take k).map U).length = k := by rw [List.length_map, List.length_take, h8]; omega
        simp [World.cell?, hg, List.getElem?_append_right, List.getElem?_replicate, h8, show min k 8 = k by omega, show ¬ 8 - k = 0 by omega]
      have f0 := froz8 (unhide HG) k
      have HG2 : Hid ((wr.setCell ⟨g, k, none⟩ (U ((bitL m).getD k 0))).heap[g]? = some (.cells (((bitL m).take (k + 1)).map U ++ List.replicate (8 - (k + 1)) (U 0)).toArray 23 (0, 0))) := by
        show _ = _
        rw [set_heap (unhide HG), fill_set (bitL m) k hk8 h8]
      have hw16 : IntKind.u16.wrap (((bitL m).getD k 0 : Nat) : Int) = (((bitL m).getD k 0 : Nat) : Int) := by rw [IntKind.wrap_u16]; omega
      have KK : Hid ((∃ k' : Nat, k' ≤ 8 ∧ Value.int .i64 ((k : Int) + 1) = .int .i64 k' ∧ Hid ((wr.setCell ⟨g, k, none⟩ (U ((bitL m).getD k 0))).heap[g]? = some (.cells (((bitL m).take k').map U ++ List.replicate (8 - k') (U 0)).toArray 23 (0, 0))) ∧ Below g w2 (wr.setCell ⟨g, k, none⟩ (U ((bitL m).getD k 0)))) ∧ 8 - ((k : Int) + 1).toNat < 8 - k) :=
        ⟨⟨k + 1, by omega, by simp, HG2, hb.trans (below_set (Nat.le_refl _))⟩, by omega⟩
      clear HG HG2 HBT HAT H01 HSM HSH HTB
      generalize (bitL m).getD k 0 = v at *
      go_wp2
      exact unhide KK
    · have hk8' : ¬ (k : Int) < 8 := by omega
      have hx2 : Ext w wr := Below.trans hxz (Below.mono hb hgw)
      have HA : Hid (wr.heap[g]? = some (.cells ((bitL m).map U).toArray 23 (0, 0))) := by
        have h1 := unhide HG
        rw [List.take_of_length_le (by rw [h8]; omega), show 8 - k = 0 by omega] at h1
        show _ = _
        rw [h1]
        simp
      clear HG HBT HAT hb hxz
      generalize bitL m = a at *
      have HC : Hid (∀ j, j < 8 → wr.cell? ⟨g, j, none⟩ = some (U (a.getD j 0))) := fun j hj => by
        have := unhide HA
        simp [World.cell?, this, List.getD, show j < a.length by omega]
      have HZB : Hid (∀ j, j < 8 → (zb a).getD j false = (a.getD j 0 == 0)) := fun j hj => zb_at (by rw [h8]; exact hj)
      have hbl : (zb a).length = 8 := by rw [zb_len, h8]
      have HEND := hide (sW_end a h8)
      have HRF := hide (row_facts a h8)
      generalize hbs : zb a = bs at *
      have HBS := hide hbs
      clear hbs
      go_wp2_with fail
      go_loopw [5, 6, 7] (fun at' n i wr2 => ∃ i' : Nat, i = .int .i64 i' ∧ at' = .int .i64 (drow bs i').1 ∧ n = .int .i64 ((drow bs i').2 : Int) ∧ i' ≤ 8 ∧ wr2 = wr) (fun _ _ i _ => 8 - (intOf i).toNat)
      case atStart => exact ⟨0, rfl, rfl, rfl, by omega, rfl⟩
      case round =>
        obtain ⟨i, rfl, rfl, rfl, hi, hw2⟩ := hrel
        have hw3 := hw2.symm
        subst hw3
        clear hw2
        by_cases hi8 : i < 8
        · have hi8' : (i : Int) < 8 := by omega
          clear HRF HEND HSH HSM H01 HTB HA
          go_wp2_with fail
          go_loopw [8] (fun j wr' => ∃ j' : Nat, j = .int .i64 j' ∧ i ≤ j' ∧ j' ≤ 8 ∧ Hid (runB (bs.drop i) = (j' - i) + runB (bs.drop j')) ∧ wr' = wr) (fun j _ => 8 - (intOf j).toNat)
          case atStart => exact ⟨i, rfl, Nat.le_refl _, by omega, hide (by omega), rfl⟩
          case round =>
            obtain ⟨j, rfl, hij, hj8, HJ, hw⟩ := hrel
            have hw3 := hw.symm
            subst hw3
            clear hw
            by_cases hj : j < 8
            · have hj' : (j : Int) < 8 := by omega
              have c0 := unhide HC j hj
              have hz := unhide HZB j hj
              by_cases hx0 : a.getD j 0 = 0
              · have hxb : (((a.getD j 0 : Nat) : Int) == 0) = true := by rw [hx0]; rfl
                have HJ2 : Hid (runB (bs.drop i) = (j + 1 - i) + runB (bs.drop (j + 1))) := by
                  show _ = _
                  have h1 := runB_yes (bs := bs) (j := j) (by rw [hbl]; exact hj) (by rw [hz, hx0]; rfl)
                  have h2 := unhide HJ
                  omega
                clear HJ hz hx0 HC HZB
                generalize a.getD j 0 = x at *
                go_wp2
                exact ⟨⟨j + 1, by simp, by omega, by omega, HJ2, by first | rfl | trivial⟩, by simp [intOf]; omega⟩
              · have hxb : (((a.getD j 0 : Nat) : Int) == 0) = false := by
                  rw [beq_eq_false_iff_ne]
                  omega
                have hrun : runB (bs.drop j) = 0 := runB_no (by rw [hbl]; exact hj) (by rw [hz]; simpa using hx0)
                have hz2 : runB (bs.drop i) = j - i := by
                  have h2 := unhide HJ
                  omega
                clear hrun hz hx0
                generalize a.getD j 0 = x at *
                have hn0 := drow_le bs i
                rw [hbl] at hn0
                by_cases hq : (drow bs i).2 < j - i
                · have hd := drow_yes bs i (j - i) hz2.symm hq
                  have q1 : ((drow bs i).2 : Int) < (j : Int) - (i : Int) := by omega
                  have KK : Hid ((∃ i' : Nat, Value.int .i64 ((i : Int) + 1) = .int .i64 i' ∧ Value.int .i64 (i : Int) = .int .i64 (drow bs i').1 ∧ Value.int .i64 ((j : Int) - (i : Int)) = .int .i64 ((drow bs i').2 : Int) ∧ i' ≤ 8 ∧ wr = wr) ∧ 8 - ((i : Int) + 1).toNat < 8 - i) := by
                    refine ⟨⟨i + 1, by simp, by rw [hd], ?_, by omega, rfl⟩, by omega⟩
                    rw [hd]
                    show Value.int .i64 ((j : Int) - (i : Int)) = .int .i64 ((j - i : Nat) : Int)
                    congr 1
                    omega
                  clear HJ hz2 hd HC HZB
                  go_wp2
                  obtain ⟨⟨i', e1, e2, e3, e4, _⟩, e5⟩ := unhide KK
                  exact ⟨⟨i', e1, e2, e3, e4, by first | rfl | trivial⟩, e5⟩
                · have hd := drow_no bs i (j - i) hz2.symm hq
                  have q1 : ¬ ((drow bs i).2 : Int) < (j : Int) - (i : Int) := by omega
                  have KK : Hid ((∃ i' : Nat, Value.int .i64 ((i : Int) + 1) = .int .i64 i' ∧ Value.int .i64 (drow bs i).1 = .int .i64 (drow bs i').1 ∧ Value.int .i64 ((drow bs i).2 : Int) = .int .i64 ((drow bs i').2 : Int) ∧ i' ≤ 8 ∧ wr = wr) ∧ 8 - ((i : Int) + 1).toNat < 8 - i) :=
                    ⟨⟨i + 1, by simp, by rw [hd], by rw [hd], by omega, rfl⟩, by omega⟩
                  clear HJ hz2 hd HC HZB
                  go_wp2
                  obtain ⟨⟨i', e1, e2, e3, e4, _⟩, e5⟩ := unhide KK
                  exact ⟨⟨i', e1, e2, e3, e4, by first | rfl | trivial⟩, e5⟩
            · have hj' : ¬ (j : Int) < 8 := by omega
              have hz2 : runB (bs.drop i) = j - i := by
                have h2 := unhide HJ
                have h3 := runB_end (bs := bs) (j := j) (by rw [hbl]; omega)
                omega
              have hn0 := drow_le bs i
              rw [hbl] at hn0
              by_cases hq : (drow bs i).2 < j - i
              · have hd := drow_yes bs i (j - i) hz2.symm hq
                have q1 : ((drow bs i).2 : Int) < (j : Int) - (i : Int) := by omega
                have KK : Hid ((∃ i' : Nat, Value.int .i64 ((i : Int) + 1) = .int .i64 i' ∧ Value.int .i64 (i : Int) = .int .i64 (drow bs i').1 ∧ Value.int .i64 ((j : Int) - (i : Int)) = .int .i64 ((drow bs i').2 : Int) ∧ i' ≤ 8 ∧ wr = wr) ∧ 8 - ((i : Int) + 1).toNat < 8 - i) := by
                  refine ⟨⟨i + 1, by simp, by rw [hd], ?_, by omega, rfl⟩, by omega⟩
                  rw [hd]
                  show Value.int .i64 ((j : Int) - (i : Int)) = .int .i64 ((j - i : Nat) : Int)
                  congr 1
                  omega
                clear HJ hz2 hd HC HZB
                go_wp2
                obtain ⟨⟨i', e1, e2, e3, e4, _⟩, e5⟩ := unhide KK
                exact ⟨⟨i', e1, e2, e3, e4, by first | rfl | trivial⟩, e5⟩
              · have hd := drow_no bs i (j - i) hz2.symm hq
                have q1 : ¬ ((drow bs i).2 : Int) < (j : Int) - (i : Int) := by omega
                have KK : Hid ((∃ i' : Nat, Value.int .i64 ((i : Int) + 1) = .int .i64 i' ∧ Value.int .i64 (drow bs i).1 = .int .i64 (drow bs i').1 ∧ Value.int .i64 ((drow bs i).2 : Int) = .int .i64 ((drow bs i').2 : Int) ∧ i' ≤ 8 ∧ wr = wr) ∧ 8 - ((i : Int) + 1).toNat < 8 - i) :=
                  ⟨⟨i + 1, by simp, by rw [hd], by rw [hd], by omega, rfl⟩, by omega⟩
                clear HJ hz2 hd HC HZB
                go_wp2
                obtain ⟨⟨i', e1, e2, e3, e4, _⟩, e5⟩ := unhide KK
                exact ⟨⟨i', e1, e2, e3, e4, by first | rfl | trivial⟩, e5⟩
        · have hi8e : i = 8 := by omega
          subst hi8e
          obtain ⟨hfe, he8, hy, hnn⟩ := unhide HRF
          clear HRF HZB HBS
          generalize (rowOf bs).1 = fr at *
          generalize (rowOf bs).2 = en at *
          have HQ : Hid (∀ i : Nat, i < 8 → i = fr → ((i : Int) == (drow bs 8).1) = true ∧ fr < en ∧ (drow bs 8).2 = en - fr) := fun i hi e => by
            by_cases hlt : fr < en
            · rw [(hy hlt).1]
              exact ⟨by rw [e]; simp, hlt, rfl⟩
            · have := (hnn hlt).1
              omega
          have HN : Hid (∀ i : Nat, i < 8 → i ≠ fr → ((i : Int) == (drow bs 8).1) = false) := fun i hi e => by
            rw [beq_eq_false_iff_ne]
            by_cases hlt : fr < en
            · rw [(hy hlt).1]
              show (i : Int) ≠ (fr : Int)
              omega
            · rw [(hnn hlt).2]
              show (i : Int) ≠ -1
              omega
          have HF : Hid (fr < en ∨ fr = 8) := by
            show _ ∨ _
            by_cases hlt : fr < en
            · exact .inl hlt
            · exact .inr (hnn hlt).1
          clear hy hnn
          generalize (drow bs 8).1 = at' at *
          generalize (drow bs 8).2 = n at *
          have HS0 : Hid (S (sW a fr en 0) = S []) := congrArg S (sW_zero a fr en)
          go_wp2_with fail
          go_loopw [9, 10] (fun want i wr2 => ∃ i' : Nat, i = .int .i64 i' ∧ i' ≤ 8 ∧ (i' ≤ fr ∨ en ≤ i') ∧ want = S (sW a fr en i') ∧ Ext w wr2 ∧ Hid (wr2.heap[g]? = some (.cells (a.map U).toArray 23 (0, 0)))) (fun _ i _ => 8 - (intOf i).toNat)
          case atStart => exact ⟨0, rfl, by omega, by omega, (unhide HS0).symm, hx2, HA⟩
          case round =>
            clear hx2 HA HC HS0
            obtain ⟨i, rfl, hi, hif, rfl, hx2, HA⟩ := hrel
            by_cases hi8 : i < 8
            · have hi8' : (i : Int) < 8 := by omega
              have hl9 := sW_len a h8 (unhide HSM) fr en i
              by_cases hif2 : i = fr
              · have hif3 := hif2.symm
                subst hif3
                clear hif2
                obtain ⟨q1, hlt, hn⟩ := unhide HQ fr hi8 rfl
                obtain ⟨m, rfl⟩ : ∃ m, en = fr + m := ⟨en - fr, by omega⟩
                obtain rfl : n = m := by omega
                clear hn
                have hm1 : 0 < n := by omega
                have hc : (⟨(sW a fr (fr + n) fr).toArray⟩ : ByteArray) ++ ⟨#[58, 58]⟩ = ⟨(sW a fr (fr + n) (fr + n)).toArray⟩ := by
                  rw [sW_gap a fr (fr + n) hlt]
                  exact cat_to _ [58, 58]
                have KK : Hid ((∃ i' : Nat, Value.int .i64 ((fr : Int) + (n : Int)) = .int .i64 i' ∧ i' ≤ 8 ∧ (i' ≤ fr ∨ fr + n ≤ i') ∧ Value.string ⟨(sW a fr (fr + n) (fr + n)).toArray⟩ = S (sW a fr (fr + n) i') ∧ Ext w wr ∧ Hid (wr.heap[g]? = some (.cells (a.map U).toArray 23 (0, 0)))) ∧ 8 - ((fr : Int) + (n : Int)).toNat < 8 - fr) :=
                  ⟨⟨fr + n, by simp, he8, .inr (Nat.le_refl _), rfl, hx2, HA⟩, by omega⟩
                clear HQ HN HA HF HEND HSH HSM H01 HTB
                generalize sW a fr (fr + n) fr = q at *
                generalize sW a fr (fr + n) (fr + n) = q2 at *
                go_wp2
                exact unhide KK
              · have q1 := unhide HN i hi8 hif2
                have c1 : wr.cell? ⟨g, i, none⟩ = some (U (a.getD i 0)) := by
                  simp [World.cell?, unhide HA, List.getD, show i < a.length by omega]
                have hv1 : a.getD i 0 ≤ 1 := unhide H01 _ (by simp [List.getD, show i < a.length by omega])
                obtain ⟨hd1, hd2⟩ := bit_digit _ hv1
                have hxa : Ext wr (wr.alloc (.cells #[B (hexd (a.getD i 0))] 5)) := Ext.alloc _ _
                have RL := RdV.lit wr [B (hexd (a.getD i 0))] 5 (0, 0) (by simp)
                have hcs := oconv_str (wr.alloc (.cells #[B (hexd (a.getD i 0))] 5)) (some ⟨wr.heap.size, 0, none⟩) 1 1 [hexd (a.getD i 0)] rfl RL
                have HA2 : Hid ((wr.alloc (.cells #[B (hexd (a.getD i 0))] 5)).heap[g]? = some (.cells (a.map U).toArray 23 (0, 0))) := heap_ext (unhide HA) hxa
                have hx3 := hx2.trans hxa
                have FIN : Hid (sW a fr en (i + 1) = sW a fr en (i + 1) → (∃ i' : Nat, Value.int .i64 ((i : Int) + 1) = .int .i64 i' ∧ i' ≤ 8 ∧ (i' ≤ fr ∨ en ≤ i') ∧ Value.string ⟨(sW a fr en (i + 1)).toArray⟩ = S (sW a fr en i') ∧ Ext w (wr.alloc (.cells #[B (hexd (a.getD i 0))] 5)) ∧ Hid ((wr.alloc (.cells #[B (hexd (a.getD i 0))] 5)).heap[g]? = some (.cells (a.map U).toArray 23 (0, 0)))) ∧ 8 - ((i : Int) + 1).toNat < 8 - i) := fun _ =>
                  ⟨⟨i + 1, by simp, by omega, by omega, rfl, hx3, HA2⟩, by omega⟩
                by_cases hpl : i = 0 ∧ i < fr ∨ i = en ∧ fr < en
                · obtain ⟨hw1, hw2⟩ := sW_plain a fr en i (by omega) (by have := unhide HF; omega) hpl
                  rw [hd2] at hw1
                  have hc : (⟨(sW a fr en i).toArray⟩ : ByteArray) ++ ⟨[hexd (a.getD i 0)].toArray⟩ = ⟨(sW a fr en (i + 1)).toArray⟩ := by rw [hw1]; exact cat_to _ _
                  have KK := hide (unhide FIN rfl)
                  clear HQ HN HA HF HEND HSH HSM HTB HA2 H01 FIN hw1 RL hxa hx3
                  rw [hd1] at *
                  generalize sW a fr en (i + 1) = q2 at *
                  generalize sW a fr en i = q at *
                  generalize hexd (a.getD i 0) = hx at *
                  generalize a.getD i 0 = v at *
                  by_cases hq : q = []
                  · have hie : q.isEmpty = true := by rw [hq]; rfl
                    clear hw2 hq
                    go_wp2
                    exact unhide KK
                  · have hl58 := hw2.resolve_left hq
                    have hlp := List.length_pos_iff.2 hq
                    have hie : q.isEmpty = false := by simpa using hq
                    have ix := idx_str wr q .i64 (q.length - 1) (by omega)
                    rw [show ((q.length - 1 : Nat) : Int) = (q.length : Int) - 1 by omega, show q.getD (q.length - 1) 0 = 58 from hl58] at ix
                    clear hw2 hq hl58
                    go_wp2
                    exact unhide KK
                · obtain ⟨hw1, hw2, hw3⟩ := sW_colon a fr en i (by omega) (by have := unhide HF; omega) (by have := unhide HF; omega) hfe
                  rw [hd2] at hw1
                  have hc0 : (⟨(sW a fr en i).toArray⟩ : ByteArray) ++ ⟨#[58]⟩ = ⟨(sW a fr en i ++ [58]).toArray⟩ := cat_to _ [58]
                  have hc : (⟨(sW a fr en i ++ [58]).toArray⟩ : ByteArray) ++ ⟨[hexd (a.getD i 0)].toArray⟩ = ⟨(sW a fr en (i + 1)).toArray⟩ := by rw [hw1]; exact cat_to _ _
                  have KK := hide (unhide FIN rfl)
                  clear HQ HN HA HF HEND HSH HSM HTB HA2 H01 FIN hw1 RL hxa hx3
                  rw [hd1] at *
                  generalize sW a fr en (i + 1) = q2 at *
                  generalize sW a fr en i = q at *
                  generalize hexd (a.getD i 0) = hx at *
                  generalize a.getD i 0 = v at *
                  have hlp := List.length_pos_iff.2 hw2
                  have hie : q.isEmpty = false := by simpa using hw2
                  have ix := idx_str wr q .i64 (q.length - 1) (by omega)
                  rw [show ((q.length - 1 : Nat) : Int) = (q.length : Int) - 1 by omega] at ix
                  have hyb : (((q.getD (q.length - 1) 0).toNat : Int) == 58) = false := by
                    rw [beq_eq_false_iff_ne]
                    intro e
                    exact hw3 (UInt8.toNat_inj.1 (by show (q.getD (q.length - 1) 0).toNat = 58; omega))
                  clear hw2 hw3
                  generalize q.getD (q.length - 1) 0 = y at *
                  have hl10 : (q ++ [58]).length ≤ 101 := by rw [List.length_append]; simp; omega
                  generalize q ++ [58] = q1' at *
                  go_wp2
                  exact unhide KK
            · have hi8e : i = 8 := by omega
              subst hi8e
              have HE := unhide HEND
              have HSH2 := hide (unhide HSH wr hx2)
              clear HQ HN HF HEND HSH HSM H01 HTB
              generalize sW a fr en 8 = q at *
              generalize shw6 a = r at *
              obtain ⟨x0, x1, x2, x3, x4, x5, x6, x7, rfl⟩ := list8 a h8
              have HA' := unhide HA
              obtain ⟨d0, d1, d2, d3, d4, d5, d6, d7⟩ := cells8of (show wr.heap[g]? = some (.cells #[U x0, U x1, U x2, U x3, U x4, U x5, U x6, U x7] 23 (0, 0)) from HA')
              clear HA HA'
              have HSH3 : Hid (Calls Tryd.prog 12 #[.agg #[U x0, U x1, U x2, U x3, U x4, U x5, U x6, U x7]] wr fun e w' => e = .returned (S r) ∧ Ext wr w') := unhide HSH2
              clear HSH2
              go_wp2_with fail
              refine (unhide HSH3).mono ?_
              rintro e w3 ⟨rfl, hx3⟩
              have HX := hide (hx2.trans hx3)
              clear HSH3 d0 d1 d2 d3 d4 d5 d6 d7
              have hqq : (r == q) = true := by rw [HE]; simp
              have hb2 : ((⟨r.toArray⟩ : ByteArray).toList == (⟨q.toArray⟩ : ByteArray).toList) = true := by rw [HE]; simp
              go_wp2
              go_ret
              exact ⟨rfl, unhide HX⟩
end Go.Proofs.YtmohdhffoilndaaDoor
