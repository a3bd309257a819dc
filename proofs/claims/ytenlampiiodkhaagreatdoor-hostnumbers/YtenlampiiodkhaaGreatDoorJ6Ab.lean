/-
  J6A.
-/
import Derived.Test.YtenlampiiodkhaaGreatDoorI6Ob
import Derived.Test.YtenlampiiodkhaaGreatDoorBNb
namespace Go.Proofs.YtenlampiiodkhaaGreatDoor
set_option linter.unusedVariables false
open Go.RowKit

theorem hex_slice16 (d : Nat) (hd : d < 16) (v : World) : (Instr.slice 9 (.string ⟨#[48, 49, 50, 51, 52, 53, 54, 55, 56, 57, 97, 98, 99, 100, 101, 102]⟩) (some (.int .u16 (d : Int))) (some (.int .u16 ((d : Int) + 1))) none).run Tryz.prog v = .ok (S [hexd d]) v := by
  have h := run_slice_string v 9 ⟨hexs.toArray⟩ .u16 .u16 (d : Int) ((d : Int) + 1) Tryz.underlying9 (by omega) (by omega) (by show (d : Int) + 1 ≤ 16; omega)
  rw [show ((d : Int)).toNat = d by omega, show ((d : Int) + 1).toNat = d + 1 by omega, hexs_at ⟨d, hd⟩] at h
  exact h

theorem cell_lj {w : World} {g : Nat} {l : List Nat} {t : TypeId} {fr : Nat × Nat} (h : w.heap[g]? = some (.cells (l.map U).toArray t fr)) (k : Nat) (hk : k < l.length) : w.cell? ⟨g, k, none⟩ = some (U (l.getD k 0)) := by
  have h2 : w.cell? ⟨g, k, none⟩ = (l.map U)[k]? := by simp [World.cell?, h]
  rw [h2, List.getElem?_map, List.getElem?_eq_getElem hk]
  simp [List.getD, hk]

set_option maxHeartbeats 2000000 in
set_option maxRecDepth 100000 in
theorem piece_any (n : Nat) (w : World) (hn : n < 65536) : Calls Tryz.prog 54 #[.int .u16 (n : Int)] w fun e w' => e = .returned (S (bdg 16 n)) ∧ Ext w w' := by
  have fin : ∀ s, s = bdg 16 n → Ending.returned (S s) = .returned (S (bdg 16 n)) := fun s h => by rw [h]
  have FIN := hide fin
  clear fin
  go_enter Tryz.func54, Tryz.ntmps54
  go_wp2_with fail
  go_loopw [0, 3] (fun x s wr => ∃ (m : Nat) (acc : List UInt8), x = .int .u16 (m : Int) ∧ s = S acc ∧ Hid (Wrt 16 n m acc) ∧ m < 65536 ∧ Ext w wr) (fun x _ _ => (intOf x).toNat)
  case atStart => exact ⟨n, [], rfl, rfl, Wrt.start 16 n, hn, Ext.refl _⟩
  case round =>
    obtain ⟨m, acc, rfl, rfl, HW, hm, hx⟩ := hrel
    have hlen := (unhide HW).len (by omega)
    obtain ⟨d, hd⟩ : ∃ d, d = m % 16 := ⟨_, rfl⟩
    have hd16 : d < 16 := by omega
    have hrem : (m : Int) % 16 = (d : Int) := by omega
    have hsl := fun v => hex_slice16 d (by omega) v
    have hcat := cat_one (hexd d) acc
    have hl2 : ¬ 9223372036854775807 < 1 + acc.length := by omega
    by_cases hmb : m < 16
    · have hq : (m : Int) / 16 = 0 := by omega
      have HF := hide (unhide FIN (hexd d :: acc) (by rw [(unhide HW).last (by decide) hmb, ← hd]))
      clear HW hd FIN
      generalize hexd d :: acc = Z at *
      generalize hexd d = xd at *
      go_wp2
      go_ret
      exact ⟨unhide HF, hx⟩
    · obtain ⟨q, hq⟩ : ∃ q, q = m / 16 := ⟨_, rfl⟩
      have hqi : (m : Int) / 16 = (q : Int) := by omega
      have hq0 : ((q : Int) == 0) = false := by simp; omega
      have hq0' : ¬ (q : Int) = 0 := by omega
      have KK : Hid ((∃ (m' : Nat) (acc' : List UInt8), Value.int .u16 (q : Int) = .int .u16 (m' : Int) ∧ S (hexd d :: acc) = S acc' ∧ Hid (Wrt 16 n m' acc') ∧ m' < 65536 ∧ Ext w wr) ∧ ((q : Int)).toNat < ((m : Int)).toNat) :=
        ⟨⟨q, hexd d :: acc, rfl, rfl, by rw [hq, hd]; exact (unhide HW).next (by decide) hmb, by omega, hx⟩, by omega⟩
      clear HW hd FIN hq
      generalize hexd d :: acc = Z at *
      generalize hexd d = xd at *
      go_wp2
      exact unhide KK

set_option maxHeartbeats 4000000 in
set_option maxRecDepth 100000 in
theorem rshow6_any (x0 x1 x2 x3 x4 x5 x6 x7 : Nat) (w : World) (hsm : i6small [x0, x1, x2, x3, x4, x5, x6, x7]) : Calls Tryz.prog 22 #[.agg #[U x0, U x1, U x2, U x3, U x4, U x5, U x6, U x7]] w fun e w' => e = .returned (S (shw6 [x0, x1, x2, x3, x4, x5, x6, x7])) ∧ Ext w w' := by
  have hxa : Ext w (w.alloc (.cells #[U x0, U x1, U x2, U x3, U x4, U x5, U x6, U x7] 36)) := Ext.alloc _ _
  have hA0 : (w.alloc (.cells #[U x0, U x1, U x2, U x3, U x4, U x5, U x6, U x7] 36)).heap[w.heap.size]? = some (.cells #[U x0, U x1, U x2, U x3, U x4, U x5, U x6, U x7] 36 (0, 0)) := alloc_new _ _
  obtain ⟨a, ha⟩ : ∃ a, a = [x0, x1, x2, x3, x4, x5, x6, x7] := ⟨_, rfl⟩
  have h8 : a.length = 8 := by rw [ha]; rfl
  rw [← ha] at hsm
  have HSM := hide hsm
  have HA : Hid ((w.alloc (.cells #[U x0, U x1, U x2, U x3, U x4, U x5, U x6, U x7] 36)).heap[w.heap.size]? = some (.cells (a.map U).toArray 36 (0, 0))) := by rw [ha]; exact hA0
  have FIN : Hid (∀ s, s = shw6 a → Ending.returned (S s) = .returned (S (shw6 [x0, x1, x2, x3, x4, x5, x6, x7]))) := fun s h => by rw [h, ha]
  clear hsm hA0
  have HA' := HA
  go_enter Tryz.func22, Tryz.ntmps22
  have HC0 : Hid (∀ j, j < 8 → (w.alloc (.cells #[U x0, U x1, U x2, U x3, U x4, U x5, U x6, U x7] 36)).cell? ⟨w.heap.size, j, none⟩ = some (U (a.getD j 0))) := fun j hj => cell_lj (unhide HA) j (by omega)
  have HZB : Hid (∀ j, j < 8 → (zb a).getD j false = (a.getD j 0 == 0)) := fun j hj => zb_at (by rw [h8]; exact hj)
  have hbl : (zb a).length = 8 := by rw [zb_len, h8]
  have HEND := hide (sW_end a h8)
  have HRF := hide (row_facts a h8)
  generalize hbs : zb a = bs at *
  clear hbs HA' ha
  go_wp2_with fail
  generalize w.alloc (.cells #[U x0, U x1, U x2, U x3, U x4, U x5, U x6, U x7] 36) = wa at *
  generalize w.heap.size = g at *
  go_loopw [3, 4, 5] (fun at' n i wr2 => ∃ i' : Nat, i = .int .i64 i' ∧ at' = .int .i64 (drow bs i').1 ∧ n = .int .i64 ((drow bs i').2 : Int) ∧ i' ≤ 8 ∧ wr2 = wa) (fun _ _ i _ => 8 - (intOf i).toNat)
  case atStart => exact ⟨0, rfl, rfl, rfl, by omega, rfl⟩
  case round =>
    obtain ⟨i, rfl, rfl, rfl, hi, hw2⟩ := hrel
    have hw3 := hw2.symm
    subst hw3
    clear hw2
    by_cases hi8 : i < 8
    · have hi8' : (i : Int) < 8 := by omega
      clear HRF HEND HSM HA FIN hxa
      go_wp2_with fail
      go_loopw [6] (fun nn wr' => ∃ n' : Nat, nn = .int .i64 n' ∧ i + n' ≤ 8 ∧ Hid (runB (bs.drop i) = n' + runB (bs.drop (i + n'))) ∧ wr' = wa) (fun nn _ => 8 - (intOf nn).toNat)
      case atStart => exact ⟨0, rfl, by omega, hide (by simp), rfl⟩
      case round =>
        obtain ⟨n', rfl, hij, HJ, hw⟩ := hrel
        have hw3 := hw.symm
        subst hw3
        clear hw
        obtain ⟨j, hj⟩ : ∃ j, j = i + n' := ⟨_, rfl⟩
        have hpos : (i : Int) + (n' : Int) = (j : Int) := by omega
        have hj9 : (j : Int) ≤ 8 := by omega
        have hn0 := drow_le bs i
        rw [hbl] at hn0
        rw [← hj] at HJ
        by_cases hj8 : j < 8
        · have hj' : (j : Int) < 8 := by omega
          have c0 := unhide HC0 j hj8
          have hz := unhide HZB j hj8
          by_cases hx0 : a.getD j 0 = 0
          · have hxb : (((a.getD j 0 : Nat) : Int) == 0) = true := by rw [hx0]; rfl
            have HJ2 : Hid (runB (bs.drop i) = (n' + 1) + runB (bs.drop (i + (n' + 1)))) := by
              show _ = _
              have h1 := runB_yes (bs := bs) (j := j) (by rw [hbl]; exact hj8) (by rw [hz, hx0]; rfl)
              have h2 := unhide HJ
              rw [show i + (n' + 1) = j + 1 by omega]
              omega
            have KK : Hid ((∃ n2 : Nat, Value.int .i64 ((n' : Int) + 1) = .int .i64 n2 ∧ i + n2 ≤ 8 ∧ Hid (runB (bs.drop i) = n2 + runB (bs.drop (i + n2))) ∧ True) ∧ 8 - ((n' : Int) + 1).toNat < 8 - n') := ⟨⟨n' + 1, by simp, by omega, HJ2, trivial⟩, by omega⟩
            clear HJ hz hx0 HC0 HZB HJ2 hj hij
            generalize a.getD j 0 = x at *
            go_wp2
            obtain ⟨⟨n2, e1, e2, e3, _⟩, e5⟩ := unhide KK
            exact ⟨⟨n2, e1, e2, e3, by first | rfl | trivial⟩, e5⟩
          · have hxb : (((a.getD j 0 : Nat) : Int) == 0) = false := by
              rw [beq_eq_false_iff_ne]
              omega
            have hrun : runB (bs.drop j) = 0 := runB_no (by rw [hbl]; exact hj8) (by rw [hz]; simpa using hx0)
            have hz2 : runB (bs.drop i) = n' := by
              have h2 := unhide HJ
              omega
            clear hrun hz hx0 HJ
            generalize a.getD j 0 = x at *
            by_cases hq : (drow bs i).2 < n'
            · have hd := drow_yes bs i n' hz2.symm hq
              have q1 : ((drow bs i).2 : Int) < (n' : Int) := by omega
              have KK : Hid ((∃ i' : Nat, Value.int .i64 ((i : Int) + 1) = .int .i64 i' ∧ Value.int .i64 (i : Int) = .int .i64 (drow bs i').1 ∧ Value.int .i64 (n' : Int) = .int .i64 ((drow bs i').2 : Int) ∧ i' ≤ 8 ∧ True) ∧ 8 - ((i : Int) + 1).toNat < 8 - i) := ⟨⟨i + 1, by simp, by rw [hd], by rw [hd], by omega, trivial⟩, by omega⟩
              clear hz2 hd HC0 HZB hj hij hq
              go_wp2
              obtain ⟨⟨i', e1, e2, e3, e4, _⟩, e5⟩ := unhide KK
              exact ⟨⟨i', e1, e2, e3, e4, by first | rfl | trivial⟩, e5⟩
            · have hd := drow_no bs i n' hz2.symm hq
              have q1 : ¬ ((drow bs i).2 : Int) < (n' : Int) := by omega
              have KK : Hid ((∃ i' : Nat, Value.int .i64 ((i : Int) + 1) = .int .i64 i' ∧ Value.int .i64 (drow bs i).1 = .int .i64 (drow bs i').1 ∧ Value.int .i64 ((drow bs i).2 : Int) = .int .i64 ((drow bs i').2 : Int) ∧ i' ≤ 8 ∧ True) ∧ 8 - ((i : Int) + 1).toNat < 8 - i) := ⟨⟨i + 1, by simp, by rw [hd], by rw [hd], by omega, trivial⟩, by omega⟩
              clear hz2 hd HC0 HZB hj hij hq
              go_wp2
              obtain ⟨⟨i', e1, e2, e3, e4, _⟩, e5⟩ := unhide KK
              exact ⟨⟨i', e1, e2, e3, e4, by first | rfl | trivial⟩, e5⟩
        · have hj' : ¬ (j : Int) < 8 := by omega
          have hz2 : runB (bs.drop i) = n' := by
            have h2 := unhide HJ
            have h3 := runB_end (bs := bs) (j := j) (by rw [hbl]; omega)
            omega
          clear HJ
          by_cases hq : (drow bs i).2 < n'
          · have hd := drow_yes bs i n' hz2.symm hq
            have q1 : ((drow bs i).2 : Int) < (n' : Int) := by omega
            have KK : Hid ((∃ i' : Nat, Value.int .i64 ((i : Int) + 1) = .int .i64 i' ∧ Value.int .i64 (i : Int) = .int .i64 (drow bs i').1 ∧ Value.int .i64 (n' : Int) = .int .i64 ((drow bs i').2 : Int) ∧ i' ≤ 8 ∧ True) ∧ 8 - ((i : Int) + 1).toNat < 8 - i) := ⟨⟨i + 1, by simp, by rw [hd], by rw [hd], by omega, trivial⟩, by omega⟩
            clear hz2 hd HC0 HZB hj hij hq
            go_wp2
            obtain ⟨⟨i', e1, e2, e3, e4, _⟩, e5⟩ := unhide KK
            exact ⟨⟨i', e1, e2, e3, e4, by first | rfl | trivial⟩, e5⟩
          · have hd := drow_no bs i n' hz2.symm hq
            have q1 : ¬ ((drow bs i).2 : Int) < (n' : Int) := by omega
            have KK : Hid ((∃ i' : Nat, Value.int .i64 ((i : Int) + 1) = .int .i64 i' ∧ Value.int .i64 (drow bs i).1 = .int .i64 (drow bs i').1 ∧ Value.int .i64 ((drow bs i).2 : Int) = .int .i64 ((drow bs i').2 : Int) ∧ i' ≤ 8 ∧ True) ∧ 8 - ((i : Int) + 1).toNat < 8 - i) := ⟨⟨i + 1, by simp, by rw [hd], by rw [hd], by omega, trivial⟩, by omega⟩
            clear hz2 hd HC0 HZB hj hij hq
            go_wp2
            obtain ⟨⟨i', e1, e2, e3, e4, _⟩, e5⟩ := unhide KK
            exact ⟨⟨i', e1, e2, e3, e4, by first | rfl | trivial⟩, e5⟩
    · have hi8e : i = 8 := by omega
      have hD : drow bs 8 = drow bs i := by rw [hi8e]
      obtain ⟨hfe, he8, hy, hnn⟩ := unhide HRF
      rw [hD] at hy hnn
      clear hD hi8e
      clear HRF HZB
      generalize (rowOf bs).1 = fr at *
      generalize (rowOf bs).2 = en at *
      have HQ : Hid (∀ i2 : Nat, i2 < 8 → i2 = fr → ((i2 : Int) == (drow bs i).1) = true ∧ fr < en ∧ (drow bs i).2 = en - fr) := fun i2 hi e => by
        by_cases hlt : fr < en
        · rw [(hy hlt).1]
          exact ⟨by rw [e]; simp, hlt, rfl⟩
        · have := (hnn hlt).1
          omega
      have HN : Hid (∀ i2 : Nat, i2 < 8 → i2 ≠ fr → ((i2 : Int) == (drow bs i).1) = false) := fun i2 hi e => by
        rw [beq_eq_false_iff_ne]
        by_cases hlt : fr < en
        · rw [(hy hlt).1]
          show (i2 : Int) ≠ (fr : Int)
          omega
        · rw [(hnn hlt).2]
          show (i2 : Int) ≠ -1
          omega
      have HF : Hid (fr < en ∨ fr = 8) := by
        show _ ∨ _
        by_cases hlt : fr < en
        · exact .inl hlt
        · exact .inr (hnn hlt).1
      clear hy hnn HC0
      generalize (drow bs i).1 = at' at *
      generalize (drow bs i).2 = n at *
      have HS0 : Hid (S (sW a fr en 0) = S []) := congrArg S (sW_zero a fr en)
      go_wp2_with fail
      go_loopw [7, 8] (fun want i wr2 => ∃ i' : Nat, i = .int .i64 i' ∧ i' ≤ 8 ∧ (i' ≤ fr ∨ en ≤ i') ∧ want = S (sW a fr en i') ∧ Ext wa wr2) (fun _ i _ => 8 - (intOf i).toNat)
      case atStart => exact ⟨0, rfl, by omega, by omega, (unhide HS0).symm, Ext.refl _⟩
      case round =>
        clear HS0
        obtain ⟨i, rfl, hi, hif, rfl, hx2⟩ := hrel
        have hl9 := sW_len a h8 (unhide HSM) fr en i
        by_cases hi8 : i < 8
        · have hi8' : (i : Int) < 8 := by omega
          by_cases hif2 : i = fr
          · have hif3 := hif2.symm
            subst hif3
            clear hif2
            obtain ⟨q1, hlt, hn⟩ := unhide HQ fr hi8 rfl
            obtain ⟨m, rfl⟩ : ∃ m, en = fr + m := ⟨en - fr, by omega⟩
            obtain rfl : n = m := by omega
            clear hn
            have hm1 : 0 < n := by omega
            have hc : (⟨(sW a fr (fr + n) fr).toArray⟩ : ByteArray) ++ ⟨#[58, 58]⟩ = ⟨(sW a fr (fr + n) (fr + n)).toArray⟩ := by
              rw [sW_gap a fr (fr + n) hlt]
              exact cat_to _ [58, 58]
            have KK : Hid ((∃ i' : Nat, Value.int .i64 ((fr : Int) + (n : Int)) = .int .i64 i' ∧ i' ≤ 8 ∧ (i' ≤ fr ∨ fr + n ≤ i') ∧ Value.string ⟨(sW a fr (fr + n) (fr + n)).toArray⟩ = S (sW a fr (fr + n) i') ∧ Ext wa wr) ∧ 8 - ((fr : Int) + (n : Int)).toNat < 8 - fr) :=
              ⟨⟨fr + n, by simp, he8, .inr (Nat.le_refl _), rfl, hx2⟩, by omega⟩
            clear HQ HN HA HF HEND HSM FIN
            generalize sW a fr (fr + n) fr = q at *
            generalize sW a fr (fr + n) (fr + n) = q2 at *
            go_wp2
            exact unhide KK
          · have q1 := unhide HN i hi8 hif2
            have c1 : wr.cell? ⟨g, i, none⟩ = some (U (a.getD i 0)) := cell_lj (heap_ext (unhide HA) hx2) i (by omega)
            have hv : a.getD i 0 < 65536 := unhide HSM _ (by simp only [List.getD, List.getElem?_eq_getElem (show i < a.length by omega), Option.getD_some]; exact List.getElem_mem _)
            have HPC := hide (piece_any (a.getD i 0) wr hv)
            have hb4 := bdg16_len _ hv
            have KK : Hid (∀ u, Ext wr u → (∃ i' : Nat, Value.int .i64 ((i : Int) + 1) = .int .i64 i' ∧ i' ≤ 8 ∧ (i' ≤ fr ∨ en ≤ i') ∧ Value.string ⟨(sW a fr en (i + 1)).toArray⟩ = S (sW a fr en i') ∧ Ext wa u) ∧ 8 - ((i : Int) + 1).toNat < 8 - i) := fun u hu =>
              ⟨⟨i + 1, by simp, by omega, by omega, rfl, hx2.trans hu⟩, by omega⟩
            by_cases hpl : i = 0 ∧ i < fr ∨ i = en ∧ fr < en
            · obtain ⟨hw1, hw2⟩ := sW_plain a fr en i (by omega) (by have := unhide HF; omega) hpl
              have hc : (⟨(sW a fr en i).toArray⟩ : ByteArray) ++ ⟨(bdg 16 (a.getD i 0)).toArray⟩ = ⟨(sW a fr en (i + 1)).toArray⟩ := by rw [hw1]; exact cat_to _ _
              clear HQ HN HA HF HEND HSM FIN hw1
              generalize sW a fr en (i + 1) = q2 at *
              generalize sW a fr en i = q at *
              generalize bdg 16 (a.getD i 0) = z at *
              generalize a.getD i 0 = v at *
              by_cases hq : q = []
              · have hie : q.isEmpty = true := by rw [hq]; rfl
                clear hw2 hq
                go_wp2_with fail
                refine (unhide HPC).mono ?_
                rintro e w3 ⟨rfl, hx3⟩
                have KK2 := hide (unhide KK w3 hx3)
                clear HPC KK hx3 hx2 c1
                go_wp2
                exact unhide KK2
              · have hl58 := hw2.resolve_left hq
                have hlp := List.length_pos_iff.2 hq
                have hie : q.isEmpty = false := by simpa using hq
                have ix := idx_str wr q .i64 (q.length - 1) (by omega)
                rw [show ((q.length - 1 : Nat) : Int) = (q.length : Int) - 1 by omega, show q.getD (q.length - 1) 0 = 58 from hl58] at ix
                clear hw2 hq hl58
                go_wp2_with fail
                refine (unhide HPC).mono ?_
                rintro e w3 ⟨rfl, hx3⟩
                have KK2 := hide (unhide KK w3 hx3)
                clear HPC KK hx3 hx2 c1
                go_wp2
                exact unhide KK2
            · obtain ⟨hw1, hw2, hw3⟩ := sW_colon a fr en i (by omega) (by have := unhide HF; omega) (by have := unhide HF; omega) hfe
              have hc0 : (⟨(sW a fr en i).toArray⟩ : ByteArray) ++ ⟨#[58]⟩ = ⟨(sW a fr en i ++ [58]).toArray⟩ := cat_to _ [58]
              have hc : (⟨(sW a fr en i ++ [58]).toArray⟩ : ByteArray) ++ ⟨(bdg 16 (a.getD i 0)).toArray⟩ = ⟨(sW a fr en (i + 1)).toArray⟩ := by rw [hw1]; exact cat_to _ _
              clear HQ HN HA HF HEND HSM FIN hw1
              generalize sW a fr en (i + 1) = q2 at *
              generalize sW a fr en i = q at *
              generalize bdg 16 (a.getD i 0) = z at *
              generalize a.getD i 0 = v at *
              have hlp := List.length_pos_iff.2 hw2
              have hie : q.isEmpty = false := by simpa using hw2
              have ix := idx_str wr q .i64 (q.length - 1) (by omega)
              rw [show ((q.length - 1 : Nat) : Int) = (q.length : Int) - 1 by omega] at ix
              have hyb : (((q.getD (q.length - 1) 0).toNat : Int) == 58) = false := by
                rw [beq_eq_false_iff_ne]
                intro e
                exact hw3 (UInt8.toNat_inj.1 (by show (q.getD (q.length - 1) 0).toNat = 58; omega))
              clear hw2 hw3
              generalize q.getD (q.length - 1) 0 = y at *
              have hl10 : (q ++ [58]).length ≤ 101 := by rw [List.length_append]; simp; omega
              generalize q ++ [58] = q1' at *
              go_wp2_with fail
              refine (unhide HPC).mono ?_
              rintro e w3 ⟨rfl, hx3⟩
              have KK2 := hide (unhide KK w3 hx3)
              clear HPC KK hx3 hx2 c1
              go_wp2
              exact unhide KK2
        · have hi8e : i = 8 := by omega
          subst hi8e
          have HE := hide (unhide FIN _ (unhide HEND))
          have HX := hide (hxa.trans hx2)
          clear FIN HEND HQ HN HF HSM HA
          generalize sW a fr en 8 = q at *
          go_wp2
          go_ret
          exact ⟨unhide HE, unhide HX⟩
end Go.Proofs.YtenlampiiodkhaaGreatDoor
