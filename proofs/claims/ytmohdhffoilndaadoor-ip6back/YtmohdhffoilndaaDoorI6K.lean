/-
  What is shown is parsed, in large letters too.
-/
import Derived.Test.YtmohdhffoilndaaDoorI6J
import Derived.Test.YtmohdhffoilndaaDoorI6E2
namespace Go.Proofs.YtmohdhffoilndaaDoor
set_option linter.unusedVariables false
open Go.RowKit

/-- Bytes of the call's own, as a conversion lays them. -/
def BW (w : World) (g c : Nat) (bs : List UInt8) : Prop := ∃ m n, w.heap[g]? = some (.cells (bs.map B ++ List.replicate (c - bs.length) (B 0)).toArray 5 (m, n)) ∧ bs.length ≤ m
theorem conv_bytes7 (w : World) (bs : List UInt8) (hm : bs.length ≤ 1000000) : ∃ c w', (convert 9 30 (S bs)).run Tryd.prog w = .ok (.slice (some ⟨w.heap.size, 0, none⟩) bs.length c) w' ∧ BW w' w.heap.size c bs ∧ Ext w w' ∧ bs.length ≤ c ∧ c ≤ 9223372036854775807 := by
  have hr := run_bytes_of_string (P := Tryd.prog) w 9 30 5 ⟨bs.toArray⟩ Tryd.underlying9 Tryd.underlying30 Tryd.underlying5
  have hsz : (⟨bs.toArray⟩ : ByteArray).size = bs.length := by simp [ByteArray.size]
  rw [hsz] at hr
  have hle := grownCap_ge w bs.length 0 5
  have hmx := grownCap_le_maxLen w bs.length 0 5 (by unfold maxLen; omega)
  unfold maxLen at hmx
  generalize grownCap w bs.length 0 5 = c at *
  have hcl : bs.length ≤ c := by simpa using hle
  have hb : bytesRow ⟨bs.toArray⟩ c = (bs.map B ++ List.replicate (c - bs.length) (B 0)).toArray := by
    unfold bytesRow
    rw [hsz]
    apply Array.toList_inj.1
    simp [B]
  rw [hb] at hr
  refine ⟨c, _, hr, ⟨_, _, alloc_new w.drew _, by simp⟩, (Ext.drew w).trans (Ext.alloc w.drew _), hcl, by omega⟩
theorem BW.cell {w : World} {g c : Nat} {bs : List UInt8} (h : BW w g c bs) (i : Nat) (hi : i < bs.length) : w.cell? ⟨g, i, none⟩ = some (B (bs.getD i 0)) := by
  obtain ⟨m, n, h, _⟩ := h
  simp [World.cell?, h, List.getElem?_append_left, hi, List.getD]
theorem BW.froz {w : World} {g c : Nat} {bs : List UInt8} (h : BW w g c bs) (i : Nat) (hi : i < bs.length) : w.frozen? ⟨g, i, none⟩ = false := by
  obtain ⟨m, n, h, hm⟩ := h
  simp [World.frozen?, h]
  omega
theorem BW.put {w : World} {g c : Nat} {bs : List UInt8} (h : BW w g c bs) (i : Nat) (hi : i < bs.length) (x : UInt8) : BW (w.setCell ⟨g, i, none⟩ (B x)) g c (bs.set i x) := by
  obtain ⟨m, n, h, hm⟩ := h
  refine ⟨m, n, ?_, by rw [List.length_set]; exact hm⟩
  rw [set_heap h, List.setIfInBounds_toArray, List.set_append_left _ _ (by rw [List.length_map]; exact hi), List.length_set, ← List.map_set]
theorem BW.rd {w : World} {g c : Nat} {bs : List UInt8} (h : BW w g c bs) (hl : bs.length ≤ c) (hc : c ≤ 9223372036854775807) : RdV w (some ⟨g, 0, none⟩) c (bs.map B) := by
  refine ⟨by rw [List.length_map]; exact hl, hc, fun e => (by cases e), fun i hi => ⟨g, 0, rfl, ?_⟩⟩
  rw [List.length_map] at hi
  rw [Nat.zero_add, h.cell i hi, getB bs i hi]
theorem up_low (x : UInt8) (h1 : 97 ≤ x.toNat) (h2 : x.toNat ≤ 102) : ((up x).toNat : Int) = (x.toNat : Int) - 32 := by
  refine byte_of (fun x => 97 ≤ x.toNat → x.toNat ≤ 102 → ((up x).toNat : Int) = (x.toNat : Int) - 32) ?_ x h1 h2
  decide +kernel
theorem up_same (x : UInt8) (h : ¬ (97 ≤ x.toNat ∧ x.toNat ≤ 102)) : up x = x := by
  unfold up
  rw [if_neg h]
theorem set_mid (l : List UInt8) (k : Nat) (hk : k < l.length) (f : UInt8 → UInt8) : ((l.take k).map f ++ l.drop k).set k (f (l.getD k 0)) = (l.take (k + 1)).map f ++ l.drop (k + 1) := by
  have hl : ((l.take k).map f).length = k := by rw [List.length_map, List.length_take]; omega
  rw [List.set_append_right k _ (by omega), hl, Nat.sub_self, List.drop_eq_getElem_cons hk, List.set_cons_zero, take_snoc l k 0 hk]
  simp
theorem mid_at (l : List UInt8) (k : Nat) (hk : k < l.length) (f : UInt8 → UInt8) : ((l.take k).map f ++ l.drop k).getD k 0 = l.getD k 0 := by
  have hl : ((l.take k).map f).length = k := by rw [List.length_map, List.length_take]; omega
  simp only [List.getD]
  rw [List.getElem?_append_right (by omega), hl, Nat.sub_self, List.getElem?_drop, Nat.add_zero]
theorem mid_len (l : List UInt8) (k : Nat) (f : UInt8 → UInt8) : ((l.take k).map f ++ l.drop k).length = l.length := by
  rw [List.length_append, List.length_map, List.length_take, List.length_drop]
  omega
theorem mid_same (l : List UInt8) (k : Nat) (hk : k < l.length) (f : UInt8 → UInt8) (h : f (l.getD k 0) = l.getD k 0) : (l.take k).map f ++ l.drop k = (l.take (k + 1)).map f ++ l.drop (k + 1) := by
  rw [← set_mid l k hk f, h, ← mid_at l k hk f]
  have hl := mid_len l k f
  generalize (l.take k).map f ++ l.drop k = q at *
  have : q.getD k 0 = q[k] := by simp [List.getD, show k < q.length by omega]
  rw [this, List.set_getElem_self]
theorem shw6_len (a : List Nat) (h : a.length = 8) (hs : small a) : (shw6 a).length ≤ 100 := by
  have h1 := jp_len (a.take (rowOf (zb a)).1) (small_take hs _)
  have h2 := jp_len (a.drop (rowOf (zb a)).2) (small_drop hs _)
  rw [List.length_take] at h1
  rw [List.length_drop] at h2
  unfold shw6
  rw [List.length_append]
  split
  · simp
    omega
  · simp
    omega

set_option maxHeartbeats 4000000 in
set_option maxRecDepth 100000 in
theorem back6_walk (a0 a1 a2 a3 a4 a5 a6 a7 : Nat) (hsm : small [a0, a1, a2, a3, a4, a5, a6, a7]) (w : World) (tb : Tb8 w) : Calls Tryd.prog 4 #[.agg #[U a0, U a1, U a2, U a3, U a4, U a5, U a6, U a7]] w fun e w' => e = .returned (.bool true) ∧ Ext w w' := by
  have hxa : Ext w (X8 w a0 a1 a2 a3 a4 a5 a6 a7) := Ext.alloc _ _
  have hA : (X8 w a0 a1 a2 a3 a4 a5 a6 a7).heap[w.heap.size]? = some (.cells #[U a0, U a1, U a2, U a3, U a4, U a5, U a6, U a7] 23 (0, 0)) := alloc_new _ _
  have HB := hide (begun_yes _ (tb.below hxa))
  have HTB := hide (fun w' (hx : Ext w w') => tb.below hx)
  have HSW := hide (fun w' (hx : Ext w w') => show6_any a0 a1 a2 a3 a4 a5 a6 a7 w' hsm (tb.below hx))
  go_enter Tryd.func4, Tryd.ntmps4
  go_wp2_with fail
  refine (unhide HB).mono ?_
  rintro e w1 ⟨rfl, hx1⟩
  clear HB
  have hA1 := heap_ext hA hx1
  have hx01 := hxa.trans hx1
  clear hA hx1 hxa
  generalize hgw : w.heap.size = g at *
  obtain ⟨d0, d1, d2, d3, d4, d5, d6, d7⟩ := cells8of hA1
  go_wp2_with fail
  refine (unhide HSW _ hx01).mono ?_
  rintro e w2 ⟨rfl, hx2⟩
  clear HSW d0 d1 d2 d3 d4 d5 d6 d7
  have hl100 := shw6_len _ rfl hsm
  have HP1 := hide (shw6_back _ rfl hsm)
  have HP2 := hide (shw6_up _ rfl hsm)
  have hA2 := heap_ext hA1 hx2
  have hx02 := hx01.trans hx2
  clear hA1 hx01 hx2
  generalize shw6 [a0, a1, a2, a3, a4, a5, a6, a7] = l at *
  obtain ⟨c, w3, hcv, hbw, hx3, hlc, hcm⟩ := conv_bytes7 w2 l (by omega)
  have hg2 : w2.heap.size < w3.heap.size := by
    obtain ⟨m, n, hh, _⟩ := hbw
    exact heap_lt hh
  have hA3 := heap_ext hA2 hx3
  have hx03 := hx02.trans hx3
  have hgl := heap_lt hA2
  have HBW := hide hbw
  clear hbw hA2 hx02 hx3
  go_wp2_with fail
  generalize w2.heap.size = g2 at *
  go_loopw [5] (fun i wr => ∃ k : Nat, k ≤ l.length ∧ i = .int .i64 k ∧ Hid (BW wr g2 c ((l.take k).map up ++ l.drop k)) ∧ Below g2 w3 wr) (fun i _ => l.length - (intOf i).toNat)
  case atStart => exact ⟨0, by omega, rfl, HBW, Below.refl _ _⟩
  case round =>
    clear HBW
    obtain ⟨k, hk, rfl, HW, hb⟩ := hrel
    by_cases hkl : k < l.length
    · have hkl' : (k : Int) < (l.length : Int) := by omega
      have c0 := (unhide HW).cell k (by rw [mid_len]; exact hkl)
      rw [mid_at l k hkl] at c0
      have f0 := (unhide HW).froz k (by rw [mid_len]; exact hkl)
      by_cases hx : 97 ≤ (l.getD k 0).toNat ∧ (l.getD k 0).toNat ≤ 102
      · have HW2 := (unhide HW).put k (by rw [mid_len]; exact hkl) (up (l.getD k 0))
        rw [set_mid l k hkl] at HW2
        have hup := up_low _ hx.1 hx.2
        have q1 : (97 : Int) ≤ ((l.getD k 0).toNat : Int) := by omega
        have q2 : ((l.getD k 0).toNat : Int) ≤ 102 := by omega
        have KK : Hid ((∃ k' : Nat, k' ≤ l.length ∧ Value.int .i64 ((k : Int) + 1) = .int .i64 k' ∧ Hid (BW (wr.setCell ⟨g2, k, none⟩ (.int .u8 (((l.getD k 0).toNat : Int) - 32))) g2 c ((l.take k').map up ++ l.drop k')) ∧ Below g2 w3 (wr.setCell ⟨g2, k, none⟩ (.int .u8 (((l.getD k 0).toNat : Int) - 32)))) ∧ l.length - ((k : Int) + 1).toNat < l.length - k) := by
          refine ⟨⟨k + 1, by omega, by simp, ?_, hb.trans (below_set (Nat.le_refl _))⟩, by omega⟩
          rw [← hup]
          exact HW2
        clear HW HW2 hup hx HP1 HP2
        generalize l.getD k 0 = x at *
        go_wp2
        exact unhide KK
      · have HW2 := hide (unhide HW)
        rw [mid_same l k hkl up (up_same _ hx)] at HW2
        have KK : Hid ((∃ k' : Nat, k' ≤ l.length ∧ Value.int .i64 ((k : Int) + 1) = .int .i64 k' ∧ Hid (BW wr g2 c ((l.take k').map up ++ l.drop k')) ∧ Below g2 w3 wr) ∧ l.length - ((k : Int) + 1).toNat < l.length - k) :=
          ⟨⟨k + 1, by omega, by simp, HW2, hb⟩, by omega⟩
        have hq : (97 : Int) ≤ ((l.getD k 0).toNat : Int) → ¬ ((l.getD k 0).toNat : Int) ≤ 102 := fun h1 h2 => hx ⟨by omega, by omega⟩
        clear HW HW2 hx HP1 HP2
        generalize l.getD k 0 = x at *
        by_cases q1 : (97 : Int) ≤ (x.toNat : Int)
        · have q2 := hq q1
          go_wp2
          exact unhide KK
        · clear hq
          go_wp2
          exact unhide KK
    · have hkl' : ¬ (k : Int) < (l.length : Int) := by omega
      rw [List.take_of_length_le (by omega), List.drop_of_length_le (by omega), List.append_nil] at HW
      have hA4 : wr.heap[g]? = some (.cells #[U a0, U a1, U a2, U a3, U a4, U a5, U a6, U a7] 23 (0, 0)) := (hb.block g hgl).trans hA3
      have hx04 : Ext w wr := Below.trans hx03 (Below.mono hb (by omega))
      have H1 : Hid (Calls Tryd.prog 10 #[S l] wr fun e w' => e = .returned (.tuple #[.agg #[U a0, U a1, U a2, U a3, U a4, U a5, U a6, U a7], .int .i64 0]) ∧ Ext wr w') := parse6_lit l (some [a0, a1, a2, a3, a4, a5, a6, a7]) (unhide HP1) (by omega) wr (unhide HTB wr hx04)
      have H2 : Hid (∀ v, Ext w v → Calls Tryd.prog 10 #[S (l.map up)] v fun e w' => e = .returned (.tuple #[.agg #[U a0, U a1, U a2, U a3, U a4, U a5, U a6, U a7], .int .i64 0]) ∧ Ext v w') := fun v hv => parse6_lit (l.map up) (some [a0, a1, a2, a3, a4, a5, a6, a7]) (unhide HP2) (by rw [List.length_map]; omega) v (unhide HTB v hv)
      clear HP1 HP2 HTB hA3 hx03 hb hkl' hcv
      go_wp2_with fail
      refine (unhide H1).mono ?_
      rintro e w5 ⟨rfl, hx5⟩
      clear H1
      have hA5 := heap_ext hA4 hx5
      have hx05 := hx04.trans hx5
      have hB6 : (w5.alloc (.cells #[U a0, U a1, U a2, U a3, U a4, U a5, U a6, U a7] 23)).heap[w5.heap.size]? = some (.cells #[U a0, U a1, U a2, U a3, U a4, U a5, U a6, U a7] 23 (0, 0)) := alloc_new _ _
      have hA6 := heap_ext hA5 (Ext.alloc w5 (.cells #[U a0, U a1, U a2, U a3, U a4, U a5, U a6, U a7] 23))
      have hx06 := hx05.trans (Ext.alloc w5 (.cells #[U a0, U a1, U a2, U a3, U a4, U a5, U a6, U a7] 23))
      have hW6 : BW (w5.alloc (.cells #[U a0, U a1, U a2, U a3, U a4, U a5, U a6, U a7] 23)) g2 c (l.map up) := by
        obtain ⟨m, n, hh, hm⟩ := unhide HW
        exact ⟨m, n, heap_ext hh (hx5.trans (Ext.alloc w5 _)), hm⟩
      have hcs := oconv_str (w5.alloc (.cells #[U a0, U a1, U a2, U a3, U a4, U a5, U a6, U a7] 23)) (some ⟨g2, 0, none⟩) l.length c (l.map up) (List.length_map _) (hW6.rd (by rw [List.length_map]; exact hlc) hcm)
      have HQ := hide (unhide H2 _ hx06)
      clear H2 HW hW6 hA4 hA5 hx04 hx05 hx5
      generalize l.map up = lu at *
      go_wp2_with fail
      refine (unhide HQ).mono ?_
      rintro e w7 ⟨rfl, hx7⟩
      clear HQ
      have hB7 := heap_ext hB6 hx7
      have hA7 := heap_ext hA6 hx7
      have hx07 := hx06.trans hx7
      have HX := hide (hx07.trans (Ext.alloc w7 (.cells #[U a0, U a1, U a2, U a3, U a4, U a5, U a6, U a7] 23)))
      obtain ⟨c0, c1, c2, c3, c4, c5, c6, c7⟩ := cells8of (heap_ext hB7 (Ext.alloc w7 (.cells #[U a0, U a1, U a2, U a3, U a4, U a5, U a6, U a7] 23)))
      obtain ⟨d0, d1, d2, d3, d4, d5, d6, d7⟩ := cells8of (heap_ext hA7 (Ext.alloc w7 (.cells #[U a0, U a1, U a2, U a3, U a4, U a5, U a6, U a7] 23)))
      clear hB6 hA6 hx06 hx7 hB7 hA7 hx07 hcs
      have heq := fun v => eql8 v (a0 : Int) (a1 : Int) (a2 : Int) (a3 : Int) (a4 : Int) (a5 : Int) (a6 : Int) (a7 : Int)
      go_wp2
      go_ret
      exact ⟨rfl, unhide HX⟩
end Go.Proofs.YtmohdhffoilndaaDoor
