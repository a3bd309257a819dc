/-
  Where code points from 128 on stand, the least first, and of one code point the one ahead.
-/
import Derived.Test.YtgnkhfmpooomkaaDoorSrtE
import Derived.Test.YtgnkhfmpooomkaaDoorPunyN
namespace Go.Proofs.YtgnkhfmpooomkaaDoor
set_option linter.unusedVariables false
open Go.RowKit

set_option maxHeartbeats 1000000 in
set_option maxRecDepth 100000 in
theorem nan_any (x : Int) (w : World) : Calls Tryd.prog 94 #[R x] w fun e w' => e = .returned (.bool false) ∧ w' = w := by
  unfold R
  go_enter Tryd.func94, Tryd.ntmps94
  go_wp2
  go_ret
  simp

set_option maxHeartbeats 1000000 in
set_option maxRecDepth 100000 in
theorem cmp_any (x y : Nat) (w : World) : Calls Tryd.prog 85 #[.int .i32 (x : Int), .int .i32 (y : Int)] w fun e w' => e = .returned (.int .i64 (cf x y)) ∧ w' = w := by
  have C1 := hide (nan_any (x : Int) w)
  have C2 := hide (nan_any (y : Int) w)
  unfold R at C1 C2
  have fin : ∀ z : Int, z = cf x y → Ending.returned (.int .i64 z) = .returned (.int .i64 (cf x y)) := fun z h => by rw [h]
  have FIN := hide fin
  clear fin
  go_enter Tryd.func85, Tryd.ntmps85
  go_wp2_with fail
  refine (unhide C1).mono ?_
  rintro e w1 ⟨rfl, hw⟩
  subst hw
  go_wp2_with fail
  refine (unhide C2).mono ?_
  rintro e w1 ⟨rfl, hw⟩
  subst hw
  clear C1 C2
  by_cases h1 : x < y
  · have h1' : (x : Int) < (y : Int) := by omega
    go_wp2
    go_ret
    exact ⟨unhide FIN _ (by unfold cf; rw [if_pos h1]), rfl⟩
  · have h1' : ¬ (x : Int) < (y : Int) := by omega
    by_cases h2 : y < x
    · have h2' : (y : Int) < (x : Int) := by omega
      go_wp2
      go_ret
      exact ⟨unhide FIN _ (by unfold cf; rw [if_neg h1, if_pos h2]), rfl⟩
    · have h2' : ¬ (y : Int) < (x : Int) := by omega
      go_wp2
      go_ret
      exact ⟨unhide FIN _ (by unfold cf; rw [if_neg h1, if_neg h2]), rfl⟩

/-- The closure compares the code points at two places. -/
theorem close_any (ns : List Nat) (bb : Nat) (ao : Option Addr) (cap : Nat) (blk : Nat) (w0 : World) (hm : ns.length ≤ 1000) (hb : w0.cell? ⟨bb, 0, none⟩ = some (.slice ao ns.length cap)) (hbb : bb ≠ blk)
    (hl : RdV w0 ao cap (ns.map fun (x : Nat) => R (x : Int))) (hne : ∀ b off, ao = some ⟨b, off, none⟩ → 0 < ns.length → b ≠ blk) : CmpOK w0 blk ns.length (fun x => ns.getD x 0) (.pointer (some ⟨bb, 0, none⟩)) := by
  intro W hW x y hx hy
  obtain ⟨b, off, rfl, hc⟩ := hl.cells (by simp; omega)
  have hnb := hne b off rfl (by omega)
  have c0 : W.cell? ⟨bb, 0, none⟩ = some (.slice (some ⟨b, off, none⟩) ns.length cap) := by rw [hW.cell (by exact hbb)]; exact hb
  have c1 : W.cell? ⟨b, off + x, none⟩ = some (.int .i32 ((ns.getD x 0 : Nat) : Int)) := by
    rw [hW.cell (by exact hnb), hc x (by simpa using hx)]
    simp [List.getD, hx]
  have c2 : W.cell? ⟨b, off + y, none⟩ = some (.int .i32 ((ns.getD y 0 : Nat) : Int)) := by
    rw [hW.cell (by exact hnb), hc y (by simpa using hy)]
    simp [List.getD, hy]
  have hx' : (x : Int) < (ns.length : Int) := by omega
  have hy' : (y : Int) < (ns.length : Int) := by omega
  clear hc hl hb hW
  show Calls _ _ _ _ fun e w' => e = .returned (.int .i64 (cf (ns.getD x 0) (ns.getD y 0))) ∧ _
  generalize ns.getD x 0 = X at *
  generalize ns.getD y 0 = Y at *
  generalize ns.length = N at *
  have HM := fun v : World => cmp_any X Y v
  generalize cf X Y = z at *
  go_enter Tryd.func84, Tryd.ntmps84
  go_wp2_with fail
  go_quiet ((go_at_call 85; exact Calls.quiet_of_same (HM _)))
  go_wp2
  go_ret
  exact ⟨rfl, nq, rfl⟩

abbrev In (x : Nat) : Value := .int .i64 (x : Int)
/-- The places of those from 128 on, below j. -/
def pos (ns : List Nat) (j : Nat) : List Nat := (List.range j).filter fun x => decide (128 ≤ ns.getD x 0)
theorem pos_succ (ns : List Nat) (j : Nat) : pos ns (j + 1) = pos ns j ++ (if 128 ≤ ns.getD j 0 then [j] else []) := by
  unfold pos
  rw [List.range_succ, List.filter_append]
  congr 1
  simp only [List.filter_cons, List.filter_nil]
  split <;> rename_i h <;> simp at h
  · rw [if_pos (by simpa using h)]
  · rw [if_neg (by simpa using h)]
theorem pos_len (ns : List Nat) (j : Nat) : (pos ns j).length ≤ j := by
  unfold pos
  have := List.length_filter_le (fun x => decide (128 ≤ ns.getD x 0)) (List.range j)
  simpa using this
theorem pos_mem {ns : List Nat} {j x : Nat} : x ∈ pos ns j ↔ x < j ∧ 128 ≤ ns.getD x 0 := by
  unfold pos
  simp [List.mem_filter]
theorem pos_lt (ns : List Nat) (j : Nat) {a b : Nat} (h : a < b) (hb : b < (pos ns j).length) : (pos ns j).getD a 0 < (pos ns j).getD b 0 := by
  have hp : (pos ns j).Pairwise (· < ·) := List.Pairwise.filter _ List.pairwise_lt_range
  have ha : a < (pos ns j).length := by omega
  have := List.pairwise_iff_getElem.1 hp a b ha hb h
  simpa [List.getD, ha, hb] using this
theorem getD_in {l : List Nat} {i : Nat} (h : i < l.length) : l.getD i 0 ∈ l := by simp [List.getD, h]
theorem one_In (l : List Nat) : ∀ u ∈ l.map In, u.oneCell' = true := by
  intro u hu
  obtain ⟨x, _, rfl⟩ := List.mem_map.1 hu
  rfl

/-- The places of those from 128 on, in the order of their code points, and of one code point in theirs. -/
structure Oths (ns : List Nat) (n : Nat) (g : Nat → Nat) : Prop where
  mem : ∀ i, i < n → g i < ns.length ∧ 128 ≤ ns.getD (g i) 0
  all : ∀ x, x < ns.length → 128 ≤ ns.getD x 0 → ∃ i, i < n ∧ g i = x
  ord : ∀ i j, i < j → j < n → ns.getD (g i) 0 < ns.getD (g j) 0 ∨ (ns.getD (g i) 0 = ns.getD (g j) 0 ∧ g i < g j)
theorem infoI : (Tryd.prog.info? 3).map (fun i => (i.zero, i.size, i.bytes)) = some (some (.int .i64 0), 1, 8) := by kernel_rfl

def TellsO (ns : List Nat) (w : World) (e : Ending) (w' : World) : Prop :=
  ∃ (ao : Option Addr) (cap n : Nat) (g : Nat → Nat), e = .returned (.slice ao n cap) ∧ n ≤ 63 ∧ Oths ns n g ∧ RdV w' ao cap ((List.range n).map fun i => In (g i)) ∧ Ext w w' ∧ ∀ b off, ao = some ⟨b, off, none⟩ → w.heap.size ≤ b ∧ IB w' b

set_option maxHeartbeats 1000000 in
set_option maxRecDepth 100000 in
theorem others_any (ns : List Nat) (ao : Option Addr) (cap : Nat) (w : World) (hm : ns.length ≤ 63) (hcp : ∀ x ∈ ns, x ≤ 1114111) (h : RdV w ao cap (ns.map fun (x : Nat) => R (x : Int))) :
    Calls Tryd.prog 68 #[.slice ao ns.length cap] w (TellsO ns w) := by
  have hle := h.le
  have hmx := h.max
  simp only [List.length_map] at hle
  have hbx : (w.alloc (.cells #[.slice ao ns.length cap] 32)).cell? ⟨w.heap.size, 0, none⟩ = some (.slice ao ns.length cap) := by simp
  obtain ⟨w1, hw1⟩ : ∃ v, v = w.alloc (.cells #[.slice ao ns.length cap] 32) := ⟨_, rfl⟩
  have hsz : w1.heap.size = w.heap.size + 1 := by rw [hw1]; simp
  have hE1 : Ext w w1 := by rw [hw1]; exact Ext.alloc w _
  have hR1 := h.below hE1
  have HBL : Hid (∀ b off, ao = some ⟨b, off, none⟩ → 0 < ns.length → b < w.heap.size) := fun b off e h0 => by
    obtain ⟨b', off', e', h'⟩ := h.lt (by simpa using h0)
    rw [e] at e'
    simp only [Option.some.injEq, Addr.mk.injEq] at e'
    obtain ⟨rfl, _, _⟩ := e'
    exact h'
  go_enter Tryd.func68, Tryd.ntmps68
  go_wp2_with fail
  rw [← hw1]
  rw [← hw1] at hbx
  clear hw1
  have HR1 := hide hR1
  have HCP := hide hcp
  clear h hR1 hcp
  go_loopw [3, 8] (fun o i wr => ∃ j : Nat, j ≤ ns.length ∧ i = .int .i64 j ∧ wr.ownsRow (w.heap.size + 1) 3 1 o (pos ns j).length ((pos ns j).map In) ∧ Below (w.heap.size + 1) w1 wr) (fun _ i _ => ns.length - (intOf i).toNat)
  case atStart => exact ⟨0, by omega, rfl, World.ownsRow_nil _ _ _ _, Below.refl _ _⟩
  case round =>
    obtain ⟨j, hj, rfl, ownr, hbr⟩ := hrel
    by_cases hjl : j < ns.length
    · have hpl := pos_len ns j
      have HP := hide (pos_succ ns j)
      obtain ⟨b, off, rfl, hc⟩ := (unhide HR1).cells (by simp; omega)
      have hbw := unhide HBL b off rfl (by omega)
      have c0 : wr.cell? ⟨b, off + j, none⟩ = some (.int .i32 ((ns.getD j 0 : Nat) : Int)) := by
        rw [hbr.cell (p := ⟨b, off + j, none⟩) (show b < w.heap.size + 1 by omega), hc j (by simpa using hjl)]
        simp [List.getD, hjl]
      clear hc
      generalize ns.getD j 0 = x at *
      generalize pos ns j = P at *
      by_cases hx : 128 ≤ x
      · have hx' : (128 : Int) ≤ (x : Int) := by omega
        rw [if_pos hx] at HP
        have RL := RdV.lit wr [In j] 3 (0, 0) (by simp)
        have own2 := owns_below ownr (Ext.alloc wr (.cells #[In j] 3 (0, 0)))
        have hb2 : Below (w.heap.size + 1) w1 (wr.alloc (.cells #[In j] 3 (0, 0))) := hbr.trans (Below.mono (Ext.alloc wr _) (by have := hbr.size; omega))
        have hbase2 : w.heap.size + 1 ≤ (wr.alloc (.cells #[In j] 3 (0, 0))).heap.size := by have := hb2.size; omega
        have hone : ∀ u ∈ [In j], u.oneCell' = true := by simp [In, Value.oneCell']
        clear ownr hbr
        go_wp2_with (at_builtin; refine wpList_app rfl (.tmp 15) (.tmp 17) 95 3 (.int .i64 0) 8 Tryd.underlying95 infoI rfl rfl (w.heap.size + 1) _ _ _ rfl own2 _ _ _ [In j] rfl rfl RL hone (by omega) hbase2 ?_)
        intro v2 w2 o2 b2
        have hb3 := hb2.trans b2
        have own3 : w2.ownsRow (w.heap.size + 1) 3 1 v2 (P ++ [j]).length ((P ++ [j]).map In) := by simpa using o2
        rw [← unhide HP] at own3
        clear own2 RL hone o2 b2 hb2 hbase2 HP
        go_wp2
        exact ⟨⟨j + 1, by omega, by simp, own3, hb3⟩, (show ns.length - ((j : Int) + 1).toNat < ns.length - ((j : Int)).toNat by omega)⟩
      · have hx' : ¬ (128 : Int) ≤ (x : Int) := by omega
        rw [if_neg hx, List.append_nil] at HP
        rw [← unhide HP] at ownr
        clear HP
        go_wp2
        exact ⟨⟨j + 1, by omega, by simp, ownr, hbr⟩, (show ns.length - ((j : Int) + 1).toNat < ns.length - ((j : Int)).toNat by omega)⟩
    · have e : j = ns.length := by omega
      subst e
      clear hjl hj
      have hpl := pos_len ns ns.length
      have hbox : wr.cell? ⟨w.heap.size, 0, none⟩ = some (.slice ao ns.length cap) := by rw [hbr.cell (p := ⟨w.heap.size, 0, none⟩) (show w.heap.size < w.heap.size + 1 by omega)]; exact hbx
      have HRR : Hid (RdV wr ao cap (ns.map fun (x : Nat) => R (x : Int))) := (unhide HR1).below (by unfold Ext; rw [hsz]; exact hbr)
      obtain ⟨ao2, cap2, rfl, HRD, hln⟩ := RdV.of_owned ownr
      have hEX : Ext w wr := Ext.then hE1 hbr (by omega)
      clear HR1
      cases ao2 with
      | none =>
        have hcap0 : cap2 = 0 := HRD.nil rfl
        have hl0 := HRD.le
        simp only [List.length_map] at hl0
        have hp0 : pos ns ns.length = [] := List.eq_nil_of_length_eq_zero (by omega)
        have OT : Hid (Oths ns 0 (fun _ => 0)) := ⟨fun i h => by omega, fun x h1 h2 => by
          have := (pos_mem (ns := ns) (j := ns.length) (x := x)).2 ⟨h1, h2⟩
          rw [hp0] at this
          simp at this, fun i j h1 h2 => by omega⟩
        rw [hp0] at ownr HRD hln hpl
        rw [hp0]
        subst hcap0
        have CC := hide (sort_nil (.pointer (some ⟨w.heap.size, 0, none⟩)) wr)
        clear ownr HRD hp0 hln hpl hl0 HRR
        simp only [List.length_nil]
        go_wp2_with fail
        refine (unhide CC).mono ?_
        rintro e w2 ⟨rfl, hw⟩
        subst hw
        clear CC
        go_wp2
        go_ret
        exact ⟨none, 0, 0, _, rfl, by omega, unhide OT, RdV.nothing _, hEX, fun b off e => by cases e⟩
      | some ad =>
        have hsome : ∃ g, ad = ⟨g, 0, none⟩ ∧ w.heap.size + 1 ≤ g := by
          rcases ownr.2 with ⟨h1, _⟩ | ⟨g, c, cur, h1, h2, _⟩
          · simp at h1
          · simp only [Value.slice.injEq, Option.some.injEq] at h1
            exact ⟨g, h1.1, h2⟩
        obtain ⟨g, rfl, hg⟩ := hsome
        obtain ⟨P, hP⟩ : ∃ P, P = pos ns ns.length := ⟨_, rfl⟩
        have HPM : Hid (∀ x, x ∈ P ↔ x < ns.length ∧ 128 ≤ ns.getD x 0) := fun x => by rw [hP]; exact pos_mem
        have HPL : Hid (∀ a b, a < b → b < P.length → P.getD a 0 < P.getD b 0) := fun a b h1 h2 => by rw [hP] at h2 ⊢; exact pos_lt ns ns.length h1 h2
        rw [← hP] at ownr HRD hln hpl
        rw [← hP]
        clear hP
        have SR : SRow wr g 0 P.length ns.length (fun i => P.getD i 0) wr := by
          refine ⟨fun i hi => ?_, fun i hi => ?_, fun i hi => ((unhide HPM _).1 (getD_in hi)).1, Oth.refl _ _, ?_⟩
          · rw [Nat.zero_add, ownr.cellAt i (by omega)]
            simp [List.getD, hi, In]
          · rw [Nat.zero_add]
            exact ownr.frozenAt i
          · rcases ownr.2 with ⟨h1, _⟩ | ⟨g', c, cur, h1, h2, h3, _⟩
            · simp at h1
            · simp only [Value.slice.injEq, Option.some.injEq, Addr.mk.injEq] at h1
              obtain ⟨⟨rfl, _, _⟩, _⟩ := h1
              exact ⟨cur, (0, 0), h3⟩
        have hCM := close_any ns w.heap.size ao cap g wr (by omega) hbox (by omega) (unhide HRR) (fun b off e h0 => by have := unhide HBL b off e h0; omega)
        have CC := hide (sort_any wr g 0 P.length cap2 ns.length (fun x => ns.getD x 0) (fun i => P.getD i 0) (.pointer (some ⟨w.heap.size, 0, none⟩)) wr hCM SR (fun i j h1 h2 _ => unhide HPL i j h1 h2) (by omega))
        have hcl := HRD.le
        have hcm := HRD.max
        simp only [List.length_map] at hcl
        clear ownr SR hCM HRR HRD hln
        go_wp2_with fail
        refine (unhide CC).mono ?_
        rintro e w2 ⟨rfl, gg, O, A⟩
        have fin : TellsO ns w (.returned (.slice (some ⟨g, 0, none⟩) P.length cap2)) w2 := by
          refine ⟨some ⟨g, 0, none⟩, cap2, P.length, gg, rfl, by omega, ⟨fun i hi => ?_, fun x h1 h2 => ?_, fun i j h1 h2 => ?_⟩, ⟨by simpa using hcl, hcm, fun e => (by cases e), fun i hi => ?_⟩, hEX.then (O.1.oth.below (Below.refl _ _) (Nat.le_refl _)) (by omega), fun b off e => ?_⟩
          · obtain ⟨q, hq, eq⟩ := O.2.1.at i ⟨Nat.zero_le _, hi⟩
            rw [eq]
            exact (unhide HPM _).1 (getD_in hq.2)
          · obtain ⟨q, hq, eq⟩ := List.getElem_of_mem ((unhide HPM x).2 ⟨h1, h2⟩)
            obtain ⟨i, hi, ei⟩ := O.2.1.back q ⟨Nat.zero_le _, hq⟩
            refine ⟨i, hi.2, ?_⟩
            rw [ei]
            simp [List.getD, hq, eq]
          · have h3 := A i j (Nat.zero_le _) h1 h2
            have h4 := O.2.2 i j h1 h2
            simp only at h3 h4
            rcases Nat.lt_or_ge (ns.getD (gg i) 0) (ns.getD (gg j) 0) with h5 | h5
            · exact .inl h5
            · exact .inr ⟨by omega, h4 (by omega)⟩
          · have hi' : i < P.length := by simpa using hi
            refine ⟨g, 0, rfl, ?_⟩
            rw [O.1.cell i hi']
            simp [hi', In]
          · simp only [Option.some.injEq, Addr.mk.injEq] at e
            obtain ⟨rfl, _, _⟩ := e
            exact ⟨by omega, O.1.ty⟩
        have FIN := hide fin
        clear fin CC O A
        go_wp2
        go_ret
        exact unhide FIN
end Go.Proofs.YtgnkhfmpooomkaaDoor
