/-
  DmB.
-/
import Derived.Test.YtenlampiiodkhaaGreatDoorDmAc
import Derived.Test.YtenlampiiodkhaaGreatDoorBDc
import Derived.Test.YtenlampiiodkhaaGreatDoorBUc
namespace Go.Proofs.YtenlampiiodkhaaGreatDoor
set_option linter.unusedVariables false
open Go.RowKit
theorem eq_of_getD {rs qs : List Int} (hl : qs.length = rs.length) (h : ∀ i, i < rs.length → rs.getD i 0 = qs.getD i 0) : rs = qs := by
  apply List.ext_getElem hl.symm; intro i h1 h2; have := h i h1; simpa [List.getD, h1, h2] using this
set_option maxHeartbeats 1000000 in
theorem equal_some (b off cap b2 off2 cap2 : Nat) (rs qs : List Int) (w : World) (hl : qs.length = rs.length) (hlc : rs.length ≤ cap) (hlc2 : rs.length ≤ cap2) (hmx : cap ≤ 9223372036854775807) (hmx2 : cap2 ≤ 9223372036854775807)
    (hc : ∀ i, i < rs.length → w.cell? ⟨b, off + i, none⟩ = some (R (rs.getD i 0))) (hc2 : ∀ i, i < rs.length → w.cell? ⟨b2, off2 + i, none⟩ = some (R (qs.getD i 0))) :
    Calls Tryz.prog 134 #[.slice (some ⟨b, off, none⟩) rs.length cap, .slice (some ⟨b2, off2, none⟩) rs.length cap2] w fun e w' => e = .returned (.bool (decide (rs = qs))) ∧ Ext w w' := by
  have fin : ∀ b : Bool, b = decide (rs = qs) → Ending.returned (.bool b) = .returned (.bool (decide (rs = qs))) := fun b h => by rw [h]
  have FIN := hide fin; clear fin; have HL := hide hl; clear hl; go_enter Tryz.func134, Tryz.ntmps134; go_wp2
  go_loopw [13] (fun i wr => ∃ k : Nat, k ≤ rs.length ∧ i = .int .i64 k ∧ Hid (∀ i, i < k → rs.getD i 0 = qs.getD i 0) ∧ ∃ n, wr = w.drewN n) (fun i _ => rs.length - (intOf i).toNat)
  case atStart => exact ⟨0, Nat.zero_le _, rfl, hide (fun i hi => absurd hi (by omega)), 0, rfl⟩
  case round =>
    obtain ⟨k, hk, rfl, HE, n, rfl⟩ := hrel; by_cases hkl : k < rs.length
    · have c1 := hc k hkl; have c2 := hc2 k hkl; have i1 : (0 : Int) ≤ (k : Int) := by omega
      have i2 : (k : Int) < (rs.length : Int) := by omega
      by_cases hxy : rs.getD k 0 = qs.getD k 0
      · have HE2 : Hid (∀ i, i < k + 1 → rs.getD i 0 = qs.getD i 0) := fun i hi => by
          rcases Nat.lt_or_ge i k with h | h
          · exact unhide HE i h
          · have : i = k := by omega
            subst this; exact hxy
        rw [← hxy] at c2; clear hxy HE; generalize rs.getD k 0 = x at *; clear hc hc2; go_wp2_with fail
        go_quiet (fail)
        go_wp2; go_roundw
        case rel => exact ⟨k + 1, by omega, by go_num, HE2, n + nq, rfl⟩
        case measure => simp [intOf]; omega
      · have HF : Hid (decide (rs = qs) = false) := by
          show decide (rs = qs) = false; rw [decide_eq_false_iff_not]; intro e; exact hxy (by rw [e])
        have hxy2 : (rs.getD k 0 == qs.getD k 0) = false := by simpa using hxy
        generalize rs.getD k 0 = x at *; generalize qs.getD k 0 = y at *; clear hc hc2 HE; go_wp2_with fail
        go_quiet (fail)
        go_wp2; go_ret; exact ⟨unhide FIN _ (unhide HF).symm, (Ext.drewN _ _).trans (Ext.drewN _ _)⟩
    · have HF : Hid (decide (rs = qs) = true) := by
        show decide (rs = qs) = true; rw [decide_eq_true_iff]; exact eq_of_getD (unhide HL) fun i hi => unhide HE i (by omega)
      clear HE; go_wp2; go_ret; exact ⟨unhide FIN _ (unhide HF).symm, Ext.drewN _ _⟩
theorem equal_none (ao ao2 : Option Addr) (cap cap2 : Nat) (w : World) : Calls Tryz.prog 134 #[.slice ao 0 cap, .slice ao2 0 cap2] w fun e w' => e = .returned (.bool true) ∧ Ext w w' := by
  go_enter Tryz.func134, Tryz.ntmps134; go_wp2; refine wp_loop_rounds 1 ?_; rw [rounds_succ]; go_wp2; go_ret; exact ⟨rfl, Ext.refl _⟩
theorem equal_len (ao ao2 : Option Addr) (l l2 cap cap2 : Nat) (w : World) (hl : l ≠ l2) (h1 : l ≤ cap) (h2 : l2 ≤ cap2) (hm : cap ≤ 9223372036854775807) (hm2 : cap2 ≤ 9223372036854775807) : Calls Tryz.prog 134 #[.slice ao l cap, .slice ao2 l2 cap2] w fun e w' => e = .returned (.bool false) ∧ Ext w w' := by
  have hne : ((l : Int) == (l2 : Int)) = false := by simp; omega
  have hne2 : ¬ ((l : Int) = (l2 : Int)) := by omega
  go_enter Tryz.func134, Tryz.ntmps134; go_wp2; go_ret; exact ⟨rfl, Ext.refl _⟩
theorem equal_any (ao ao2 : Option Addr) (l l2 cap cap2 : Nat) (rs qs : List Int) (w : World) (hl : rs.length = l) (hl2 : qs.length = l2) (h : RdV w ao cap (rs.map R)) (h2 : RdV w ao2 cap2 (qs.map R)) :
    Calls Tryz.prog 134 #[.slice ao l cap, .slice ao2 l2 cap2] w fun e w' => e = .returned (.bool (decide (rs = qs))) ∧ Ext w w' := by
  have g1 := h.le; have g2 := h2.le; simp only [List.length_map] at g1 g2; by_cases hll : l = l2
  · subst hll; subst hl; by_cases h0 : rs.length = 0
    · rw [h0]; have e1 : rs = [] := List.eq_nil_of_length_eq_zero h0; have e2 : qs = [] := List.eq_nil_of_length_eq_zero (by omega); subst e1 e2; exact equal_none ao ao2 cap cap2 w
    · obtain ⟨b, off, rfl, hc⟩ := h.cells (by simp; omega); obtain ⟨b2, off2, rfl, hc2⟩ := h2.cells (by simp; omega); exact equal_some b off cap b2 off2 cap2 rs qs w hl2 g1 (by omega) h.max h2.max (fun i hi => by rw [hc i (by simpa using hi), getR rs i hi]) (fun i hi => by rw [hc2 i (by simp; omega), getR qs i (by omega)])
  · have e : decide (rs = qs) = false := by
      rw [decide_eq_false_iff_not]; intro e; exact hll (by rw [← hl, ← hl2, e])
    rw [e]; exact equal_len ao ao2 l l2 cap cap2 w hll (by omega) (by omega) h.max h2.max
def RdL (w : World) (vs : List Value) (ls : List (List Int)) : Prop :=
  vs.length = ls.length ∧ ∀ i, i < ls.length → ∃ ao cap, vs[i]? = some (.slice ao (ls.getD i []).length cap) ∧ RdV w ao cap ((ls.getD i []).map R)
theorem RdL.nil (w : World) : RdL w [] [] := ⟨rfl, fun i hi => by simp at hi⟩
theorem RdL.below {w w' : World} {vs : List Value} {ls : List (List Int)} (h : RdL w vs ls) (hb : Ext w w') : RdL w' vs ls :=
  ⟨h.1, fun i hi => by
    obtain ⟨ao, cap, h1, h2⟩ := h.2 i hi; exact ⟨ao, cap, h1, h2.below hb⟩⟩
theorem RdL.snoc {w : World} {vs : List Value} {ls : List (List Int)} (h : RdL w vs ls) {ao : Option Addr} {cap : Nat} {l : List Int} (h2 : RdV w ao cap (l.map R)) : RdL w (vs ++ [.slice ao l.length cap]) (ls ++ [l]) := by
  obtain ⟨e, hh⟩ := h; refine ⟨by simp [e], fun i hi => ?_⟩; simp only [List.length_append, List.length_singleton] at hi; by_cases hi2 : i < ls.length
  · obtain ⟨ao', cap', h3, h4⟩ := hh i hi2; refine ⟨ao', cap', ?_, ?_⟩
    · rw [List.getElem?_append_left (by omega), h3]; simp [List.getD, hi2, List.getElem?_append_left hi2]
    · simpa [List.getD, hi2, List.getElem?_append_left hi2] using h4
  · have : i = ls.length := by omega
    subst this; refine ⟨ao, cap, ?_, ?_⟩
    · rw [← e]; simp [List.getD, e]
    · simpa [List.getD] using h2
theorem rows_fnd : ∀ (l : List Int), fnd 46 l < l.length → rows l = l.take (fnd 46 l) :: rows (l.drop (fnd 46 l + 1))
  | [], h => by simp at h
  | y :: t, h => by
    rw [fnd] at h ⊢; by_cases hy : y = 46
    · rw [if_pos hy, rows, if_pos hy]; simp
    · rw [if_neg hy] at h ⊢; rw [rows, if_neg hy, rows_fnd t (by simp at h; omega)]; simp
theorem rows_not : ∀ (l : List Int), ¬ fnd 46 l < l.length → rows l = [l] := fun l h => rows_one l fun r hr e => h ((fnd_mem l).2 (e ▸ hr))
theorem infoL : (Tryz.prog.info? 45).map (fun i => (i.zero, i.size, i.bytes)) = some (some (.slice none 0 0), 1, 24) := by kernel_rfl
set_option maxHeartbeats 1000000 in
set_option maxRecDepth 100000 in
theorem cut_any (ao : Option Addr) (l cap : Nat) (rs : List Int) (w : World) (hl : rs.length = l) (hm : l ≤ 1000000) (h : RdV w ao cap (rs.map R)) :
    Calls Tryz.prog 28 #[.slice ao l cap] w fun e w' => ∃ v vs, e = .returned v ∧ w'.ownsRow w.heap.size 45 1 v vs.length vs ∧ RdL w vs (rows rs) ∧ Below w.heap.size w w' := by
  subst hl; go_enter Tryz.func28, Tryz.ntmps28; go_wp2_with fail
  go_loopw [0, 3] (fun v o wr => ∃ (a : Option Addr) (c : Nat) (rest : List Int) (vs : List Value) (out : List (List Int)), v = .slice a rest.length c ∧ RdV w a c (rest.map R) ∧ out ++ rows rest = rows rs ∧ vs.length + rest.length ≤ rs.length ∧ wr.ownsRow w.heap.size 45 1 o vs.length vs ∧ RdL w vs out ∧ Below w.heap.size w wr) (fun v _ _ => sliceLen v)
  case atStart => exact ⟨ao, cap, rs, [], [], rfl, h, rfl, by simp, World.ownsRow_nil _ _ _ _, RdL.nil _, Below.refl _ _⟩
  case round =>
    obtain ⟨a, c, rest, vs, out, rfl, hr, hv, hlen, own, hrl, hbr⟩ := hrel; have HV := hide hv; clear hv h; have HF := hide (index_any a _ c rest 46 wr rfl (by omega) (hr.below hbr)); have hle := hr.le; have hmx := hr.max; simp only [List.length_map] at hle; go_wp2_with fail
    refine (unhide HF).mono ?_; rintro e w2 ⟨rfl, hw⟩; subst hw; clear HF; by_cases hf : fnd 46 rest < rest.length
    · have hrow := rows_fnd rest hf; have ef : fndI 46 rest = (fnd 46 rest : Int) := by unfold fndI; rw [if_pos hf]
      rw [ef]; clear ef; generalize hk : fnd 46 rest = k at *; have hk0 : Hid (fnd 46 rest = k) := hk; clear hk; have RL := RdV.lit w2 [.slice a k c] 45 (0, 0) (by simp); have own2 := owns_below own (Ext.alloc w2 (.cells #[.slice a k c] 45 (0, 0))); have hb2 : Below w.heap.size w (w2.alloc (.cells #[.slice a k c] 45 (0, 0))) := hbr.trans (Below.mono (Ext.alloc w2 (.cells #[.slice a k c] 45 (0, 0))) hbr.size); have hbase := hb2.size; have hone : ∀ u ∈ [Value.slice a k c], u.oneCell' = true := by simp [Value.oneCell']
      have key : ∀ v' w', w'.ownsRow w.heap.size 45 1 v' (vs.length + 1) (vs ++ [.slice a k c]) → Below w.heap.size (w2.alloc (.cells #[.slice a k c] 45 (0, 0))) w' →
          (∃ (a' : Option Addr) (c' : Nat) (rest' : List Int) (vs' : List Value) (out' : List (List Int)), Value.slice (if c = k + 1 then a else a.map (·.add (k + 1))) (rest.length - (k + 1)) (c - (k + 1)) = .slice a' rest'.length c' ∧ RdV w a' c' (rest'.map R) ∧ out' ++ rows rest' = rows rs ∧ vs'.length + rest'.length ≤ rs.length ∧ w'.ownsRow w.heap.size 45 1 v' vs'.length vs' ∧ RdL w vs' out' ∧ Below w.heap.size w w') ∧ rest.length - (k + 1) < rest.length := by
        intro v' w' o' b'; refine ⟨⟨(if c = k + 1 then a else a.map (·.add (k + 1))), c - (k + 1), rest.drop (k + 1), vs ++ [.slice a k c], out ++ [rest.take k], by simp, ?_, ?_, by simp; omega, by simpa using o', ?_, hb2.trans b'⟩, by omega⟩
        · have := hr.drop (k + 1) (by omega)
          rwa [← List.map_drop] at this
        · rw [List.append_assoc, ← unhide HV, hrow]; rfl
        · have h1 := hr.take k; rw [← List.map_take] at h1; have h2 := hrl.snoc h1
          rwa [List.length_take, Nat.min_eq_left (by omega)] at h2
      have KEY := hide key; clear key hb2 own hbr hr HV hrow hrl hk0; go_wp2_with (at_builtin; refine wpList_app rfl (.tmp 13) (.tmp 17) 51 45 (.slice none 0 0) 24 Tryz.underlying51 infoL rfl rfl w.heap.size _ _ _ rfl own2 _ _ _ [.slice a k c] rfl rfl RL hone ?c2 hbase ?_)
      case c2 => omega
      intro v2 w3 o2 b2; clear own2 RL hone; have kk := unhide KEY v2 w3 o2 b2; go_wp2; exact kk
    · have hrow := rows_not rest hf; have ef : fndI 46 rest = -1 := by unfold fndI; rw [if_neg hf]
      rw [ef]; clear ef; have RL := RdV.lit w2 [.slice a rest.length c] 45 (0, 0) (by simp); have own2 := owns_below own (Ext.alloc w2 (.cells #[.slice a rest.length c] 45 (0, 0))); have hb2 : Below w.heap.size w (w2.alloc (.cells #[.slice a rest.length c] 45 (0, 0))) := hbr.trans (Below.mono (Ext.alloc w2 (.cells #[.slice a rest.length c] 45 (0, 0))) hbr.size); have hbase := hb2.size; have hone : ∀ u ∈ [Value.slice a rest.length c], u.oneCell' = true := by simp [Value.oneCell']
      have key : ∀ v' w', w'.ownsRow w.heap.size 45 1 v' (vs.length + 1) (vs ++ [.slice a rest.length c]) → Below w.heap.size (w2.alloc (.cells #[.slice a rest.length c] 45 (0, 0))) w' →
          ∃ v vs', Ending.returned v' = .returned v ∧ w'.ownsRow w.heap.size 45 1 v vs'.length vs' ∧ RdL w vs' (rows rs) ∧ Below w.heap.size w w' := by
        intro v' w' o' b'; refine ⟨v', vs ++ [.slice a rest.length c], rfl, by simpa using o', ?_, hb2.trans b'⟩; rw [← unhide HV, hrow]; exact hrl.snoc hr
      have KEY := hide key; clear key hb2 own hbr hr HV hrow hrl; go_wp2_with (at_builtin; refine wpList_app rfl (.tmp 9) (.tmp 11) 51 45 (.slice none 0 0) 24 Tryz.underlying51 infoL rfl rfl w.heap.size _ _ _ rfl own2 _ _ _ [.slice a rest.length c] rfl rfl RL hone ?c3 hbase ?_)
      case c3 => omega
      intro v2 w3 o2 b2; clear own2 RL hone; have kk := unhide KEY v2 w3 o2 b2; go_wp2; go_ret; exact kk
end Go.Proofs.YtenlampiiodkhaaGreatDoor
