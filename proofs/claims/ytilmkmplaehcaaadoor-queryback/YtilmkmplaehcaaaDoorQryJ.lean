/-
  What is shown is parsed as it was.
-/
import Derived.Test.YtilmkmplaehcaaaDoorQryF
import Derived.Test.YtilmkmplaehcaaaDoorQryD
import Derived.Test.YtilmkmplaehcaaaDoorQryC
namespace Go.Proofs.YtilmkmplaehcaaaDoor
set_option linter.unusedVariables false
open Go.RowKit

theorem back_plain (l : List Pr) (hn : l.length ≤ 10) (hb : ∀ p ∈ l, p.1.length ≤ 30 ∧ p.2.length ≤ 30) :
    (shwQ l).length ≤ 100000 ∧ parQ (shwQ l) = l.map rgtP ∧ (shwQ (l.map rgtP)).length ≤ 100000 ∧ parQ (shwQ (l.map rgtP)) = l.map rgtP ∧ ∀ p ∈ l.map rgtP, p.1.length ≤ 100000 ∧ p.2.length ≤ 100000 := by
  have hb2 : ∀ p ∈ l.map rgtP, p.1.length ≤ 120 ∧ p.2.length ≤ 120 := by
    intro p hp
    obtain ⟨q, hq, rfl⟩ := List.mem_map.1 hp
    have h1 := hb q hq
    have h2 := rgt_len q.1
    have h3 := rgt_len q.2
    unfold rgtP
    simp only
    omega
  have e1 := shwQ_bound 30 l hb
  have e2 := shwQ_bound 120 (l.map rgtP) hb2
  have e3 : l.length * (6 * 30 + 2) ≤ 10 * (6 * 30 + 2) := Nat.mul_le_mul hn (Nat.le_refl _)
  rw [List.length_map] at e2
  have e4 : l.length * (6 * 120 + 2) ≤ 10 * (6 * 120 + 2) := Nat.mul_le_mul hn (Nat.le_refl _)
  refine ⟨by omega, parQ_shwQ l (by omega), by omega, ?_, fun p hp => ?_⟩
  · rw [parQ_shwQ _ (by rw [List.length_map]; omega), map_rgtP]
  · have := hb2 p hp
    omega

set_option maxHeartbeats 4000000 in
theorem back11_walk (hp : ParseOk) (hs : ShowOk) (ao : Option Addr) (cap : Nat) (l : List Pr) (w : World) (tb : MaxL w) (h : RdP w ao cap l) :
    Calls Tryd.prog 4 #[.slice ao l.length cap] w fun e w' => e = .returned (.bool true) ∧ Ext w w' := by
  have hle := h.le
  have hmx := h.max
  have HB := hide (begun_yes hp hs w tb)
  go_enter Tryd.func4, Tryd.ntmps4
  go_wp2_with fail
  refine (unhide HB).mono ?_
  rintro e w1 ⟨rfl, hx1⟩
  clear HB
  by_cases hn : l.length ≤ 10
  · have hl2 : ¬ 10 < (l.length : Int) := by omega
    have HR := hide (h.below hx1)
    have HM := hide (MaxL.below tb hx1)
    have X1 := hide hx1
    have ST : Hid (∃ (k c : Nat) (ao' : Option Addr), Value.slice none 0 0 = .slice ao' k c ∧ Value.int .i64 0 = .int .i64 (k : Int) ∧ k ≤ l.length ∧ (∀ j < k, (l.getD j ([], [])).1.length ≤ 30 ∧ (l.getD j ([], [])).2.length ≤ 30) ∧ w1.ownsRow w1.heap.size 25 2 (.slice ao' k c) k (cellsP ((l.take k).map rgtP)) ∧ Below w1.heap.size w1 w1) :=
      ⟨0, 0, none, rfl, rfl, by omega, fun j hj => absurd hj (by omega), World.ownsRow_nil w1 _ _ 2, Below.refl _ _⟩
    clear h tb hx1
    go_wp2_with fail
    go_loopw [3, 4] (fun o i wr => ∃ (k c : Nat) (ao' : Option Addr), o = .slice ao' k c ∧ i = .int .i64 (k : Int) ∧ k ≤ l.length ∧ (∀ j < k, (l.getD j ([], [])).1.length ≤ 30 ∧ (l.getD j ([], [])).2.length ≤ 30) ∧ wr.ownsRow w1.heap.size 25 2 (.slice ao' k c) k (cellsP ((l.take k).map rgtP)) ∧ Below w1.heap.size w1 wr) (fun _ i _ => l.length - (intOf i).toNat)
    case atStart => exact unhide ST
    case round =>
      clear ST
      obtain ⟨k, c, ao2, rfl, rfl, hk, hall, own, hbr⟩ := hrel
      have XR : Hid (Ext w1 wr) := (Ext.refl w1).then hbr (Nat.le_refl _)
      by_cases hkl : k < l.length
      · obtain ⟨b, off, rfl, hc⟩ := ((unhide HR).below (unhide XR)).cells (by omega)
        obtain ⟨c0, c1⟩ := hc k hkl
        have hkl' : (k : Int) < (l.length : Int) := by omega
        have NX : (l.getD k ([], [])).1.length ≤ 30 → (l.getD k ([], [])).2.length ≤ 30 → ∀ j < k + 1, (l.getD j ([], [])).1.length ≤ 30 ∧ (l.getD j ([], [])).2.length ≤ 30 := fun h1 h2 j hj => by
          rcases Nat.lt_succ_iff_lt_or_eq.1 hj with h3 | rfl
          · exact hall j h3
          · exact ⟨h1, h2⟩
        have z1 := size_S (l.getD k ([], [])).1
        have z2 := size_S (l.getD k ([], [])).2
        have FF : Hid (Ext w wr) := (unhide X1).trans (unhide XR)
        have hsn : (l.take (k + 1)).map rgtP = (l.take k).map rgtP ++ [rgtP (l.getD k ([], []))] := by
          rw [take_snoc l k ([], []) hkl, List.map_append]
          rfl
        have hql : ((l.take k).map rgtP).length = k := by
          rw [List.length_map, List.length_take]
          omega
        clear hc hall HR HM X1 XR
        by_cases h1 : (l.getD k ([], [])).1.length ≤ 30
        · by_cases h2 : (l.getD k ([], [])).2.length ≤ 30
          · have KEY : Hid (∀ (v' : Value) (w' : World), w'.ownsRow w1.heap.size 25 2 v' (k + 1) (cellsP ((l.take k).map rgtP ++ [rgtP (l.getD k ([], []))])) → Below w1.heap.size w1 w' →
                (∃ (k' c' : Nat) (ao' : Option Addr), v' = .slice ao' k' c' ∧ Value.int .i64 ((k : Int) + 1) = .int .i64 (k' : Int) ∧ k' ≤ l.length ∧ (∀ j < k', (l.getD j ([], [])).1.length ≤ 30 ∧ (l.getD j ([], [])).2.length ≤ 30) ∧ w'.ownsRow w1.heap.size 25 2 (.slice ao' k' c') k' (cellsP ((l.take k').map rgtP)) ∧ Below w1.heap.size w1 w') ∧ l.length - ((k : Int) + 1).toNat < l.length - k) := by
              intro v' w' o' b'
              obtain ⟨ao', c', rfl, _⟩ := ownedP_some o'
              exact ⟨⟨k + 1, c', ao', rfl, by simp, by omega, NX h1 h2, by rw [hsn]; exact o', b'⟩, by omega⟩
            have h1' : ¬ 30 < ((l.getD k ([], [])).1.length : Int) := by omega
            have h2' : ¬ 30 < ((l.getD k ([], [])).2.length : Int) := by omega
            have q1 : decide (30 < ((l.getD k ([], [])).1.length : Int)) = false := by rw [decide_eq_false_iff_not]; omega
            have q2 : decide (30 < ((l.getD k ([], [])).2.length : Int)) = false := by rw [decide_eq_false_iff_not]; omega
            have HR1 := hide (fun v : World => right_any (l.getD k ([], [])).1 v (by omega))
            have HR2 := hide (fun v : World => right_any (l.getD k ([], [])).2 v (by omega))
            clear NX hsn FF
            have hpp : rgtP (l.getD k ([], [])) = (rgt (l.getD k ([], [])).1, rgt (l.getD k ([], [])).2) := rfl
            rw [hpp] at KEY
            clear hpp
            generalize l.getD k ([], []) = p at *
            generalize (l.take k).map rgtP = qs at *
            generalize rgt p.1 = X1 at *
            generalize rgt p.2 = X2 at *
            have bs6 := hbr.size
            go_wp2_with fail
            refine wp_region_tail (A := knows [(34, isF (.slice ao2 k c)), (35, isF (.slice (some ⟨b, off, none⟩) l.length cap)), (36, isF (.int .i64 (k : Int))), (37, isF (.pointer (some ⟨b, off + k * 2, none⟩))), (38, isF (.pointer (some ⟨b, off + k * 2, none⟩))), (39, isF (S p.1)), (40, isF (S X1)), (41, isF (.slice (some ⟨b, off, none⟩) l.length cap)), (42, isF (.int .i64 (k : Int))), (43, isF (.pointer (some ⟨b, off + k * 2, none⟩))), (44, isF (.pointer (some ⟨b, off + k * 2 + 1, none⟩))), (45, isF (S p.2)), (46, isF (S X2)), (47, isF (.agg #[S X1, S X2])), (48, pairsF [(X1, X2)])]) 15 [34, 35, 36, 37, 38, 39, 40, 41, 42, 43, 44, 45, 46, 47, 48] (by kernel_rfl) (by kernel_rfl) (by kernel_rfl) (by kernel_rfl) (knows_mono _) (steps_at ?_) ?_
            · skip
              refine allAt_cons (ok_still 0 rfl rfl 3 (.slice ao2 k c) rfl (by kernel_rfl) rfl (fun _ _ => rfl)) ?_
              refine allAt_cons (StepOk.three _ (ok_fixed (.inl rfl) rfl 0 (.slice (some ⟨b, off, none⟩) l.length cap) (.inl rfl) (by kernel_rfl) rfl (fun _ _ => rfl))) ?_
              refine allAt_cons (StepOk.three _ (ok_fixed (.inl rfl) rfl 4 (.int .i64 (k : Int)) (.inl rfl) (by kernel_rfl) rfl (fun _ _ => rfl))) ?_
              refine allAt_cons (StepOk.three _ (ok_addrQ (.inl rfl) rfl 35 36 _ rfl (by kernel_rfl) (by kernel_rfl) _ _ _ (fun _ _ h => h) (fun _ _ h => h) (fun u => addr_P u b off l.length cap k hkl) (fun _ => rfl))) ?_
              refine allAt_cons (StepOk.three _ (ok_fieldQ (.inl rfl) rfl 37 _ 0 rfl (by kernel_rfl) _ _ (fun _ _ h => h) (fun u => run_field0 u b (off + k * 2)) (fun _ => rfl))) ?_
              refine allAt_cons (StepOk.three _ (ok_loadQ (.inl rfl) rfl 38 _ rfl (by kernel_rfl) _ (S p.1) (fun _ _ h => h) (fun u hx => load_S ((hx.cell (p := ⟨b, off + k * 2, none⟩) (cell_lt c0)).trans c0)) (fun _ => rfl))) ?_
              refine allAt_cons (StepOk.three _ (ok_is (.inl rfl) rfl 14 _ _ (fun args v => run_enter 14 Tryd.f14 Tryd.func14 (by kernel_rfl) (by kernel_rfl) args v) rfl (S X1) (fun a v hx hf hd => by
                have e2 : a.tmps.getD 39 undef = S p.1 := hd 39 (by kernel_rfl)
                have e3 : (#[Operand.tmp 39] : Array Operand).map a.eval = #[S p.1] := by
                  rw [Array.getD_eq_getD_getElem?] at e2
                  simp [Act.eval, e2]
                rw [e3]
                exact unhide HR1 v) (fun _ => rfl))) ?_
              refine allAt_cons (StepOk.three _ (ok_fixed (.inl rfl) rfl 0 (.slice (some ⟨b, off, none⟩) l.length cap) (.inl rfl) (by kernel_rfl) rfl (fun _ _ => rfl))) ?_
              refine allAt_cons (StepOk.three _ (ok_fixed (.inl rfl) rfl 4 (.int .i64 (k : Int)) (.inl rfl) (by kernel_rfl) rfl (fun _ _ => rfl))) ?_
              refine allAt_cons (StepOk.three _ (ok_addrQ (.inl rfl) rfl 41 42 _ rfl (by kernel_rfl) (by kernel_rfl) _ _ _ (fun _ _ h => h) (fun _ _ h => h) (fun u => addr_P u b off l.length cap k hkl) (fun _ => rfl))) ?_
              refine allAt_cons (StepOk.three _ (ok_fieldQ (.inl rfl) rfl 43 _ 1 rfl (by kernel_rfl) _ _ (fun _ _ h => h) (fun u => run_field1 u b (off + k * 2)) (fun _ => rfl))) ?_
              refine allAt_cons (StepOk.three _ (ok_loadQ (.inl rfl) rfl 44 _ rfl (by kernel_rfl) _ (S p.2) (fun _ _ h => h) (fun u hx => load_S ((hx.cell (p := ⟨b, off + k * 2 + 1, none⟩) (cell_lt c1)).trans c1)) (fun _ => rfl))) ?_
              refine allAt_cons (StepOk.three _ (ok_is (.inl rfl) rfl 14 _ _ (fun args v => run_enter 14 Tryd.f14 Tryd.func14 (by kernel_rfl) (by kernel_rfl) args v) rfl (S X2) (fun a v hx hf hd => by
                have e2 : a.tmps.getD 45 undef = S p.2 := hd 45 (by kernel_rfl)
                have e3 : (#[Operand.tmp 45] : Array Operand).map a.eval = #[S p.2] := by
                  rw [Array.getD_eq_getD_getElem?] at e2
                  simp [Act.eval, e2]
                rw [e3]
                exact unhide HR2 v) (fun _ => rfl))) ?_
              refine allAt_cons (StepOk.three _ (ok_buildP (.inl rfl) rfl 40 46 rfl (by kernel_rfl) (by kernel_rfl) (X1, X2) (fun _ _ h => h) (fun _ _ h => h) (fun _ => rfl))) ?_
              refine allAt_cons (StepOk.three _ (ok_oneP (.inl rfl) rfl 47 rfl (by kernel_rfl) (X1, X2) (fun _ _ h => h) (fun _ _ h => h))) ?_
              exact allAt_nil
            · intro vs wy hx hkn
              have h34 : vs 34 = .slice ao2 k c := hkn 34 (by kernel_rfl)
              obtain ⟨ao8, c48, e48, r48⟩ : (pairsF [(X1, X2)]).holds (vs 48) wy := hkn 48 (by kernel_rfl)
              have e48' : vs 48 = .slice ao8 1 c48 := e48
              have ownY := ownsP_below own hx
              have hby : Below w1.heap.size w1 wy := hbr.trans (Below.mono hx bs6)
              have bsy := hby.size
              simp only [putAll, h34, e48', Act.put, List.setIfInBounds_toArray, List.set_cons_succ, List.set_cons_zero]
              clear hkn hx e48 e48' h34 own hbr c0 c1 HR1 HR2
              generalize vs 35 = y35
              generalize vs 36 = y36
              generalize vs 37 = y37
              generalize vs 38 = y38
              generalize vs 39 = y39
              generalize vs 40 = y40
              generalize vs 41 = y41
              generalize vs 42 = y42
              generalize vs 43 = y43
              generalize vs 44 = y44
              generalize vs 45 = y45
              generalize vs 46 = y46
              generalize vs 47 = y47
              subst hql
              change wpList _ _ _ [_, _] _ _
              go_wp2_with (at_builtin; refine wpList_appP rfl (.tmp 34) (.tmp 48) rfl w1.heap.size _ qs rfl ownY _ _ [(X1, X2)] rfl r48 (by show (qs.length + 1) * 33 ≤ _; omega) bsy ?_)
              intro v9 w9 o9 b9
              have kk := hide (unhide KEY v9 w9 o9 (hby.trans b9))
              clear o9 b9 KEY ownY r48 hby bsy
              go_wp2
              exact unhide kk
          · have h1' : ¬ 30 < ((l.getD k ([], [])).1.length : Int) := by omega
            have h2' : 30 < ((l.getD k ([], [])).2.length : Int) := by omega
            clear NX hsn own hbr
            generalize l.getD k ([], []) = p at *
            go_wp2
            go_ret
            exact ⟨rfl, unhide FF⟩
        · have h1' : 30 < ((l.getD k ([], [])).1.length : Int) := by omega
          clear NX hsn own hbr
          generalize l.getD k ([], []) = p at *
          go_wp2
          go_ret
          exact ⟨rfl, unhide FF⟩
      · have hkl' : ¬ (k : Int) < (l.length : Int) := by omega
        have hk2 : k = l.length := by omega
        subst hk2
        have hb : ∀ p ∈ l, p.1.length ≤ 30 ∧ p.2.length ≤ 30 := fun p hpm => by
          obtain ⟨j, hj⟩ := List.getElem?_of_mem hpm
          have := hall j (List.getElem?_eq_some_iff.1 hj).1
          simpa [List.getD, hj] using this
        obtain ⟨f1, f2, f3, f4, f5⟩ := back_plain l hn hb
        have hb2 : ∀ p ∈ l, p.1.length ≤ 100000 ∧ p.2.length ≤ 100000 := fun p hpm => by have := hb p hpm; omega
        rw [List.take_length] at own
        have RW : Hid (RdP wr ao2 c (l.map rgtP)) := RdP.of_owned (by rw [List.length_map]; exact own)
        have hML : (l.map rgtP).length = l.length := by rw [List.length_map]
        have A1 := hide (hs ao cap l wr (by omega) hb2 ((unhide HR).below (unhide XR)))
        have A2 := hide (fun (v : World) (hv : Ext wr v) => hp (shwQ l) v f1 ((unhide HM).below ((unhide XR).trans hv)))
        have A3 := hide (fun (a : Option Addr) (c : Nat) (v : World) (h : RdP v a c (l.map rgtP)) => hs a c (l.map rgtP) v (by omega) f5 h)
        have A4 := hide (fun (v : World) (hv : Ext wr v) => hp (shwQ (l.map rgtP)) v f3 ((unhide HM).below ((unhide XR).trans hv)))
        rw [f2] at A2
        rw [f4] at A4
        have FX : Hid (Ext w wr) := (unhide X1).trans (unhide XR)
        clear f1 f2 f3 f4 f5 hb hb2 hall own hbr HM HR XR X1
        generalize shwQ (l.map rgtP) = W at *
        generalize l.map rgtP = X at *
        generalize shwQ l = s at *
        go_wp2_with fail
        refine (unhide A1).mono ?_
        rintro e w2 ⟨rfl, hx2⟩
        clear A1
        have B2 := hide (unhide A2 w2 hx2)
        have Y2 := hide hx2
        clear A2 hx2
        go_wp2_with fail
        refine (unhide B2).mono ?_
        rintro e w3 ⟨a3, c3, rfl, R3, hx3⟩
        clear B2
        have Y3 : Hid (Ext wr w3) := (unhide Y2).trans hx3
        have B3 := hide (sameP_any a3 ao2 c3 c X w3 R3 ((unhide RW).below (unhide Y3)))
        have HR3 := hide R3
        rw [hML] at B3
        rw [hML]
        clear Y2 hx3 R3 RW
        go_wp2_with fail
        refine (unhide B3).mono ?_
        rintro e w4 ⟨rfl, hx4⟩
        clear B3
        have R4 := (unhide HR3).below hx4
        have Y4 : Hid (Ext wr w4) := (unhide Y3).trans hx4
        have B4 := hide (unhide A3 a3 c3 w4 R4)
        have HR4 := hide R4
        rw [hML] at B4
        clear hx4 Y3 HR3 R4
        go_wp2_with fail
        refine (unhide B4).mono ?_
        rintro e w5 ⟨rfl, hx5⟩
        clear B4
        have Y5 : Hid (Ext wr w5) := (unhide Y4).trans hx5
        have B5 := hide (unhide A4 w5 (unhide Y5))
        have HR5 := hide ((unhide HR4).below hx5)
        clear hx5 Y4 HR4
        go_wp2_with fail
        refine (unhide B5).mono ?_
        rintro e w6 ⟨a6, c6, rfl, R6, hx6⟩
        clear B5
        have Y6 : Hid (Ext wr w6) := (unhide Y5).trans hx6
        have B6 := hide (unhide A3 a6 c6 w6 R6)
        have HR6 := hide ((unhide HR5).below hx6)
        rw [hML] at B6
        rw [hML]
        clear hx6 Y5 HR5 R6
        go_wp2_with fail
        refine (unhide B6).mono ?_
        rintro e w7 ⟨rfl, hx7⟩
        clear B6
        have Y7 : Hid (Ext wr w7) := (unhide Y6).trans hx7
        have B7 := hide (unhide A3 a3 c3 w7 ((unhide HR6).below hx7))
        rw [hML] at B7
        clear hx7 Y6 HR6
        go_wp2_with fail
        refine (unhide B7).mono ?_
        rintro e w8 ⟨rfl, hx8⟩
        clear B7
        have FF := (unhide FX).trans ((unhide Y7).trans hx8)
        go_wp2
        go_ret
        exact ⟨rfl, FF⟩
  · have hl2 : 10 < (l.length : Int) := by omega
    clear h
    go_wp2
    go_ret
    exact ⟨rfl, hx1⟩
end Go.Proofs.YtilmkmplaehcaaaDoor
