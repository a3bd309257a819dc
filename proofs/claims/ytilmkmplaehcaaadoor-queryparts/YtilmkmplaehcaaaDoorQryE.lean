/-
  The document's ShowQuery.
-/
import Derived.Test.YtilmkmplaehcaaaDoorQryD
import Derived.Test.YtilmkmplaehcaaaDoorReg3
namespace Go.Proofs.YtilmkmplaehcaaaDoor
set_option linter.unusedVariables false
open Go.RowKit

section
variable {ops : Array Oper} {Q : Exit → Act → World → Prop} {A : Tmp → Value → World → Prop} {a0 : Act} {w0 : World} {o : Oper} {d : Tmp}
theorem ok_convB (hw : Wanted ops A o) (hdst : o.dst = some d) (x : Tmp) (ho : o.op = .convert 9 33 (.tmp x)) (hx1 : (depSlots ops o).contains x = true) (bs : List UInt8) (hm : bs.length ≤ 1000000)
    (hX : ∀ v w, A x v w → v = S bs) (hF : ∀ v w, (cellsF (bs.map B)).holds v w → A d v w) : StepOk Tryd.prog ops Q A a0 w0 o :=
  ok_val hw hdst fun a w hx hf hd => by
    obtain ⟨c, w', h1, h2, h3, _⟩ := conv_bytes w bs hm
    refine ⟨.slice (some ⟨w.heap.size, 0, none⟩) bs.length c, w', ?_, hF _ _ ⟨_, c, by rw [List.length_map], h2⟩, h3⟩
    have e := hX _ _ (hd x hx1)
    simp only [execOp, ho, Act.eval, e]
    simp [h1]
end

theorem shwQ_snoc (l : List Pr) (p : Pr) : shwQ (l ++ [p]) = shwQ l ++ (if l = [] then [] else [38]) ++ shw1 p := by
  cases l with
  | nil => simp [shwQ]
  | cons q r => simp [shwQ]
theorem shwQ_le (l : List Pr) (k : Nat) : (shwQ (l.take k)).length ≤ (shwQ l).length := by
  have key : ∀ (a b : List Pr), (shwQ a).length ≤ (shwQ (a ++ b)).length := by
    intro a b
    cases a with
    | nil => simp [shwQ]
    | cons p r => simp [shwQ]
  have := key (l.take k) (l.drop k)
  rw [List.take_append_drop] at this
  exact this

set_option maxHeartbeats 4000000 in
theorem rshowQ_any (ao : Option Addr) (cap : Nat) (l : List Pr) (w : World) (hs : (shwQ l).length ≤ 1000000) (hb : ∀ p ∈ l, p.1.length ≤ 100000 ∧ p.2.length ≤ 100000) (h : RdP w ao cap l) :
    Calls Tryd.prog 13 #[.slice ao l.length cap] w fun e w' => e = .returned (S (shwQ l)) ∧ Ext w w' := by
  have hle := h.le
  have hmx := h.max
  have HR := hide h
  clear h
  go_enter Tryd.func13, Tryd.ntmps13
  go_wp2
  go_loopw [3, 4] (fun v i wr => ∃ k : Nat, k ≤ l.length ∧ i = .int .i64 (k : Int) ∧ v = S (shwQ (l.take k)) ∧ Ext w wr) (fun _ i _ => l.length - (intOf i).toNat)
  case atStart => exact ⟨0, by omega, rfl, rfl, Ext.refl _⟩
  case round =>
    obtain ⟨k, hk, rfl, rfl, hx⟩ := hrel
    by_cases hkl : k < l.length
    · obtain ⟨b, off, rfl, hc⟩ := (unhide HR).cells (by omega)
      obtain ⟨c0, c1⟩ := hc k hkl
      have c0 : wr.cell? ⟨b, off + k * 2, none⟩ = some (S (l.getD k ([], [])).1) := (hx.cell (p := ⟨b, off + k * 2, none⟩) (cell_lt c0)).trans c0
      have c1 : wr.cell? ⟨b, off + k * 2 + 1, none⟩ = some (S (l.getD k ([], [])).2) := (hx.cell (p := ⟨b, off + k * 2 + 1, none⟩) (cell_lt c1)).trans c1
      have hkl' : (k : Int) < (l.length : Int) := by omega
      obtain ⟨hp1, hp2⟩ := hb (l.getD k ([], [])) (by simp [List.getD, hkl])
      have hT : shwQ (l.take (k + 1)) = shwQ (l.take k) ++ (if k = 0 then [] else [38]) ++ shw1 (l.getD k ([], [])) := by
        rw [take_snoc l k ([], []) hkl, shwQ_snoc]
        congr 2
        by_cases h0 : k = 0
        · subst h0
          simp
        · rw [if_neg h0, if_neg]
          intro e
          have := congrArg List.length e
          rw [List.length_take, List.length_nil] at this
          omega
      have hL : (shwQ (l.take (k + 1))).length ≤ 1000000 := Nat.le_trans (shwQ_le l (k + 1)) hs
      rw [hT] at hL
      have KEY0 : Hid (∀ v w', v = S (shwQ (l.take k) ++ (if k = 0 then [] else [38]) ++ shw1 (l.getD k ([], []))) → Ext wr w' → (∃ k' : Nat, k' ≤ l.length ∧ Value.int .i64 ((k : Int) + 1) = .int .i64 (k' : Int) ∧ v = S (shwQ (l.take k')) ∧ Ext w w') ∧ l.length - ((k : Int) + 1).toNat < l.length - k) := fun v w' hv hx' =>
        ⟨⟨k + 1, by omega, by simp, by rw [hT]; exact hv, hx.trans hx'⟩, by omega⟩
      clear hc HR hT hx hb
      generalize l.getD k ([], []) = p at *
      generalize shwQ (l.take k) = L at *
      have he1 : shw1 p = Pct.encd 6 p.1 ++ 61 :: Pct.encd 6 p.2 := rfl
      simp only [List.length_append, he1, List.length_cons] at hL
      rcases Nat.eq_zero_or_pos k with hk0 | hk0
      · have KEY : Hid (∀ v w', v = S (L ++ Pct.encd 6 p.1 ++ [61] ++ Pct.encd 6 p.2) → Ext wr w' → (∃ k' : Nat, k' ≤ l.length ∧ Value.int .i64 ((k : Int) + 1) = .int .i64 (k' : Int) ∧ v = S (shwQ (l.take k')) ∧ Ext w w') ∧ l.length - ((k : Int) + 1).toNat < l.length - k) := fun v w' hv hx' =>
          unhide KEY0 v w' (by rw [hv, if_pos hk0, he1]; simp) hx'
        have hLn : L.length + (Pct.encd 6 p.1).length + (Pct.encd 6 p.2).length ≤ 1000000 := by omega
        have hk0' : ¬ (0 : Int) < (k : Int) := by omega
        clear KEY0 hL he1 hk0
        generalize L = L1 at *
        go_wp2_with fail
        refine wp_region_open3 (A := knows [(15, isF (S L1)), (16, isF (.slice (some ⟨b, off, none⟩) l.length cap)), (17, isF (.int .i64 (k : Int))), (18, (isF (.pointer (some ⟨b, off + k * 2, none⟩)))), (19, (isF (.pointer (some ⟨b, off + k * 2, none⟩)))), (20, isF (S p.1)), (21, cellsF (p.1.map B)), (22, isF (S (Pct.encd 6 p.1))), (23, isF (S (L1 ++ Pct.encd 6 p.1))), (24, isF (S (L1 ++ Pct.encd 6 p.1 ++ [61]))), (25, isF (.slice (some ⟨b, off, none⟩) l.length cap)), (26, isF (.int .i64 (k : Int))), (27, (isF (.pointer (some ⟨b, off + k * 2, none⟩)))), (28, (isF (.pointer (some ⟨b, off + k * 2 + 1, none⟩)))), (29, isF (S p.2)), (30, cellsF (p.2.map B)), (31, isF (S (Pct.encd 6 p.2))), (32, isF (S (L1 ++ Pct.encd 6 p.1 ++ [61] ++ Pct.encd 6 p.2))), (3, isF (S (L1 ++ Pct.encd 6 p.1 ++ [61] ++ Pct.encd 6 p.2)))]) [15, 16, 17, 18, 19, 20, 21, 22, 23, 24, 25, 26, 27, 28, 29, 30, 31, 32, 3] (by kernel_rfl) (by kernel_rfl) (by kernel_rfl) (knows_mono _) (steps_first rfl (ok_still 0 rfl rfl 3 (S L1) rfl (by kernel_rfl) rfl (fun _ _ => rfl)) ?_) ?_
        · skip
          refine allOps_cons (ok_fixed (.inl rfl) rfl 0 (.slice (some ⟨b, off, none⟩) l.length cap) (.inl rfl) (by kernel_rfl) rfl (fun _ _ => rfl)) ?_
          refine allOps_cons (ok_fixed (.inl rfl) rfl 4 (.int .i64 (k : Int)) (.inl rfl) (by kernel_rfl) rfl (fun _ _ => rfl)) ?_
          refine allOps_cons (ok_addrQ (.inl rfl) rfl 16 17 _ rfl (by kernel_rfl) (by kernel_rfl) _ _ _ (fun _ _ h => h) (fun _ _ h => h) (fun u => addr_P u b off l.length cap k hkl) (fun _ => rfl)) ?_
          refine allOps_cons (ok_fieldQ (.inl rfl) rfl 18 _ 0 rfl (by kernel_rfl) _ _ (fun _ _ h => h) (fun u => run_field0 u b (off + k * 2)) (fun _ => rfl)) ?_
          refine allOps_cons (ok_loadQ (.inl rfl) rfl 19 _ rfl (by kernel_rfl) _ (S p.1) (fun _ _ h => h) (fun u hx => load_S ((hx.cell (p := ⟨b, off + k * 2, none⟩) (cell_lt c0)).trans c0)) (fun _ => rfl)) ?_
          refine allOps_cons (ok_convB (.inl rfl) rfl 20 rfl (by kernel_rfl) p.1 (by omega) (fun _ _ h => h) (fun _ _ h => h)) ?_
          refine allOps_cons (ok_is (.inl rfl) rfl 23 _ _ (fun args v => run_enter 23 Tryd.f23 Tryd.func23 (by kernel_rfl) (by kernel_rfl) args v) rfl (S (Pct.encd 6 p.1)) (fun a v hx hf hd => by
            obtain ⟨ao, cc, e2, hr2⟩ := hd 21 (by kernel_rfl)
            have e3 : (#[Operand.const (.int .i64 6), Operand.tmp 21] : Array Operand).map a.eval = #[.int .i64 6, .slice ao p.1.length cc] := by
              rw [List.length_map, Array.getD_eq_getD_getElem?] at e2
              simp [Act.eval, e2]
            rw [e3]
            exact Pct.percent_own 6 ao p.1.length cc p.1 v rfl (by omega) hr2) (fun _ => rfl)) ?_
          refine allOps_cons (ok_catS (.inl rfl) rfl 15 22 _ _ rfl (by kernel_rfl) (by kernel_rfl) L1 (Pct.encd 6 p.1) (by omega) (fun _ _ h => h) (fun _ _ h => h) (fun _ => rfl)) ?_
          refine allOps_cons (ok_catC (.inl rfl) rfl 23 [61] _ _ rfl (by kernel_rfl) (L1 ++ Pct.encd 6 p.1) (by simp only [List.length_append, List.length_singleton]; omega) (fun _ _ h => h) (fun _ => rfl)) ?_
          refine allOps_cons (ok_fixed (.inl rfl) rfl 0 (.slice (some ⟨b, off, none⟩) l.length cap) (.inl rfl) (by kernel_rfl) rfl (fun _ _ => rfl)) ?_
          refine allOps_cons (ok_fixed (.inl rfl) rfl 4 (.int .i64 (k : Int)) (.inl rfl) (by kernel_rfl) rfl (fun _ _ => rfl)) ?_
          refine allOps_cons (ok_addrQ (.inl rfl) rfl 25 26 _ rfl (by kernel_rfl) (by kernel_rfl) _ _ _ (fun _ _ h => h) (fun _ _ h => h) (fun u => addr_P u b off l.length cap k hkl) (fun _ => rfl)) ?_
          refine allOps_cons (ok_fieldQ (.inl rfl) rfl 27 _ 1 rfl (by kernel_rfl) _ _ (fun _ _ h => h) (fun u => run_field1 u b (off + k * 2)) (fun _ => rfl)) ?_
          refine allOps_cons (ok_loadQ (.inl rfl) rfl 28 _ rfl (by kernel_rfl) _ (S p.2) (fun _ _ h => h) (fun u hx => load_S ((hx.cell (p := ⟨b, off + k * 2 + 1, none⟩) (cell_lt c1)).trans c1)) (fun _ => rfl)) ?_
          refine allOps_cons (ok_convB (.inl rfl) rfl 29 rfl (by kernel_rfl) p.2 (by omega) (fun _ _ h => h) (fun _ _ h => h)) ?_
          refine allOps_cons (ok_is (.inl rfl) rfl 23 _ _ (fun args v => run_enter 23 Tryd.f23 Tryd.func23 (by kernel_rfl) (by kernel_rfl) args v) rfl (S (Pct.encd 6 p.2)) (fun a v hx hf hd => by
            obtain ⟨ao, cc, e2, hr2⟩ := hd 30 (by kernel_rfl)
            have e3 : (#[Operand.const (.int .i64 6), Operand.tmp 30] : Array Operand).map a.eval = #[.int .i64 6, .slice ao p.2.length cc] := by
              rw [List.length_map, Array.getD_eq_getD_getElem?] at e2
              simp [Act.eval, e2]
            rw [e3]
            exact Pct.percent_own 6 ao p.2.length cc p.2 v rfl (by omega) hr2) (fun _ => rfl)) ?_
          refine allOps_cons (ok_catS (.inl rfl) rfl 24 31 _ _ rfl (by kernel_rfl) (by kernel_rfl) (L1 ++ Pct.encd 6 p.1 ++ [61]) (Pct.encd 6 p.2) (by simp only [List.length_append, List.length_singleton]; omega) (fun _ _ h => h) (fun _ _ h => h) (fun _ => rfl)) ?_
          refine allOps_cons (ok_move (.inl rfl) rfl 32 (.inr rfl) (by kernel_rfl) (fun _ _ h => h)) ?_
          exact allOps_nil
        · intro vs wz hxz hkn
          have h3 : vs 3 = S (L1 ++ Pct.encd 6 p.1 ++ [61] ++ Pct.encd 6 p.2) := hkn 3 (by kernel_rfl)
          have kk := hide (unhide KEY _ wz rfl hxz)
          simp only [putAll, h3, Act.put, List.setIfInBounds_toArray, List.set_cons_succ, List.set_cons_zero]
          clear hkn h3 hxz KEY c0 c1
          generalize vs 15 = y15
          generalize vs 16 = y16
          generalize vs 17 = y17
          generalize vs 18 = y18
          generalize vs 19 = y19
          generalize vs 20 = y20
          generalize vs 21 = y21
          generalize vs 22 = y22
          generalize vs 23 = y23
          generalize vs 24 = y24
          generalize vs 25 = y25
          generalize vs 26 = y26
          generalize vs 27 = y27
          generalize vs 28 = y28
          generalize vs 29 = y29
          generalize vs 30 = y30
          generalize vs 31 = y31
          generalize vs 32 = y32
          go_wp2
          exact unhide kk
      · have KEY1 : Hid (∀ v w', v = S (L ++ [38] ++ Pct.encd 6 p.1 ++ [61] ++ Pct.encd 6 p.2) → Ext wr w' → (∃ k' : Nat, k' ≤ l.length ∧ Value.int .i64 ((k : Int) + 1) = .int .i64 (k' : Int) ∧ v = S (shwQ (l.take k')) ∧ Ext w w') ∧ l.length - ((k : Int) + 1).toNat < l.length - k) := fun v w' hv hx' =>
          unhide KEY0 v w' (by rw [hv, if_neg (by omega), he1]; simp) hx'
        have hcat := cat_to L [38]
        rw [if_neg (by omega)] at hL
        have hLn : (L ++ [38]).length + (Pct.encd 6 p.1).length + (Pct.encd 6 p.2).length ≤ 1000000 := by rw [List.length_append]; omega
        have hk0' : (0 : Int) < (k : Int) := by omega
        have KEY := KEY1
        clear KEY0 KEY1 he1 hk0
        go_wp2_with fail
        generalize L ++ [38] = L1 at *
        refine wp_region_open3 (A := knows [(15, isF (S L1)), (16, isF (.slice (some ⟨b, off, none⟩) l.length cap)), (17, isF (.int .i64 (k : Int))), (18, (isF (.pointer (some ⟨b, off + k * 2, none⟩)))), (19, (isF (.pointer (some ⟨b, off + k * 2, none⟩)))), (20, isF (S p.1)), (21, cellsF (p.1.map B)), (22, isF (S (Pct.encd 6 p.1))), (23, isF (S (L1 ++ Pct.encd 6 p.1))), (24, isF (S (L1 ++ Pct.encd 6 p.1 ++ [61]))), (25, isF (.slice (some ⟨b, off, none⟩) l.length cap)), (26, isF (.int .i64 (k : Int))), (27, (isF (.pointer (some ⟨b, off + k * 2, none⟩)))), (28, (isF (.pointer (some ⟨b, off + k * 2 + 1, none⟩)))), (29, isF (S p.2)), (30, cellsF (p.2.map B)), (31, isF (S (Pct.encd 6 p.2))), (32, isF (S (L1 ++ Pct.encd 6 p.1 ++ [61] ++ Pct.encd 6 p.2))), (3, isF (S (L1 ++ Pct.encd 6 p.1 ++ [61] ++ Pct.encd 6 p.2)))]) [15, 16, 17, 18, 19, 20, 21, 22, 23, 24, 25, 26, 27, 28, 29, 30, 31, 32, 3] (by kernel_rfl) (by kernel_rfl) (by kernel_rfl) (knows_mono _) (steps_first rfl (ok_still 0 rfl rfl 3 (S L1) rfl (by kernel_rfl) rfl (fun _ _ => rfl)) ?_) ?_
        · skip
          refine allOps_cons (ok_fixed (.inl rfl) rfl 0 (.slice (some ⟨b, off, none⟩) l.length cap) (.inl rfl) (by kernel_rfl) rfl (fun _ _ => rfl)) ?_
          refine allOps_cons (ok_fixed (.inl rfl) rfl 4 (.int .i64 (k : Int)) (.inl rfl) (by kernel_rfl) rfl (fun _ _ => rfl)) ?_
          refine allOps_cons (ok_addrQ (.inl rfl) rfl 16 17 _ rfl (by kernel_rfl) (by kernel_rfl) _ _ _ (fun _ _ h => h) (fun _ _ h => h) (fun u => addr_P u b off l.length cap k hkl) (fun _ => rfl)) ?_
          refine allOps_cons (ok_fieldQ (.inl rfl) rfl 18 _ 0 rfl (by kernel_rfl) _ _ (fun _ _ h => h) (fun u => run_field0 u b (off + k * 2)) (fun _ => rfl)) ?_
          refine allOps_cons (ok_loadQ (.inl rfl) rfl 19 _ rfl (by kernel_rfl) _ (S p.1) (fun _ _ h => h) (fun u hx => load_S ((hx.cell (p := ⟨b, off + k * 2, none⟩) (cell_lt c0)).trans c0)) (fun _ => rfl)) ?_
          refine allOps_cons (ok_convB (.inl rfl) rfl 20 rfl (by kernel_rfl) p.1 (by omega) (fun _ _ h => h) (fun _ _ h => h)) ?_
          refine allOps_cons (ok_is (.inl rfl) rfl 23 _ _ (fun args v => run_enter 23 Tryd.f23 Tryd.func23 (by kernel_rfl) (by kernel_rfl) args v) rfl (S (Pct.encd 6 p.1)) (fun a v hx hf hd => by
            obtain ⟨ao, cc, e2, hr2⟩ := hd 21 (by kernel_rfl)
            have e3 : (#[Operand.const (.int .i64 6), Operand.tmp 21] : Array Operand).map a.eval = #[.int .i64 6, .slice ao p.1.length cc] := by
              rw [List.length_map, Array.getD_eq_getD_getElem?] at e2
              simp [Act.eval, e2]
            rw [e3]
            exact Pct.percent_own 6 ao p.1.length cc p.1 v rfl (by omega) hr2) (fun _ => rfl)) ?_
          refine allOps_cons (ok_catS (.inl rfl) rfl 15 22 _ _ rfl (by kernel_rfl) (by kernel_rfl) L1 (Pct.encd 6 p.1) (by omega) (fun _ _ h => h) (fun _ _ h => h) (fun _ => rfl)) ?_
          refine allOps_cons (ok_catC (.inl rfl) rfl 23 [61] _ _ rfl (by kernel_rfl) (L1 ++ Pct.encd 6 p.1) (by simp only [List.length_append, List.length_singleton]; omega) (fun _ _ h => h) (fun _ => rfl)) ?_
          refine allOps_cons (ok_fixed (.inl rfl) rfl 0 (.slice (some ⟨b, off, none⟩) l.length cap) (.inl rfl) (by kernel_rfl) rfl (fun _ _ => rfl)) ?_
          refine allOps_cons (ok_fixed (.inl rfl) rfl 4 (.int .i64 (k : Int)) (.inl rfl) (by kernel_rfl) rfl (fun _ _ => rfl)) ?_
          refine allOps_cons (ok_addrQ (.inl rfl) rfl 25 26 _ rfl (by kernel_rfl) (by kernel_rfl) _ _ _ (fun _ _ h => h) (fun _ _ h => h) (fun u => addr_P u b off l.length cap k hkl) (fun _ => rfl)) ?_
          refine allOps_cons (ok_fieldQ (.inl rfl) rfl 27 _ 1 rfl (by kernel_rfl) _ _ (fun _ _ h => h) (fun u => run_field1 u b (off + k * 2)) (fun _ => rfl)) ?_
          refine allOps_cons (ok_loadQ (.inl rfl) rfl 28 _ rfl (by kernel_rfl) _ (S p.2) (fun _ _ h => h) (fun u hx => load_S ((hx.cell (p := ⟨b, off + k * 2 + 1, none⟩) (cell_lt c1)).trans c1)) (fun _ => rfl)) ?_
          refine allOps_cons (ok_convB (.inl rfl) rfl 29 rfl (by kernel_rfl) p.2 (by omega) (fun _ _ h => h) (fun _ _ h => h)) ?_
          refine allOps_cons (ok_is (.inl rfl) rfl 23 _ _ (fun args v => run_enter 23 Tryd.f23 Tryd.func23 (by kernel_rfl) (by kernel_rfl) args v) rfl (S (Pct.encd 6 p.2)) (fun a v hx hf hd => by
            obtain ⟨ao, cc, e2, hr2⟩ := hd 30 (by kernel_rfl)
            have e3 : (#[Operand.const (.int .i64 6), Operand.tmp 30] : Array Operand).map a.eval = #[.int .i64 6, .slice ao p.2.length cc] := by
              rw [List.length_map, Array.getD_eq_getD_getElem?] at e2
              simp [Act.eval, e2]
            rw [e3]
            exact Pct.percent_own 6 ao p.2.length cc p.2 v rfl (by omega) hr2) (fun _ => rfl)) ?_
          refine allOps_cons (ok_catS (.inl rfl) rfl 24 31 _ _ rfl (by kernel_rfl) (by kernel_rfl) (L1 ++ Pct.encd 6 p.1 ++ [61]) (Pct.encd 6 p.2) (by simp only [List.length_append, List.length_singleton]; omega) (fun _ _ h => h) (fun _ _ h => h) (fun _ => rfl)) ?_
          refine allOps_cons (ok_move (.inl rfl) rfl 32 (.inr rfl) (by kernel_rfl) (fun _ _ h => h)) ?_
          exact allOps_nil
        · intro vs wz hxz hkn
          have h3 : vs 3 = S (L1 ++ Pct.encd 6 p.1 ++ [61] ++ Pct.encd 6 p.2) := hkn 3 (by kernel_rfl)
          have kk := hide (unhide KEY _ wz rfl hxz)
          simp only [putAll, h3, Act.put, List.setIfInBounds_toArray, List.set_cons_succ, List.set_cons_zero]
          clear hkn h3 hxz KEY c0 c1
          generalize vs 15 = y15
          generalize vs 16 = y16
          generalize vs 17 = y17
          generalize vs 18 = y18
          generalize vs 19 = y19
          generalize vs 20 = y20
          generalize vs 21 = y21
          generalize vs 22 = y22
          generalize vs 23 = y23
          generalize vs 24 = y24
          generalize vs 25 = y25
          generalize vs 26 = y26
          generalize vs 27 = y27
          generalize vs 28 = y28
          generalize vs 29 = y29
          generalize vs 30 = y30
          generalize vs 31 = y31
          generalize vs 32 = y32
          go_wp2
          exact unhide kk
    · have hk2 : k = l.length := by omega
      subst hk2
      have e : S (shwQ (l.take l.length)) = S (shwQ l) := by rw [List.take_length]
      clear HR
      go_wp2
      go_ret
      exact ⟨by rw [← e]; rfl, hx⟩
end Go.Proofs.YtilmkmplaehcaaaDoor
