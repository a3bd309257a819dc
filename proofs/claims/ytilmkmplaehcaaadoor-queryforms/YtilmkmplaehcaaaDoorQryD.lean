/-
  The document's Query.
-/
import Derived.Test.YtilmkmplaehcaaaDoorQryC
import Derived.Test.YtilmkmplaehcaaaDoorOp6
import Derived.Laws.AppendOwnNone
namespace Go.Proofs.YtilmkmplaehcaaaDoor
set_option linter.unusedVariables false
open Go.RowKit

theorem addr_Q (w : World) (b off n cap j : Nat) (hj : j < n) : (Instr.indexAt 35 (.slice (some ⟨b, off, none⟩) n cap) (.int .i64 (j : Int))).run Tryd.prog w = .ok (.pointer (some ⟨b, off + j, none⟩)) w := by
  have he : Tryd.prog.elem 35 = 9 := by kernel_rfl
  have hz : ∀ w : World, (sizeOf 9).run Tryd.prog w = .ok 1 w := fun w => by kernel_rfl
  rw [run_indexAt_slice w 35 ⟨b, off, none⟩ n cap .i64 (j : Int) (by rw [he]; exact Tryd.underlying35), if_pos ⟨by omega, by omega⟩, he, hz]
  simp only [Result.andThen]
  rw [Addr.add_lit]
  simp

/-- The pairs of some pieces. -/
def prsL (l : List (List UInt8)) : List Pr := (l.filter fun p => !p.isEmpty).map pairOf
theorem prsL_snoc (l : List (List UInt8)) (p : List UInt8) : prsL (l ++ [p]) = if p = [] then prsL l else prsL l ++ [pairOf p] := by
  unfold prsL
  rw [List.filter_append, List.map_append]
  cases p with
  | nil => simp
  | cons x r => simp
theorem prsL_take (l : List (List UInt8)) (k : Nat) (h : 40 ≤ (prsL (l.take k)).length) : (prsL l).take 40 = (prsL (l.take k)).take 40 := by
  have e : prsL l = prsL (l.take k) ++ prsL (l.drop k) := by
    unfold prsL
    rw [← List.map_append, ← List.filter_append, List.take_append_drop]
  rw [e, List.take_append_of_le_length h]

set_option maxHeartbeats 4000000 in
theorem rquery_any (s : List UInt8) (w : World) (hs : s.length ≤ 10000) :
    Calls Tryd.prog 11 #[S s] w fun e w' => ∃ ao c, e = .returned (.slice ao (parQ s).length c) ∧ RdP w' ao c (parQ s) ∧ Ext w w' := by
  have HCUT := hide (rcut_any s 38 w (by omega))
  have HPN : Hid (parQ s = (prsL (pcs 38 s)).take 40 ∧ (pcs 38 s).length ≤ 10001 ∧ ∀ p ∈ pcs 38 s, p.length ≤ 10000) := by
    refine ⟨rfl, ?_, fun p hp => ?_⟩
    · rw [pcs_count]
      have : Lib.countByte s 38 ≤ s.length := List.count_le_length
      omega
    · have := pcs_len 38 s p hp
      omega
  have h1p := List.length_pos_iff.2 (pcs_ne 38 s)
  obtain ⟨RR, hRR⟩ : ∃ RR, RR = parQ s := ⟨_, rfl⟩
  rw [← hRR] at HPN
  have HRR := hide hRR
  clear hRR
  go_enter Tryd.func11, Tryd.ntmps11
  go_wp2_with fail
  refine (unhide HCUT).mono ?_
  rintro e w5 ⟨v5, rfl, O5, B5⟩
  clear HCUT
  generalize pcs 38 s = PS at *
  obtain ⟨g1, c1, rfl⟩ : ∃ g c, v5 = .slice (some ⟨g, 0, none⟩) PS.length c := by
    rcases O5.2 with ⟨_, h0⟩ | ⟨g, c, cur, hv, _⟩
    · omega
    · exact ⟨g, c, hv⟩
  have R5 := hide (RdV.of_owned_at O5)
  have hxw5 : Hid (Ext w w5) := B5
  obtain ⟨hRP, hpn, hpl⟩ := unhide HPN
  have HRP := hide hRP
  have HPL := hide hpl
  have ST2 : Hid (∃ (k n c : Nat) (ao : Option Addr), Value.slice none 0 0 = .slice ao n c ∧ Value.int .i64 0 = .int .i64 (k : Int) ∧ k ≤ PS.length ∧ n = (prsL (PS.take k)).length ∧ n ≤ 40 ∧ w5.ownsRow w5.heap.size 25 2 (.slice ao n c) n (cellsP (prsL (PS.take k))) ∧ Below w5.heap.size w5 w5) :=
    ⟨0, 0, 0, none, rfl, rfl, by omega, rfl, by omega, World.ownsRow_nil w5 _ _ 2, Below.refl _ _⟩
  clear O5 B5 HPN hRP hpl
  go_wp2_with fail
  go_loopw [3, 5] (fun o i wr => ∃ (k n c : Nat) (ao : Option Addr), o = .slice ao n c ∧ i = .int .i64 (k : Int) ∧ k ≤ PS.length ∧ n = (prsL (PS.take k)).length ∧ n ≤ 40 ∧ wr.ownsRow w5.heap.size 25 2 (.slice ao n c) n (cellsP (prsL (PS.take k))) ∧ Below w5.heap.size w5 wr) (fun _ i _ => PS.length - (intOf i).toNat)
  case atStart => exact unhide ST2
  case round =>
    clear ST2
    obtain ⟨k, n, c, ao, rfl, rfl, hk, hn, hn40, own, hbr⟩ := hrel
    by_cases hgo : k < PS.length ∧ n < 40
    · obtain ⟨hkl, hnl⟩ := hgo
      have hkl' : (k : Int) < (PS.length : Int) := by omega
      have hnl' : (n : Int) < 40 := by omega
      have c0 : wr.cell? ⟨g1, k, none⟩ = some (S (PS.getD k [])) := by
        obtain ⟨b', off', eb, hc⟩ := (unhide R5).cell k (by simpa using hkl)
        simp only [Option.some.injEq, Addr.mk.injEq] at eb
        obtain ⟨rfl, rfl, _⟩ := eb
        rw [show (PS.map S)[k]? = some (S (PS.getD k [])) by simp [List.getD, hkl], Nat.zero_add] at hc
        exact (hbr.cell (p := ⟨g1, k, none⟩) (cell_lt hc)).trans hc
      have hxl : (PS.getD k []).length ≤ 10000 := unhide HPL _ (by simp [List.getD, hkl])
      have hsn := prsL_snoc (PS.take k) (PS.getD k [])
      rw [← take_snoc PS k [] hkl] at hsn
      have HSN := hide hsn
      have hsz := size_S (PS.getD k [])
      clear hsn HPL R5 hxw5 HRP HRR
      generalize PS.getD k [] = p at *
      generalize hq : prsL (PS.take k) = qs at *
      by_cases hp : p = []
      · subst hp
        have KK : Hid ((∃ (k' n' c' : Nat) (ao' : Option Addr), Value.slice ao n c = .slice ao' n' c' ∧ Value.int .i64 ((k : Int) + 1) = .int .i64 (k' : Int) ∧ k' ≤ PS.length ∧ n' = (prsL (PS.take k')).length ∧ n' ≤ 40 ∧ wr.ownsRow w5.heap.size 25 2 (.slice ao' n' c') n' (cellsP (prsL (PS.take k'))) ∧ Below w5.heap.size w5 wr) ∧ PS.length - ((k : Int) + 1).toNat < PS.length - k) := by
          have e := unhide HSN
          rw [if_pos rfl] at e
          exact ⟨⟨k + 1, n, c, ao, rfl, by simp, by omega, by rw [e]; exact hn, hn40, by rw [e]; exact own, hbr⟩, by omega⟩
        clear HSN own hbr hq
        go_wp2
        exact unhide KK
      · have hpe : (p == []) = false := by simpa using hp
        have hpe2 : p.isEmpty = false := by simpa using hp
        have e := unhide HSN
        rw [if_neg hp] at e
        have KEY : Hid (∀ (v' : Value) (w' : World), w'.ownsRow w5.heap.size 25 2 v' (qs.length + 1) (cellsP (qs ++ [pairOf p])) → Below w5.heap.size w5 w' →
            (∃ (k' n' c' : Nat) (ao' : Option Addr), v' = .slice ao' n' c' ∧ Value.int .i64 ((k : Int) + 1) = .int .i64 (k' : Int) ∧ k' ≤ PS.length ∧ n' = (prsL (PS.take k')).length ∧ n' ≤ 40 ∧ w'.ownsRow w5.heap.size 25 2 (.slice ao' n' c') n' (cellsP (prsL (PS.take k'))) ∧ Below w5.heap.size w5 w') ∧ PS.length - ((k : Int) + 1).toNat < PS.length - k) := by
          intro v' w' o' b'
          obtain ⟨ao', c', rfl, _⟩ := ownedP_some o'
          exact ⟨⟨k + 1, qs.length + 1, c', ao', rfl, by simp, by omega, by rw [e, List.length_append]; rfl, by omega, by rw [e]; exact o', b'⟩, by omega⟩
        have HF := hide (fun v : World => rfirst_any p 61 v (by omega))
        obtain ⟨ct1, ct2⟩ := cut1_at 61 p
        have hcl := (cut1_len 61 p).1
        have hcl2 := (cut1_len 61 p).2
        have HP1 := hide (fun v : World => rplain_any (cut1 61 p).1 v (by omega))
        have HP2 := hide (fun v : World => rplain_any (cut1 61 p).2 v (by omega))
        have hpo : pairOf p = (plainB (cut1 61 p).1, plainB (cut1 61 p).2) := rfl
        rw [hpo] at KEY
        clear e HSN hpo hp
        generalize hj : (cut1 61 p).1.length = j at *
        generalize plainB (cut1 61 p).1 = X1 at *
        generalize plainB (cut1 61 p).2 = X2 at *
        generalize (cut1 61 p).1 = P1 at *
        generalize (cut1 61 p).2 = P2 at *
        go_wp2_with fail
        refine (unhide HF wr).mono ?_
        rintro e w6 ⟨rfl, hw6⟩
        subst hw6
        clear HF
        subst hn
        have bs6 := hbr.size
        have r1 : IntKind.i64.wrap ((j : Int) + 1) = (j : Int) + 1 := by rw [IntKind.wrap_i64]; omega
        go_wp2_with fail
        refine wp_region_tail (A := knows [(30, isF (.slice ao qs.length c)), (31, isF (.slice (some ⟨g1, 0, none⟩) PS.length c1)), (32, isF (.int .i64 (k : Int))), (33, (isF (.pointer (some ⟨g1, k, none⟩)))), (34, isF (S p)), (35, isF (.int .i64 (j : Int))), (36, isF (S P1)), (37, isF (S X1)), (38, isF (.slice (some ⟨g1, 0, none⟩) PS.length c1)), (39, isF (.int .i64 (k : Int))), (40, (isF (.pointer (some ⟨g1, k, none⟩)))), (41, isF (S p)), (42, isF (.int .i64 (j : Int))), (43, isF (.int .i64 ((j : Int) + 1))), (44, isF (.slice (some ⟨g1, 0, none⟩) PS.length c1)), (45, isF (.int .i64 (k : Int))), (46, (isF (.pointer (some ⟨g1, k, none⟩)))), (47, isF (S p)), (48, isF (.int .i64 (p.length : Int))), (49, isF (.int .i64 ((min (j + 1) p.length : Nat) : Int))), (50, isF (S P2)), (51, isF (S X2)), (52, isF (.agg #[S X1, S X2])), (53, pairsF [(X1, X2)])]) 24 [30, 31, 32, 33, 34, 35, 36, 37, 38, 39, 40, 41, 42, 43, 44, 45, 46, 47, 48, 49, 50, 51, 52, 53] (by kernel_rfl) (by kernel_rfl) (by kernel_rfl) (by kernel_rfl) (knows_mono _) (steps_at ?_) ?_
        · skip
          refine allAt_cons (ok_still 0 rfl rfl 3 (.slice ao qs.length c) rfl (by kernel_rfl) rfl (fun _ _ => rfl)) ?_
          refine allAt_cons (StepOk.three _ (ok_fixed (.inl rfl) rfl 4 (.slice (some ⟨g1, 0, none⟩) PS.length c1) (.inl rfl) (by kernel_rfl) rfl (fun _ _ => rfl))) ?_
          refine allAt_cons (StepOk.three _ (ok_fixed (.inl rfl) rfl 5 (.int .i64 (k : Int)) (.inl rfl) (by kernel_rfl) rfl (fun _ _ => rfl))) ?_
          refine allAt_cons (StepOk.three _ (ok_addrQ (.inl rfl) rfl 31 32 _ rfl (by kernel_rfl) (by kernel_rfl) _ _ _ (fun _ _ h => h) (fun _ _ h => h) (fun u => addr_Q u g1 0 PS.length c1 k hkl) (fun _ => by rw [Nat.zero_add]; rfl))) ?_
          refine allAt_cons (StepOk.three _ (ok_loadQ (.inl rfl) rfl 33 _ rfl (by kernel_rfl) _ (S p) (fun _ _ h => h) (fun u hx => load_S ((hx.cell (p := ⟨g1, k, none⟩) (cell_lt c0)).trans c0)) (fun _ => rfl))) ?_
          refine allAt_cons (StepOk.three _ (ok_fixed (.inl rfl) rfl 6 (.int .i64 (j : Int)) (.inl rfl) (by kernel_rfl) rfl (fun _ _ => rfl))) ?_
          refine allAt_cons (StepOk.three _ (ok_takeS (.inl rfl) rfl 34 35 rfl (by kernel_rfl) (by kernel_rfl) p j (by omega) (fun _ _ h => h) (fun _ _ h => h) (fun _ => by rw [ct1]; rfl))) ?_
          refine allAt_cons (StepOk.three _ (ok_is (.inl rfl) rfl 19 _ _ (fun args v => run_enter 19 Tryd.f19 Tryd.func19 (by kernel_rfl) (by kernel_rfl) args v) rfl (S X1) (fun a v hx hf hd => by
          have e2 : a.tmps.getD 36 undef = S P1 := hd 36 (by kernel_rfl)
          have e3 : (#[Operand.tmp 36] : Array Operand).map a.eval = #[S P1] := by
            rw [Array.getD_eq_getD_getElem?] at e2
            simp [Act.eval, e2]
          rw [e3]
          exact unhide HP1 v) (fun _ => rfl))) ?_
          refine allAt_cons (StepOk.three _ (ok_fixed (.inl rfl) rfl 4 (.slice (some ⟨g1, 0, none⟩) PS.length c1) (.inl rfl) (by kernel_rfl) rfl (fun _ _ => rfl))) ?_
          refine allAt_cons (StepOk.three _ (ok_fixed (.inl rfl) rfl 5 (.int .i64 (k : Int)) (.inl rfl) (by kernel_rfl) rfl (fun _ _ => rfl))) ?_
          refine allAt_cons (StepOk.three _ (ok_addrQ (.inl rfl) rfl 38 39 _ rfl (by kernel_rfl) (by kernel_rfl) _ _ _ (fun _ _ h => h) (fun _ _ h => h) (fun u => addr_Q u g1 0 PS.length c1 k hkl) (fun _ => by rw [Nat.zero_add]; rfl))) ?_
          refine allAt_cons (StepOk.three _ (ok_loadQ (.inl rfl) rfl 40 _ rfl (by kernel_rfl) _ (S p) (fun _ _ h => h) (fun u hx => load_S ((hx.cell (p := ⟨g1, k, none⟩) (cell_lt c0)).trans c0)) (fun _ => rfl))) ?_
          refine allAt_cons (StepOk.three _ (ok_fixed (.inl rfl) rfl 6 (.int .i64 (j : Int)) (.inl rfl) (by kernel_rfl) rfl (fun _ _ => rfl))) ?_
          refine allAt_cons (StepOk.three _ (ok_incS (.inl rfl) rfl 42 _ _ (j : Int) r1 rfl (by kernel_rfl) (fun _ _ h => h) (fun _ => rfl))) ?_
          refine allAt_cons (StepOk.three _ (ok_fixed (.inl rfl) rfl 4 (.slice (some ⟨g1, 0, none⟩) PS.length c1) (.inl rfl) (by kernel_rfl) rfl (fun _ _ => rfl))) ?_
          refine allAt_cons (StepOk.three _ (ok_fixed (.inl rfl) rfl 5 (.int .i64 (k : Int)) (.inl rfl) (by kernel_rfl) rfl (fun _ _ => rfl))) ?_
          refine allAt_cons (StepOk.three _ (ok_addrQ (.inl rfl) rfl 44 45 _ rfl (by kernel_rfl) (by kernel_rfl) _ _ _ (fun _ _ h => h) (fun _ _ h => h) (fun u => addr_Q u g1 0 PS.length c1 k hkl) (fun _ => by rw [Nat.zero_add]; rfl))) ?_
          refine allAt_cons (StepOk.three _ (ok_loadQ (.inl rfl) rfl 46 _ rfl (by kernel_rfl) _ (S p) (fun _ _ h => h) (fun u hx => load_S ((hx.cell (p := ⟨g1, k, none⟩) (cell_lt c0)).trans c0)) (fun _ => rfl))) ?_
          refine allAt_cons (StepOk.three _ (ok_lenS (.inl rfl) rfl 47 rfl (by kernel_rfl) p (fun _ _ h => h) (fun _ => rfl))) ?_
          refine allAt_cons (StepOk.three _ (ok_minI (.inl rfl) rfl 43 48 _ rfl (by kernel_rfl) (by kernel_rfl) ((j : Int) + 1) (p.length : Int) ((min (j + 1) p.length : Nat) : Int) (by split <;> omega) (fun _ _ h => h) (fun _ _ h => h) (fun _ => rfl))) ?_
          refine allAt_cons (StepOk.three _ (ok_dropS (.inl rfl) rfl 41 49 rfl (by kernel_rfl) (by kernel_rfl) p (min (j + 1) p.length) (by omega) (fun _ _ h => h) (fun _ _ h => h) (fun _ => by rw [ct2]; rfl))) ?_
          refine allAt_cons (StepOk.three _ (ok_is (.inl rfl) rfl 19 _ _ (fun args v => run_enter 19 Tryd.f19 Tryd.func19 (by kernel_rfl) (by kernel_rfl) args v) rfl (S X2) (fun a v hx hf hd => by
          have e2 : a.tmps.getD 50 undef = S P2 := hd 50 (by kernel_rfl)
          have e3 : (#[Operand.tmp 50] : Array Operand).map a.eval = #[S P2] := by
            rw [Array.getD_eq_getD_getElem?] at e2
            simp [Act.eval, e2]
          rw [e3]
          exact unhide HP2 v) (fun _ => rfl))) ?_
          refine allAt_cons (StepOk.three _ (ok_buildP (.inl rfl) rfl 37 51 rfl (by kernel_rfl) (by kernel_rfl) (X1, X2) (fun _ _ h => h) (fun _ _ h => h) (fun _ => rfl))) ?_
          refine allAt_cons (StepOk.three _ (ok_oneP (.inl rfl) rfl 52 rfl (by kernel_rfl) (X1, X2) (fun _ _ h => h) (fun _ _ h => h))) ?_
          exact allAt_nil
        · intro vs wy hx hkn
          have h30 : vs 30 = .slice ao qs.length c := hkn 30 (by kernel_rfl)
          obtain ⟨ao8, c53, e53, r53⟩ : (pairsF [(X1, X2)]).holds (vs 53) wy := hkn 53 (by kernel_rfl)
          have e53' : vs 53 = .slice ao8 1 c53 := e53
          have ownY := ownsP_below own hx
          have hby : Below w5.heap.size w5 wy := hbr.trans (Below.mono hx bs6)
          have bsy := hby.size
          simp only [putAll, h30, e53', Act.put, List.setIfInBounds_toArray, List.set_cons_succ, List.set_cons_zero]
          clear hkn hx e53 e53' h30 own hbr c0 HP1 HP2
          generalize vs 31 = y31
          generalize vs 32 = y32
          generalize vs 33 = y33
          generalize vs 34 = y34
          generalize vs 35 = y35
          generalize vs 36 = y36
          generalize vs 37 = y37
          generalize vs 38 = y38
          generalize vs 39 = y39
          generalize vs 40 = y40
          generalize vs 41 = y41
          generalize vs 42 = y42
          generalize vs 43 = y43
          generalize vs 44 = y44
          generalize vs 45 = y45
          generalize vs 46 = y46
          generalize vs 47 = y47
          generalize vs 48 = y48
          generalize vs 49 = y49
          generalize vs 50 = y50
          generalize vs 51 = y51
          generalize vs 52 = y52
          change wpList _ _ _ [_, _] _ _
          go_wp2_with (at_builtin; refine wpList_appP rfl (.tmp 30) (.tmp 53) rfl w5.heap.size _ qs rfl ownY _ _ [(X1, X2)] rfl r53 (by show (qs.length + 1) * 33 ≤ _; omega) bsy ?_)
          intro v9 w9 o9 b9
          have kk := hide (unhide KEY v9 w9 o9 (hby.trans b9))
          clear o9 b9 KEY ownY r53 hby bsy
          go_wp2
          exact unhide kk
    · have hfin : (prsL (PS.take k)).length = RR.length ∧ prsL (PS.take k) = RR := by
        have e : RR = (prsL PS).take 40 := unhide HRP
        by_cases hkl : k < PS.length
        · have h40 : n = 40 := by
            have : ¬ n < 40 := fun h => hgo ⟨hkl, h⟩
            omega
          have := prsL_take PS k (by omega)
          have hl40 : (prsL (PS.take k)).length ≤ 40 := by omega
          have e2 : prsL (PS.take k) = RR := by rw [e, this, List.take_of_length_le hl40]
          exact ⟨by rw [e2], e2⟩
        · have hk2 : k = PS.length := by omega
          rw [hk2, List.take_length] at hn ⊢
          have hl40 : (prsL PS).length ≤ 40 := by omega
          have e2 : prsL PS = RR := by rw [e, List.take_of_length_le hl40]
          exact ⟨by rw [e2], e2⟩
      obtain ⟨h1, h2⟩ := hfin
      rw [h1] at hn
      rw [h2] at own
      subst hn
      have FF : Hid (∃ ao' c', Ending.returned (.slice ao RR.length c) = .returned (.slice ao' RR.length c') ∧ RdP wr ao' c' RR ∧ Ext w wr) := ⟨ao, c, rfl, RdP.of_owned own, (unhide hxw5).then hbr (unhide hxw5).size⟩
      have hcond : ¬ (k : Int) < (PS.length : Int) ∨ ((k : Int) < (PS.length : Int) ∧ ¬ (RR.length : Int) < 40) := by
        by_cases hkl : k < PS.length
        · have : ¬ RR.length < 40 := fun h => hgo ⟨hkl, h⟩
          exact .inr ⟨by omega, by omega⟩
        · exact .inl (by omega)
      clear own hbr hxw5 R5 HPL HRP h1 h2 hgo
      rcases hcond with hcond | ⟨hcond, hc2⟩
      all_goals
        go_wp2
        go_ret
        rw [← unhide HRR]
        exact unhide FF
end Go.Proofs.YtilmkmplaehcaaaDoor
