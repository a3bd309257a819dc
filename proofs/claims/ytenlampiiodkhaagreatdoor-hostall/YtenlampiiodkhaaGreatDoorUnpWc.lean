/-
  UnpW.
-/
import Derived.Test.YtenlampiiodkhaaGreatDoorDecWc
import Derived.Test.YtenlampiiodkhaaGreatDoorUnpPc
namespace Go.Proofs.YtenlampiiodkhaaGreatDoor
set_option linter.unusedVariables false
open Go.RowKit Go.Proofs
def RelU (w : World) (X : Option (List Nat)) (s : List UInt8) (vo va vn vi vb : Value) (wr : World) : Prop :=
  ∃ (f n i bias at' : Nat) (l : List Nat), va = .int .i64 (at' : Int) ∧ vn = .int .i64 (n : Int) ∧ vi = .int .i64 (i : Int) ∧ vb = .int .i64 (bias : Int) ∧ at' ≤ s.length ∧ s.length - at' ≤ f ∧ l.length ≤ 300 ∧ n ≤ 1114111 ∧ i ≤ 300 ∧ bias ≤ 2400 ∧
    Hid (lim (rdB f n i bias l (s.drop at')) = X) ∧ wr.ownsRow w.heap.size 21 1 vo l.length (rl l) ∧ Below w.heap.size w wr
def RelV (bias : Nat) (Y : Option (Nat × List UInt8)) (s : List UInt8) (w0 : World) (at0 i0 : Nat) (va vi vw vk : Value) (wr : World) : Prop :=
  ∃ (at' i wt k : Nat), va = .int .i64 (at' : Int) ∧ vi = .int .i64 (i : Int) ∧ vw = .int .i64 (wt : Int) ∧ vk = .int .i64 (k : Int) ∧ at0 ≤ at' ∧ i0 ≤ i ∧ at' ≤ s.length ∧ 1 ≤ wt ∧ (wt = 1 ∨ wt ≤ 35 * i) ∧ i ≤ 1125899906842624 ∧ k ≤ 36 * at' + 36 ∧ 36 ≤ k ∧
    Hid ((cutN bias (s.drop at') k).map (fun p => (i + wt * p.1, p.2)) = Y) ∧ wr = w0
theorem step_appR {ops : Array Oper} {o : Oper} {a : Act} {w : World} {K : Act → World → Prop} {Q : Exit → Act → World → Prop} {E : Prop} (hgd : o.guard = none) (s x : Operand) (t : TypeId)
    (hT : Tryz.prog.underlying t = some (.slice 21)) (ho : o.op = .call { callee := .builtin .append, args := #[s, x], argTypes := #[t, t] })
    (base : Nat) (v : Value) (n : Nat) (xs : List Value) (hs : a.eval s = v) (hown : w.ownsRow base 21 1 v n xs)
    (ao : Option Addr) (m c : Nat) (ys : List Value) (hx : a.eval x = .slice ao m c) (hl : ys.length = m) (hr : RdV w ao c ys) (hone : ∀ u ∈ ys, u.oneCell' = true) (hb : (n + m) * 5 ≤ 140737488355328) (hbase : base ≤ w.heap.size)
    (h : ∀ v' w', w'.ownsRow base 21 1 v' (n + m) (xs ++ ys) → Below base w w' → (∀ b, b < w.heap.size → some b ≠ v.ownBlock → w'.heap[b]? = w.heap[b]?) → K (a.put o.dst v') w') :
    if Region.wanted o (yielded ops a.tmps) = true then Oper.wp Tryz.prog o a w K Q else E := by
  have hw : Region.wanted o (yielded ops a.tmps) = true := by simp [Region.wanted, hgd]
  rw [if_pos hw]; obtain ⟨i0, hi, hz0, hz1, hz2⟩ := info_parts infoR
  cases ao with
  | some ad =>
    refine wp_append_own w s x t ho base 21 i0 (.int .i32 0) 1 4 hT hi hz0 hz1 hz2 rfl (by decide) v n xs hs hown ad m c ys hx (by omega) (hr.news ad rfl) hone (by unfold maxLen; omega) (by omega) hbase ?_; intro v' w' h1 h2 _; exact h v' w' h1 ((Below.refl _ _).grown h2 hbase (fun t ht => (hown.lt t ht).1)) h2.block
  | none =>
    have h0 := hr.nil rfl; have hle := hr.le; have hy : ys = [] := List.eq_nil_of_length_eq_zero (by omega); subst hy; have hm : m = 0 := by simpa using hl.symm
    subst hm; subst h0; have hrun := run_append_owned_none (P := Tryz.prog) (w := w) base t o.type 21 i0 1 hT hi v n xs hown; unfold Oper.wp; simp [execOp, ho, resolve, invoke, builtin, hs, hx, hrun, Result.andThen]; exact h v w (by simpa using hown) (Below.refl _ _) (fun _ _ _ => rfl)
theorem lit_rd {w : World} {g : Nat} {u : Value} (h : w.heap[g]? = some (.cells #[u] 21 (0, 0))) : RdV w (some ⟨g, 0, none⟩) 1 [u] :=
  ⟨by simp, by omega, fun e => (by cases e), fun j hj => ⟨g, 0, rfl, by
    have hj0 : j = 0 := by simpa using hj
    subst hj0; simp [World.cell?, h]⟩⟩
theorem stepB_some {f n was : Nat} {l : List Nat} {T : Nat} {r : List UInt8} (h : 71303168 ≤ T) : stepB f n was l (some (T, r)) = none := by
  simp only [stepB]; rw [if_neg]; rintro ⟨h1, h2⟩; have h3 := cp_le h1; have h4 : (71303168 : Nat) / 64 ≤ T / (l.length + 1) := Nat.le_trans (Nat.div_le_div_left (by omega) (by omega)) (Nat.div_le_div_right (by omega)); have h5 : (1114112 : Nat) = 71303168 / 64 := by decide
  omega
set_option maxHeartbeats 4000000 in
set_option maxRecDepth 100000 in
theorem unpuny_any : DecOf 105 := by
  intro s w hs; have hsl : (⟨s.toArray⟩ : ByteArray).size = s.length := size_S s; have HFL : Hid (∀ w', pdec s = none → Ext w w' → TellsD w s (.returned (.tuple #[.slice none 0 0, .int .i64 2])) w') := fun w' h hx => fails h hx; go_enter Tryz.func105, Tryz.ntmps105; by_cases h200 : s.length ≤ 200
  · have h200' : ¬ (200 : Int) < (s.length : Int) := by omega
    go_wp2_with fail
    go_loopw [4, 5] (fun c i wr => ∃ j : Nat, j ≤ s.length ∧ i = .int .i64 j ∧ c = .int .i64 (cutI (s.take j)) ∧ Hid (∀ b ∈ s.take j, b.toNat ≤ 127) ∧ wr = w) (fun _ i _ => s.length - (intOf i).toNat)
    case atStart => exact ⟨0, by omega, rfl, rfl, hide (by simp), rfl⟩
    case round =>
      obtain ⟨j, hj, rfl, rfl, HOK, hw⟩ := hrel; have hw' := hw.symm; subst hw'; clear hw; by_cases hjl : j < s.length
      · have hi := fun w => idx_str w s .i64 j hjl; have hbt := (s.getD j 0).toNat_lt; have HT := hide (take_snoc s j 0 hjl); have HC : Hid (cutI (s.take (j + 1)) = if s.getD j 0 = 45 then (j : Int) else cutI (s.take j)) := by
          rw [unhide HT, cutI_snoc, List.length_take, Nat.min_eq_left hj]; exact hide rfl
        have HM := hide (show s.getD j 0 ∈ s by simp [List.getD, hjl]); unfold B at hi; by_cases hx : (s.getD j 0).toNat ≤ 127
        · have HOK2 : Hid (∀ b ∈ s.take (j + 1), b.toNat ≤ 127) := by
            show ∀ b ∈ s.take (j + 1), b.toNat ≤ 127; rw [unhide HT]; intro b hb; rcases List.mem_append.1 hb with hb | hb
            · exact unhide HOK b hb
            · rw [List.mem_singleton] at hb; rw [hb]; exact hx
          have hx' : ¬ (127 : Int) < ((s.getD j 0).toNat : Int) := by omega
          by_cases h45 : s.getD j 0 = 45
          · have h45' : (((s.getD j 0).toNat : Nat) : Int) = 45 := by rw [h45]; rfl
            rw [if_pos h45] at HC; clear HT HOK HM h45 hx; generalize (s.getD j 0).toNat = z at *; go_wp2; exact ⟨⟨j + 1, by omega, by simp, by rw [unhide HC], HOK2, by first | rfl | trivial⟩, (show s.length - ((j : Int) + 1).toNat < s.length - ((j : Int)).toNat by omega)⟩
          · have h45' : ¬ ((((s.getD j 0).toNat : Nat) : Int) = 45) := fun e => h45 (UInt8.toNat_inj.1 (by show (s.getD j 0).toNat = 45; omega)); have h452 : (((s.getD j 0).toNat : Int) == 45) = false := beq_eq_false_iff_ne.2 h45'; rw [if_neg h45] at HC; clear HT HOK HM h45 hx; generalize (s.getD j 0).toNat = z at *; generalize cutI (s.take j) = c at *; go_wp2; exact ⟨⟨j + 1, by omega, by simp, by rw [unhide HC], HOK2, by first | rfl | trivial⟩, (show s.length - ((j : Int) + 1).toNat < s.length - ((j : Int)).toNat by omega)⟩
        · have hx' : (127 : Int) < ((s.getD j 0).toNat : Int) := by omega
          have hpn : pdec s = none := by
            unfold pdec; rw [if_neg]; rintro ⟨_, h2⟩; have := List.all_eq_true.1 h2 _ (unhide HM); simp only [decide_eq_true_eq] at this; omega
          have FF := hide (unhide HFL w hpn (Ext.refl _)); clear HT HC HM HOK hpn hx; generalize (s.getD j 0).toNat = z at *; generalize cutI (s.take j) = c at *; go_wp2; go_ret2; exact unhide FF
      · have e : j = s.length := by omega
        subst e; have hok := unhide HOK; rw [List.take_length] at hok; have hpl := pdec_lim s h200 hok; rw [List.take_length]; have hcb := cutI_bound s; clear HOK hjl hj; have key : ∃ (at0 : Nat) (p : List UInt8), prt s = (p, s.drop at0) ∧ at0 ≤ s.length ∧ p.length ≤ 200 ∧ ((cutI s ≤ 0 ∧ p = [] ∧ at0 = 0) ∨ (0 < cutI s ∧ (p.length : Int) = cutI s ∧ (at0 : Int) = cutI s + 1 ∧ p = s.take p.length)) := by
          unfold prt cutI
          cases hc : cutAt s with
          | none => exact ⟨0, [], by simp, by omega, by simp, .inl ⟨by simp, rfl, rfl⟩⟩
          | some k =>
            have hk := (cutAt_is hc).1
            cases k with
            | zero => exact ⟨0, [], by simp, by omega, by simp, .inl ⟨by simp, rfl, rfl⟩⟩
            | succ k => exact ⟨k + 2, s.take (k + 1), rfl, by omega, by simp; omega, .inr ⟨by first | omega | (simp; done) | (simp; omega), by first | omega | (simp; done) | (simp; omega), by first | omega | (simp; done) | (simp; omega), by simp⟩⟩
        obtain ⟨at0, p, hprt, hat0, hp200, hk⟩ := key; rw [hprt] at hpl; simp only [List.length_drop] at hpl; have HPL := hide hpl; clear hpl hprt hok; obtain ⟨X, hX⟩ : ∃ X, X = pdec s := ⟨_, rfl⟩; have HX := hide hX; rw [← hX] at HPL HFL; clear hX; have HCELL : Hid (∀ q, q < p.length → 0 < cutI s ∧ q < s.length ∧ p.take (q + 1) = p.take q ++ [s.getD q 0]) := fun q hq => by
          rcases hk with ⟨_, h2, _⟩ | ⟨h1, h2, h3, h4⟩
          · rw [h2] at hq; simp at hq
          · refine ⟨h1, by omega, ?_⟩; rw [take_snoc p q 0 hq]; congr 2; rw [h4]; simp [List.getD, hq]
        have HCUT : Hid (∀ q : Nat, q ≤ p.length → ((q : Int) < cutI s ↔ q < p.length)) := fun q hq => by
          rcases hk with ⟨h1, h2, _⟩ | ⟨h1, h2, h3, h4⟩
          · rw [h2] at hq ⊢; simp at hq ⊢; omega
          · omega
        generalize hcc : cutI s = c at *; clear hcc; go_wp2_with fail
        go_loopw [6, 7] (fun o i wr => ∃ q : Nat, q ≤ p.length ∧ i = .int .i64 q ∧ wr.ownsRow w.heap.size 21 1 o q (rl ((p.take q).map UInt8.toNat)) ∧ Below w.heap.size w wr) (fun _ i _ => p.length - (intOf i).toNat)
        case atStart => exact ⟨0, by omega, rfl, World.ownsRow_nil _ _ _ _, Below.refl _ _⟩
        case round =>
          obtain ⟨q, hq, rfl, own, hbr⟩ := hrel; have hql := unhide HCUT q hq; by_cases hlt : q < p.length
          · have hlt' := hql.2 hlt; obtain ⟨hc0, hqs, htk⟩ := unhide HCELL q hlt; have hi := fun w => idx_str w s .i64 q hqs; have hbt := (s.getD q 0).toNat_lt; have HTK : Hid (rl ((p.take (q + 1)).map UInt8.toNat) = rl ((p.take q).map UInt8.toNat) ++ [R (((s.getD q 0).toNat : Nat) : Int)]) := by rw [htk]; unfold rl; simp; exact hide trivial
            unfold B at hi; clear htk hql; generalize (s.getD q 0).toNat = z at *; have RL := RdV.lit wr [R (z : Int)] 21 (0, 0) (by simp); have own2 := owns_below own (Ext.alloc wr (.cells #[R (z : Int)] 21 (0, 0))); have hb2 : Below w.heap.size w (wr.alloc (.cells #[R (z : Int)] 21 (0, 0))) := hbr.trans (Below.mono (Ext.alloc wr _) hbr.size); have hbase2 := hb2.size; have hone : ∀ u ∈ [R (z : Int)], u.oneCell' = true := by simp [R, Value.oneCell']
            clear own hbr; go_wp2_with (at_builtin; refine wpList_appR rfl (.tmp 40) (.tmp 45) 45 Tryz.underlying45 rfl w.heap.size _ _ _ rfl own2 _ _ _ [R (z : Int)] rfl rfl RL hone (by omega) hbase2 ?_)
            intro v2 w2 o2 b2 k2; have hb3 := hb2.trans b2; have o3 : w2.ownsRow w.heap.size 21 1 v2 (q + 1) (rl ((p.take (q + 1)).map UInt8.toNat)) := by rw [unhide HTK]; simpa [rl, List.map_take] using o2
            clear own2 RL hone o2 b2 hb2 hbase2 HTK hi k2; go_wp2; exact ⟨⟨q + 1, by omega, by simp, o3, hb3⟩, (show p.length - ((q : Int) + 1).toNat < p.length - ((q : Int)).toNat by omega)⟩
          · have e : q = p.length := by omega
            subst e; have hlt' : ¬ ((p.length : Int) < c) := fun h => hlt (hql.1 h); rw [List.take_length] at own; clear hql hlt HCELL HCUT; obtain ⟨aO, cO, rfl, _, _⟩ := RdV.of_owned own; have hol : (p.map UInt8.toNat).length = p.length := by simp
            have START : Hid (RelU w X s (.slice aO p.length cO) (.int .i64 (at0 : Int)) (.int .i64 128) (.int .i64 0) (.int .i64 72) wr) := by
              refine ⟨s.length - at0, 128, 0, 72, at0, p.map UInt8.toNat, rfl, rfl, rfl, rfl, hat0, Nat.le_refl _, by rw [hol]; omega, by omega, by omega, by omega, (unhide HPL).symm, by rw [hol]; exact own, hbr⟩
            clear own hbr HPL hol; refine (Classical.em (c = 0)).elim (fun h1 => ?br1) (fun h1 => ?br2)
            case' br1 =>
              subst h1; have e0 : at0 = 0 := by rcases hk with ⟨_, _, h3⟩ | ⟨h3, _, _⟩ <;> omega
              subst e0; clear hk hcb; go_wp2_with fail
            case' br2 =>
              have e0 : (at0 : Int) = max c (-1) + 1 := by rcases hk with ⟨h3, _, h4⟩ | ⟨_, _, h3, _⟩ <;> omega
              rw [e0] at START; have hq2 : (c == 0) = false := beq_eq_false_iff_ne.2 h1; obtain ⟨hc1, hc2⟩ := hcb; clear hk e0; go_wp2_with fail
            all_goals
              clear hp200 hat0
              go_loopw [6, 8, 9, 10, 11] (fun o va vn vi vb wr => RelU w X s o va vn vi vb wr) (fun _ va _ _ _ _ => s.length - (intOf va).toNat)
              case atStart => exact unhide START
              case round =>
                clear START; obtain ⟨f, n, i, bias, at1, l, rfl, rfl, rfl, rfl, hat, hfu, hl3, hnm, hi3, hbi, HRD, own, hbr⟩ := hrel; obtain ⟨aO, cO, rfl, hRd, _⟩ := RdV.of_owned own; by_cases hgo : at1 < s.length
                · cases f with
                  | zero => omega
                  | succ f =>
                    have hst := rdB_step f n i bias l (s.drop at1) (by simp; omega); rw [unhide HRD] at hst; obtain ⟨Y, hY⟩ : ∃ Y, Y = (cutN bias (s.drop at1) 36).map (fun p => (i + 1 * p.1, p.2)) := ⟨_, rfl⟩; rw [← hY] at hst; have HST := hide hst; have START4 : Hid (RelV bias Y s wr at1 i (.int .i64 (at1 : Int)) (.int .i64 (i : Int)) (.int .i64 1) (.int .i64 36) wr) := ⟨at1, i, 1, 36, rfl, rfl, rfl, rfl, Nat.le_refl _, Nat.le_refl _, by omega, by omega, .inl rfl, by omega, by omega, by omega, hY.symm, rfl⟩; have OWN := hide own; have HBR := hide hbr; have hbsz := hbr.size; clear hst hY HRD own hbr hRd; go_wp2_with fail
                    go_loopw [8, 10, 13, 14] (fun va vi vw vk wr' => RelV bias Y s wr at1 i va vi vw vk wr') (fun va _ _ _ _ => s.length - (intOf va).toNat)
                    case atStart => exact unhide START4
                    case round =>
                      clear START4; obtain ⟨at2, i2, wt, k, rfl, rfl, rfl, rfl, h1, h0, h2, hw1, hw2, hi2, hk1, hk2, HV, hww⟩ := hrel; have hww' := hww.symm; subst hww'; clear hww; have HFX : Hid (stepB f n i l Y = none → TellsD w s (.returned (.tuple #[.slice none 0 0, .int .i64 2])) wr) := fun h => unhide HFL wr ((unhide HST).trans h) (unhide HBR); by_cases hin : at2 < s.length
                      · have hi := fun w => idx_str w s .i64 at2 hin; have HDG := hide (fun w => rdigit_any (s.getD at2 0) w); have HED := hide (fun w => redge_any k bias w (by omega) (by omega)); have hdr : s.drop at2 = s.getD at2 0 :: s.drop (at2 + 1) := by rw [List.drop_eq_getElem_cons hin]; simp [List.getD, hin]
                        have hV := unhide HV; rw [hdr, cutN] at hV; clear HV hdr; generalize s.getD at2 0 = x at *; have hin' : ¬ (s.length : Int) ≤ (at2 : Int) := by omega
                        cases hd : dv x with
                        | none =>
                          rw [hd] at hV; have hdi : dvi x = -1 := by unfold dvi; rw [hd]
                          rw [hdi] at HDG; have FF := hide (unhide HFX (by rw [← hV]; rfl)); clear hV HFX HED OWN hdi; go_wp2_with fail
                          refine (unhide HDG _).mono ?_; rintro e wz ⟨rfl, hwz⟩; subst hwz; clear HDG; go_wp2; go_ret2; exact unhide FF
                        | some d =>
                          rw [hd] at hV; have hdi : dvi x = (d : Int) := by unfold dvi; rw [hd]
                          rw [hdi] at HDG; have hdl := dv_lt hd; simp only at hV; clear hdi hd; by_cases hwb : 1099511627776 < wt
                          · have hwb' : (1099511627776 : Int) < (wt : Int) := by omega
                            have hib := weight_big hw2 hwb; have FF := hide (unhide HFX (by
                              by_cases hlt : d < thr k bias
                              · rw [if_pos hlt] at hV; rw [← hV]; exact stepB_some (by omega)
                              · rw [if_neg hlt, Option.map_map] at hV; rw [← hV]
                                cases cutN bias (s.drop (at2 + 1)) (k + 36) with
                                | none => rfl
                                | some p => exact stepB_some (by dsimp only; omega)))
                            clear hV HFX HED OWN hib; go_wp2_with fail
                            refine (unhide HDG _).mono ?_; rintro e wz ⟨rfl, hwz⟩; have hwz' := hwz.symm; subst hwz'; clear hwz; go_wp2_with fail
                            refine (unhide HDG _).mono ?_; rintro e wz ⟨rfl, hwz⟩; have hwz' := hwz.symm; subst hwz'; clear HDG hwz; go_wp2; go_ret2; exact unhide FF
                          · have hwb' : ¬ (1099511627776 : Int) < (wt : Int) := by omega
                            have q1 : (1125899906842624 - (i2 : Int)) / (wt : Int) = (((1125899906842624 - i2) / wt : Nat) : Int) := by
                              rw [Int.natCast_ediv, Int.natCast_sub hi2]; rfl
                            have q2 : (1125899906842624 - (i2 : Int)).tdiv (wt : Int) = (((1125899906842624 - i2) / wt : Nat) : Int) := by
                              rw [Int.tdiv_eq_ediv_of_nonneg (by omega)]; exact q1
                            have hwne : ¬ ((wt : Int) = 0) := by omega
                            have hql : (1125899906842624 - i2) / wt ≤ 1125899906842624 := Nat.le_trans (Nat.div_le_self _ _) (by omega); by_cases hdb : (1125899906842624 - i2) / wt < d
                            · have hbg := digit_big hw1 hi2 hdb; have FF := hide (unhide HFX (by
                                by_cases hlt : d < thr k bias
                                · rw [if_pos hlt] at hV; rw [← hV]; exact stepB_some hbg
                                · rw [if_neg hlt, Option.map_map] at hV; rw [← hV]
                                  cases cutN bias (s.drop (at2 + 1)) (k + 36) with
                                  | none => rfl
                                  | some p => exact stepB_some (by dsimp only; rw [Nat.mul_add]; omega)))
                              clear hV HFX HED OWN hbg; generalize (1125899906842624 - i2) / wt = Q at *; have hdb' : (Q : Int) < (d : Int) := by omega
                              go_wp2_with fail
                              refine (unhide HDG _).mono ?_; rintro e wz ⟨rfl, hwz⟩; have hwz' := hwz.symm; subst hwz'; clear hwz; go_wp2_with fail
                              refine (unhide HDG _).mono ?_; rintro e wz ⟨rfl, hwz⟩; have hwz' := hwz.symm; subst hwz'; clear HDG hwz; go_wp2; go_ret2; exact unhide FF
                            · have hft := digit_fits hw1 hi2 hdb; generalize (1125899906842624 - i2) / wt = Q at *; have hdb' : ¬ (Q : Int) < (d : Int) := by omega
                              have ht1 := thr_pos k bias; have ht2 := thr_le k bias; have e1 : (d : Int) * (wt : Int) = ((wt * d : Nat) : Int) := by rw [Nat.mul_comm]; simp
                              have e2 : (wt : Int) * (36 - (thr k bias : Int)) = ((wt * (36 - thr k bias) : Nat) : Int) := by
                                rw [Int.natCast_mul, Int.natCast_sub (by omega)]; rfl
                              by_cases hlt : d < thr k bias
                              · rw [if_pos hlt] at hV; simp only [Option.map_some] at hV; have hX := unhide HST; rw [← hV] at hX; simp only [stepB] at hX; have HXX := hide hX; clear hV hX HST HFX e2; generalize thr k bias = t at *; have hlt' : (d : Int) < (t : Int) := by omega
                                generalize wt * d = m1 at *; go_wp2_with fail
                                refine (unhide HDG _).mono ?_; rintro e wz ⟨rfl, hwz⟩; have hwz' := hwz.symm; subst hwz'; clear hwz; go_wp2_with fail
                                refine (unhide HDG _).mono ?_; rintro e wz ⟨rfl, hwz⟩; have hwz' := hwz.symm; subst hwz'; clear HDG hwz; go_wp2_with fail
                                refine (unhide HED _).mono ?_; rintro e wz ⟨rfl, hwz⟩; have hwz' := hwz.symm; subst hwz'; clear HED hwz; have q1 : ((i2 : Int) + (m1 : Int)) / ((l.length : Int) + 1) = (((i2 + m1) / (l.length + 1) : Nat) : Int) := by simp
                                have q2 : ((i2 : Int) + (m1 : Int)).tdiv ((l.length : Int) + 1) = (((i2 + m1) / (l.length + 1) : Nat) : Int) := by rw [Int.tdiv_eq_ediv_of_nonneg (by omega)]; exact q1
                                have q3 : ((i2 : Int) + (m1 : Int)) % ((l.length : Int) + 1) = (((i2 + m1) % (l.length + 1) : Nat) : Int) := by simp
                                have q4 : ((i2 : Int) + (m1 : Int)).tmod ((l.length : Int) + 1) = (((i2 + m1) % (l.length + 1) : Nat) : Int) := by rw [Int.tmod_eq_emod_of_nonneg (by omega)]; exact q3
                                have l1 : (i2 + m1) / (l.length + 1) ≤ i2 + m1 := Nat.div_le_self _ _; have l2 : (i2 + m1) % (l.length + 1) < l.length + 1 := Nat.mod_lt _ (by omega); have hAD := fun w => radapt_any (i2 + m1 - i) (l.length + 1) (i == 0) w (by omega) (by omega) (by omega); have hab := adp_le (i2 + m1 - i) (l.length + 1) (i == 0); rw [show ((i2 + m1 - i : Nat) : Int) = (i2 : Int) + (m1 : Int) - (i : Int) by omega, show ((l.length + 1 : Nat) : Int) = (l.length : Int) + 1 by omega] at hAD; generalize (i2 + m1) / (l.length + 1) = Q at *; generalize (i2 + m1) % (l.length + 1) = M at *; generalize adp (i2 + m1 - i) (l.length + 1) (i == 0) = nb at *; have hfl : ((i : Int) == 0) = (i == 0) := by
                                  rw [Bool.eq_iff_iff]; simp
                                generalize (i == 0) = fl at *; have HAD := hide hAD; clear hAD; go_wp2_with fail
                                refine (unhide HAD _).mono ?_; rintro e wz ⟨rfl, hwz⟩; have hwz' := hwz.symm; subst hwz'; clear HAD hwz hfl; have HFX : Hid (X = none → TellsD w s (.returned (.tuple #[.slice none 0 0, .int .i64 2])) wr) := fun h => unhide HFL wr h (unhide HBR); by_cases hA : n + Q ≤ 1114111
                                · have hA' : ¬ (1114111 : Int) < (n : Int) + (Q : Int) := by omega
                                  have wc : IntKind.i32.wrap ((n : Int) + (Q : Int)) = (n : Int) + (Q : Int) := by simp [IntKind.wrap, IntKind.bits, IntKind.signed]; omega
                                  have HSH := hide (fun w => shortest_any ((n : Int) + (Q : Int)) w); by_cases hcp : cp (n + Q) = true
                                  · have hok : okc ((n : Int) + (Q : Int)) := ⟨by omega, by rw [show ((n : Int) + (Q : Int)).toNat = n + Q by omega]; exact hcp⟩; have hsh := sh_ok hok; generalize sh ((n : Int) + (Q : Int)) = z at *; have hs1 : ¬ ((z : Int) = 0) := by omega
                                    have hs2 : ((z : Int) == 0) = false := beq_eq_false_iff_ne.2 hs1; by_cases hlen : l.length < 63
                                    · have hX := unhide HXX; rw [if_pos ⟨hcp, hlen⟩] at hX; have HXL := hide hX; have hlen' : ¬ (63 : Int) ≤ (l.length : Int) := by omega
                                      have HREL : Hid (∀ v' w', w'.ownsRow w.heap.size 21 1 v' (l.length + 1) (rl (ins l M (n + Q))) → Below w.heap.size wr w' → RelU w X s v' (.int .i64 ((at2 : Int) + 1)) (.int .i64 ((n : Int) + (Q : Int))) (.int .i64 ((M : Int) + 1)) (.int .i64 (nb : Int)) w') := fun v' w' ho hb =>
                                        ⟨f, n + Q, M + 1, nb, at2 + 1, ins l M (n + Q), by simp, by simp, by simp, rfl, by omega, by omega, by rw [ins_len]; omega, hA, by omega, by omega, (unhide HXL).symm, by rw [ins_len]; exact ho, Below.trans (unhide HBR) hb⟩
                                      clear hX HXL HXX hok hsh HFX; go_wp2_with fail
                                      refine (unhide HSH _).mono ?_; rintro e wz ⟨rfl, hwz⟩; have hwz' := hwz.symm; subst hwz'; clear HSH hwz; have own := unhide OWN; have hRd := RdV.of_owned_at own; have hle := hRd.le; have hmx := hRd.max; simp only [List.length_map] at hle
                                      cases aO with
                                      | none =>
                                        have hc0 : cO = 0 := hRd.nil rfl; subst hc0; have hl0 : l.length = 0 := by omega
                                        have hM0 : M = 0 := by omega
                                        subst hM0; clear q1 q2 q3 q4; obtain ⟨U, hU⟩ : ∃ U : Value, U = .int .i32 ((n : Int) + (Q : Int)) := ⟨_, rfl⟩; have hU1 : U.oneCell' = true := by rw [hU]; rfl
                                        have E1 : Ext wr ((wr.alloc (.cells #[] 21)).drew) := (Ext.alloc wr _).trans (Ext.drew _); have E2 : Ext wr (((wr.alloc (.cells #[] 21)).alloc (.cells #[.int .i32 ((n : Int) + (Q : Int))] 21)).drew) := ((Ext.alloc wr _).trans (Ext.alloc _ _)).trans (Ext.drew _); have E3 : Ext wr (((wr.alloc (.cells #[.int .i32 ((n : Int) + (Q : Int))] 21)).alloc (.cells #[] 21)).drew) := ((Ext.alloc wr _).trans (Ext.alloc _ _)).trans (Ext.drew _); have O1 : ((wr.alloc (.cells #[] 21)).drew).ownsRow wr.heap.size 21 1 (.slice (some ⟨wr.heap.size, 0, none⟩) 0 0) 0 [] := (empty_own wr 21).drew; have O2 : (((wr.alloc (.cells #[] 21)).alloc (.cells #[.int .i32 ((n : Int) + (Q : Int))] 21)).drew).ownsRow wr.heap.size 21 1 (.slice (some ⟨wr.heap.size, 0, none⟩) 0 0) 0 [] := (owns_below (empty_own wr 21) (Ext.alloc _ _)).drew; have hsz1 : ∀ o : Obj, (wr.alloc o).heap.size = wr.heap.size + 1 := fun o => by simp
                                        have O3 : (((wr.alloc (.cells #[.int .i32 ((n : Int) + (Q : Int))] 21)).alloc (.cells #[] 21)).drew).ownsRow wr.heap.size 21 1 (.slice (some ⟨wr.heap.size + 1, 0, none⟩) 0 0) 0 [] := by
                                          have := (owns_mono (empty_own (wr.alloc (.cells #[.int .i32 ((n : Int) + (Q : Int))] 21)) 21) (show wr.heap.size ≤ _ by rw [hsz1]; omega)).drew; rw [hsz1] at this; exact this
                                        have H2 : (((wr.alloc (.cells #[] 21)).alloc (.cells #[.int .i32 ((n : Int) + (Q : Int))] 21)).drew).heap[wr.heap.size + 1]? = some (.cells #[.int .i32 ((n : Int) + (Q : Int))] 21 (0, 0)) := by
                                          show ((wr.heap.push _).push _)[wr.heap.size + 1]? = _; rw [Array.getElem?_push, if_pos (by simp)]
                                        have H3 : (((wr.alloc (.cells #[.int .i32 ((n : Int) + (Q : Int))] 21)).alloc (.cells #[] 21)).drew).heap[wr.heap.size]? = some (.cells #[.int .i32 ((n : Int) + (Q : Int))] 21 (0, 0)) := by
                                          show ((wr.heap.push _).push _)[wr.heap.size]? = _; rw [Array.getElem?_push, if_neg (by simp), Array.getElem?_push, if_pos rfl]
                                        have S2 : (((wr.alloc (.cells #[] 21)).alloc (.cells #[.int .i32 ((n : Int) + (Q : Int))] 21)).drew).heap.size = wr.heap.size + 2 := by show ((wr.heap.push _).push _).size = _; simp
                                        have S3 : (((wr.alloc (.cells #[.int .i32 ((n : Int) + (Q : Int))] 21)).alloc (.cells #[] 21)).drew).heap.size = wr.heap.size + 2 := by show ((wr.heap.push _).push _).size = _; simp
                                        have P2 : Hid (∀ w2, (∀ b, b < (((wr.alloc (.cells #[] 21)).alloc (.cells #[.int .i32 ((n : Int) + (Q : Int))] 21)).drew).heap.size → some b ≠ (Value.slice (some ⟨wr.heap.size, 0, none⟩) 0 0).ownBlock → w2.heap[b]? = (((wr.alloc (.cells #[] 21)).alloc (.cells #[.int .i32 ((n : Int) + (Q : Int))] 21)).drew).heap[b]?) → RdV w2 (some ⟨wr.heap.size + 1, 0, none⟩) 1 [.int .i32 ((n : Int) + (Q : Int))]) := fun w2 k2 => lit_rd (by
                                          rw [k2 (wr.heap.size + 1) (by rw [S2]; omega) (by simp [Value.ownBlock])]; exact H2)
                                        have P3 : Hid (∀ w2, (∀ b, b < (((wr.alloc (.cells #[.int .i32 ((n : Int) + (Q : Int))] 21)).alloc (.cells #[] 21)).drew).heap.size → some b ≠ (Value.slice (some ⟨wr.heap.size + 1, 0, none⟩) 0 0).ownBlock → w2.heap[b]? = (((wr.alloc (.cells #[.int .i32 ((n : Int) + (Q : Int))] 21)).alloc (.cells #[] 21)).drew).heap[b]?) → RdV w2 (some ⟨wr.heap.size, 0, none⟩) 1 [.int .i32 ((n : Int) + (Q : Int))]) := fun w2 k2 => lit_rd (by
                                          rw [k2 wr.heap.size (by rw [S3]; omega) (by simp [Value.ownBlock])]; exact H3)
                                        have HIX : Hid ((([] ++ ([] : List Value)) ++ [.int .i32 ((n : Int) + (Q : Int))]) ++ ([] : List Value) = rl (ins l 0 (n + Q))) := by
                                          rw [List.eq_nil_of_length_eq_zero hl0]; show _ = [R ((n + Q : Nat) : Int)]; rw [show ((n + Q : Nat) : Int) = (n : Int) + (Q : Int) by omega]; rfl
                                        have HR1 : Hid (∀ W, Ext wr W → RdV W none 0 ([] : List Value)) := fun W hE => RdV.nothing W; have HR2 : Hid (∀ W, Ext wr W → RdV W none 0 ([] : List Value)) := fun W hE => RdV.nothing W; have HK : Hid (∀ v4 w4, Ext wr w4 → w4.ownsRow wr.heap.size 21 1 v4 (0 + 0 + 1 + 0) ((([] ++ ([] : List Value)) ++ [.int .i32 ((n : Int) + (Q : Int))]) ++ ([] : List Value)) → RelU w X s v4 (.int .i64 ((at2 : Int) + 1)) (.int .i64 ((n : Int) + (Q : Int))) (.int .i64 (((0 : Nat) : Int) + 1)) (.int .i64 (nb : Int)) w4) := fun v4 w4 hE ho => by
                                          rw [unhide HIX, show 0 + 0 + 1 + 0 = l.length + 1 by omega] at ho; exact unhide HREL v4 w4 (owns_mono ho hbsz) (Below.mono hE hbsz)
                                        have hone1 : ∀ u ∈ ([] : List Value), u.oneCell' = true := fun u hu => by cases hu
                                        have hone2 := hone1; have hone3 : ∀ u ∈ [Value.int .i32 ((n : Int) + (Q : Int))], u.oneCell' = true := by simp [Value.oneCell']
                                        have hln1 : ([] : List Value).length = 0 := rfl; have hln2 := hln1; go_wp2_with fail
                                        go_region_law (first
                                          | (refine step_appR rfl (.tmp 135) (.tmp 138) 45 Tryz.underlying45 rfl wr.heap.size _ _ [] ?_ O1 none 0 0 [] ?_ hln1 (unhide HR1 _ E1) hone1 ?_ E1.size ?_
                                             · simp [Act.eval]
                                             · simp [Act.eval]
                                             · omega
                                             intro v2 w2 o2 b2 k2; have X2 := Ext.then E1 b2 (Nat.le_refl _); have L2 := RdV.nothing w2; clear b2 k2)
                                          | (refine step_appR rfl (.tmp 135) (.tmp 138) 45 Tryz.underlying45 rfl wr.heap.size _ _ [] ?_ O2 none 0 0 [] ?_ hln1 (unhide HR1 _ E2) hone1 ?_ E2.size ?_
                                             · simp [Act.eval]
                                             · simp [Act.eval]
                                             · omega
                                             intro v2 w2 o2 b2 k2; have X2 := Ext.then E2 b2 (Nat.le_refl _); have L2 := unhide P2 w2 k2; clear b2 k2)
                                          | (refine step_appR rfl (.tmp 135) (.tmp 138) 45 Tryz.underlying45 rfl wr.heap.size _ _ [] ?_ O3 none 0 0 [] ?_ hln1 (unhide HR1 _ E3) hone1 ?_ E3.size ?_
                                             · simp [Act.eval]
                                             · simp [Act.eval]
                                             · omega
                                             intro v2 w2 o2 b2 k2; have X2 := Ext.then E3 b2 (Nat.le_refl _); have L2 := unhide P3 w2 k2; clear b2 k2)
                                          | (refine step_appR rfl (.tmp 139) (.tmp 142) 45 Tryz.underlying45 rfl wr.heap.size v2 _ _ ?_ o2 (some ⟨wr.heap.size + 1, 0, none⟩) 1 1 _ ?_ rfl L2 hone3 ?_ X2.size ?_
                                             · simp [Act.eval]
                                             · simp [Act.eval]
                                             · omega
                                             intro v3 w3 o3 b3 k3; have X3 := Ext.then X2 b3 (Nat.le_refl _); clear b3 k3 o2)
                                          | (refine step_appR rfl (.tmp 139) (.tmp 142) 45 Tryz.underlying45 rfl wr.heap.size v2 _ _ ?_ o2 (some ⟨wr.heap.size, 0, none⟩) 1 1 _ ?_ rfl L2 hone3 ?_ X2.size ?_
                                             · simp [Act.eval]
                                             · simp [Act.eval]
                                             · omega
                                             intro v3 w3 o3 b3 k3; have X3 := Ext.then X2 b3 (Nat.le_refl _); clear b3 k3 o2)
                                          | (refine step_appR rfl (.tmp 139) (.tmp 142) 45 Tryz.underlying45 rfl wr.heap.size v2 _ _ ?_ (owns_below o2 (Ext.alloc _ _)) (some ⟨w2.heap.size, 0, none⟩) 1 1 [.int .i32 ((n : Int) + (Q : Int))] ?_ rfl (RdV.lit w2 [.int .i32 ((n : Int) + (Q : Int))] 21 (0, 0) (show 1 ≤ 9223372036854775807 by omega)) hone3 ?_ (X2.trans (Ext.alloc _ _)).size ?_
                                             · simp [Act.eval]
                                             · simp [Act.eval]
                                             · omega
                                             intro v3 w3 o3 b3 k3; have X3 := Ext.then (X2.trans (Ext.alloc _ _)) b3 (Nat.le_refl _); clear b3 k3 o2)
                                          | (refine step_appR rfl (.tmp 143) (.tmp 146) 45 Tryz.underlying45 rfl wr.heap.size v3 _ _ ?_ o3 none 0 0 [] ?_ hln2 (unhide HR2 _ X3) hone2 ?_ X3.size ?_
                                             · simp [Act.eval]
                                             · simp [Act.eval]
                                             · omega
                                             intro v4 w4 o4 b4 k4; have kk := unhide HK v4 w4 (Ext.then X3 b4 (Nat.le_refl _)) o4; clear b4 k4 o4))
                                        all_goals
                                          go_wp2; exact ⟨kk, (show s.length - ((at2 : Int) + 1).toNat < s.length - ((at1 : Int)).toNat by omega)⟩
                                      | some ad =>
                                        have hsome : ∃ g, ad = ⟨g, 0, none⟩ := by
                                          rcases own.2 with ⟨e1, _⟩ | ⟨g, c, cur, e1, _⟩
                                          · simp at e1
                                          · simp only [Value.slice.injEq, Option.some.injEq] at e1; exact ⟨g, e1.1⟩
                                        obtain ⟨g, rfl⟩ := hsome; clear q1 q2 q3 q4; have hMl : M ≤ l.length := by omega
                                        have hMc : M ≤ cO := by omega
                                        obtain ⟨U, hU⟩ : ∃ U : Value, U = .int .i32 ((n : Int) + (Q : Int)) := ⟨_, rfl⟩; have hU1 : U.oneCell' = true := by rw [hU]; rfl
                                        have E1 : Ext wr ((wr.alloc (.cells #[] 21)).drew) := (Ext.alloc wr _).trans (Ext.drew _); have E2 : Ext wr (((wr.alloc (.cells #[] 21)).alloc (.cells #[.int .i32 ((n : Int) + (Q : Int))] 21)).drew) := ((Ext.alloc wr _).trans (Ext.alloc _ _)).trans (Ext.drew _); have E3 : Ext wr (((wr.alloc (.cells #[.int .i32 ((n : Int) + (Q : Int))] 21)).alloc (.cells #[] 21)).drew) := ((Ext.alloc wr _).trans (Ext.alloc _ _)).trans (Ext.drew _); have O1 : ((wr.alloc (.cells #[] 21)).drew).ownsRow wr.heap.size 21 1 (.slice (some ⟨wr.heap.size, 0, none⟩) 0 0) 0 [] := (empty_own wr 21).drew; have O2 : (((wr.alloc (.cells #[] 21)).alloc (.cells #[.int .i32 ((n : Int) + (Q : Int))] 21)).drew).ownsRow wr.heap.size 21 1 (.slice (some ⟨wr.heap.size, 0, none⟩) 0 0) 0 [] := (owns_below (empty_own wr 21) (Ext.alloc _ _)).drew; have hsz1 : ∀ o : Obj, (wr.alloc o).heap.size = wr.heap.size + 1 := fun o => by simp
                                        have O3 : (((wr.alloc (.cells #[.int .i32 ((n : Int) + (Q : Int))] 21)).alloc (.cells #[] 21)).drew).ownsRow wr.heap.size 21 1 (.slice (some ⟨wr.heap.size + 1, 0, none⟩) 0 0) 0 [] := by
                                          have := (owns_mono (empty_own (wr.alloc (.cells #[.int .i32 ((n : Int) + (Q : Int))] 21)) 21) (show wr.heap.size ≤ _ by rw [hsz1]; omega)).drew; rw [hsz1] at this; exact this
                                        have H2 : (((wr.alloc (.cells #[] 21)).alloc (.cells #[.int .i32 ((n : Int) + (Q : Int))] 21)).drew).heap[wr.heap.size + 1]? = some (.cells #[.int .i32 ((n : Int) + (Q : Int))] 21 (0, 0)) := by
                                          show ((wr.heap.push _).push _)[wr.heap.size + 1]? = _; rw [Array.getElem?_push, if_pos (by simp)]
                                        have H3 : (((wr.alloc (.cells #[.int .i32 ((n : Int) + (Q : Int))] 21)).alloc (.cells #[] 21)).drew).heap[wr.heap.size]? = some (.cells #[.int .i32 ((n : Int) + (Q : Int))] 21 (0, 0)) := by
                                          show ((wr.heap.push _).push _)[wr.heap.size]? = _; rw [Array.getElem?_push, if_neg (by simp), Array.getElem?_push, if_pos rfl]
                                        have S2 : (((wr.alloc (.cells #[] 21)).alloc (.cells #[.int .i32 ((n : Int) + (Q : Int))] 21)).drew).heap.size = wr.heap.size + 2 := by show ((wr.heap.push _).push _).size = _; simp
                                        have S3 : (((wr.alloc (.cells #[.int .i32 ((n : Int) + (Q : Int))] 21)).alloc (.cells #[] 21)).drew).heap.size = wr.heap.size + 2 := by show ((wr.heap.push _).push _).size = _; simp
                                        have P2 : Hid (∀ w2, (∀ b, b < (((wr.alloc (.cells #[] 21)).alloc (.cells #[.int .i32 ((n : Int) + (Q : Int))] 21)).drew).heap.size → some b ≠ (Value.slice (some ⟨wr.heap.size, 0, none⟩) 0 0).ownBlock → w2.heap[b]? = (((wr.alloc (.cells #[] 21)).alloc (.cells #[.int .i32 ((n : Int) + (Q : Int))] 21)).drew).heap[b]?) → RdV w2 (some ⟨wr.heap.size + 1, 0, none⟩) 1 [.int .i32 ((n : Int) + (Q : Int))]) := fun w2 k2 => lit_rd (by
                                          rw [k2 (wr.heap.size + 1) (by rw [S2]; omega) (by simp [Value.ownBlock])]; exact H2)
                                        have P3 : Hid (∀ w2, (∀ b, b < (((wr.alloc (.cells #[.int .i32 ((n : Int) + (Q : Int))] 21)).alloc (.cells #[] 21)).drew).heap.size → some b ≠ (Value.slice (some ⟨wr.heap.size + 1, 0, none⟩) 0 0).ownBlock → w2.heap[b]? = (((wr.alloc (.cells #[.int .i32 ((n : Int) + (Q : Int))] 21)).alloc (.cells #[] 21)).drew).heap[b]?) → RdV w2 (some ⟨wr.heap.size, 0, none⟩) 1 [.int .i32 ((n : Int) + (Q : Int))]) := fun w2 k2 => lit_rd (by
                                          rw [k2 wr.heap.size (by rw [S3]; omega) (by simp [Value.ownBlock])]; exact H3)
                                        have HIX : Hid ((([] ++ (rl l).take M) ++ [.int .i32 ((n : Int) + (Q : Int))]) ++ (rl l).drop M = rl (ins l M (n + Q))) := by
                                          rw [← rl_ins, List.nil_append, List.append_assoc]; show _ = (rl l).take M ++ R ((n + Q : Nat) : Int) :: (rl l).drop M; rw [show ((n + Q : Nat) : Int) = (n : Int) + (Q : Int) by omega]; rfl
                                        have HR1 : Hid (∀ W, Ext wr W → RdV W (some ⟨g, 0, none⟩) cO ((rl l).take M)) := fun W hE => (hRd.take M).below hE; have HK : Hid (∀ v4 w4, Ext wr w4 → w4.ownsRow wr.heap.size 21 1 v4 (0 + M + 1 + (l.length - M)) ((([] ++ (rl l).take M) ++ [.int .i32 ((n : Int) + (Q : Int))]) ++ (rl l).drop M) → RelU w X s v4 (.int .i64 ((at2 : Int) + 1)) (.int .i64 ((n : Int) + (Q : Int))) (.int .i64 ((M : Int) + 1)) (.int .i64 (nb : Int)) w4) := fun v4 w4 hE ho => by
                                          rw [unhide HIX, show 0 + M + 1 + (l.length - M) = l.length + 1 by omega] at ho; exact unhide HREL v4 w4 (owns_mono ho hbsz) (Below.mono hE hbsz)
                                        have hone1 : ∀ u ∈ (rl l).take M, u.oneCell' = true := fun u hu => one_rl l u (List.mem_of_mem_take hu); have hone2 : ∀ u ∈ (rl l).drop M, u.oneCell' = true := fun u hu => one_rl l u (List.mem_of_mem_drop hu); have hone3 : ∀ u ∈ [Value.int .i32 ((n : Int) + (Q : Int))], u.oneCell' = true := by simp [Value.oneCell']
                                        have hln1 : ((rl l).take M).length = M := by simp [rl]; omega
                                        have hln2 : ((rl l).drop M).length = l.length - M := by simp [rl]
                                        by_cases hcM : cO = M
                                        · subst hcM; have HR2 : Hid (∀ W, Ext wr W → RdV W (some ⟨g, 0, none⟩) 0 ((rl l).drop cO)) := fun W hE => by
                                            have := (hRd.drop cO hMc).below hE; rw [if_pos rfl, Nat.sub_self] at this; exact this
                                          go_wp2_with fail
                                          go_region_law (first
                                            | (refine step_appR rfl (.tmp 135) (.tmp 138) 45 Tryz.underlying45 rfl wr.heap.size _ _ [] ?_ O1 (some ⟨g, 0, none⟩) cO cO ((rl l).take cO) ?_ hln1 (unhide HR1 _ E1) hone1 ?_ E1.size ?_
                                               · simp [Act.eval]
                                               · simp [Act.eval]
                                               · omega
                                               intro v2 w2 o2 b2 k2; have X2 := Ext.then E1 b2 (Nat.le_refl _); have L2 := RdV.nothing w2; clear b2 k2)
                                            | (refine step_appR rfl (.tmp 135) (.tmp 138) 45 Tryz.underlying45 rfl wr.heap.size _ _ [] ?_ O2 (some ⟨g, 0, none⟩) cO cO ((rl l).take cO) ?_ hln1 (unhide HR1 _ E2) hone1 ?_ E2.size ?_
                                               · simp [Act.eval]
                                               · simp [Act.eval]
                                               · omega
                                               intro v2 w2 o2 b2 k2; have X2 := Ext.then E2 b2 (Nat.le_refl _); have L2 := unhide P2 w2 k2; clear b2 k2)
                                            | (refine step_appR rfl (.tmp 135) (.tmp 138) 45 Tryz.underlying45 rfl wr.heap.size _ _ [] ?_ O3 (some ⟨g, 0, none⟩) cO cO ((rl l).take cO) ?_ hln1 (unhide HR1 _ E3) hone1 ?_ E3.size ?_
                                               · simp [Act.eval]
                                               · simp [Act.eval]
                                               · omega
                                               intro v2 w2 o2 b2 k2; have X2 := Ext.then E3 b2 (Nat.le_refl _); have L2 := unhide P3 w2 k2; clear b2 k2)
                                            | (refine step_appR rfl (.tmp 139) (.tmp 142) 45 Tryz.underlying45 rfl wr.heap.size v2 _ _ ?_ o2 (some ⟨wr.heap.size + 1, 0, none⟩) 1 1 _ ?_ rfl L2 hone3 ?_ X2.size ?_
                                               · simp [Act.eval]
                                               · simp [Act.eval]
                                               · omega
                                               intro v3 w3 o3 b3 k3; have X3 := Ext.then X2 b3 (Nat.le_refl _); clear b3 k3 o2)
                                            | (refine step_appR rfl (.tmp 139) (.tmp 142) 45 Tryz.underlying45 rfl wr.heap.size v2 _ _ ?_ o2 (some ⟨wr.heap.size, 0, none⟩) 1 1 _ ?_ rfl L2 hone3 ?_ X2.size ?_
                                               · simp [Act.eval]
                                               · simp [Act.eval]
                                               · omega
                                               intro v3 w3 o3 b3 k3; have X3 := Ext.then X2 b3 (Nat.le_refl _); clear b3 k3 o2)
                                            | (refine step_appR rfl (.tmp 139) (.tmp 142) 45 Tryz.underlying45 rfl wr.heap.size v2 _ _ ?_ (owns_below o2 (Ext.alloc _ _)) (some ⟨w2.heap.size, 0, none⟩) 1 1 [.int .i32 ((n : Int) + (Q : Int))] ?_ rfl (RdV.lit w2 [.int .i32 ((n : Int) + (Q : Int))] 21 (0, 0) (show 1 ≤ 9223372036854775807 by omega)) hone3 ?_ (X2.trans (Ext.alloc _ _)).size ?_
                                               · simp [Act.eval]
                                               · simp [Act.eval]
                                               · omega
                                               intro v3 w3 o3 b3 k3; have X3 := Ext.then (X2.trans (Ext.alloc _ _)) b3 (Nat.le_refl _); clear b3 k3 o2)
                                            | (refine step_appR rfl (.tmp 143) (.tmp 146) 45 Tryz.underlying45 rfl wr.heap.size v3 _ _ ?_ o3 (some ⟨g, 0, none⟩) (l.length - cO) 0 ((rl l).drop cO) ?_ hln2 (unhide HR2 _ X3) hone2 ?_ X3.size ?_
                                               · simp [Act.eval]
                                               · first | (simp [Act.eval]; done) | (simp [Act.eval]; omega)
                                               · omega
                                               intro v4 w4 o4 b4 k4; have kk := unhide HK v4 w4 (Ext.then X3 b4 (Nat.le_refl _)) o4; clear b4 k4 o4))
                                          all_goals
                                            go_wp2; exact ⟨kk, (show s.length - ((at2 : Int) + 1).toNat < s.length - ((at1 : Int)).toNat by omega)⟩
                                        · have HR2 : Hid (∀ W, Ext wr W → RdV W (some ⟨g, M, none⟩) (cO - M) ((rl l).drop M)) := fun W hE => by
                                            have := (hRd.drop M hMc).below hE; rw [if_neg hcM] at this; rw [Option.map_some, Addr.add_lit, Nat.zero_add] at this; exact this
                                          go_wp2_with fail
                                          go_region_law (first
                                            | (refine step_appR rfl (.tmp 135) (.tmp 138) 45 Tryz.underlying45 rfl wr.heap.size _ _ [] ?_ O1 (some ⟨g, 0, none⟩) M cO ((rl l).take M) ?_ hln1 (unhide HR1 _ E1) hone1 ?_ E1.size ?_
                                               · simp [Act.eval]
                                               · simp [Act.eval]
                                               · omega
                                               intro v2 w2 o2 b2 k2; have X2 := Ext.then E1 b2 (Nat.le_refl _); have L2 := RdV.nothing w2; clear b2 k2)
                                            | (refine step_appR rfl (.tmp 135) (.tmp 138) 45 Tryz.underlying45 rfl wr.heap.size _ _ [] ?_ O2 (some ⟨g, 0, none⟩) M cO ((rl l).take M) ?_ hln1 (unhide HR1 _ E2) hone1 ?_ E2.size ?_
                                               · simp [Act.eval]
                                               · simp [Act.eval]
                                               · omega
                                               intro v2 w2 o2 b2 k2; have X2 := Ext.then E2 b2 (Nat.le_refl _); have L2 := unhide P2 w2 k2; clear b2 k2)
                                            | (refine step_appR rfl (.tmp 135) (.tmp 138) 45 Tryz.underlying45 rfl wr.heap.size _ _ [] ?_ O3 (some ⟨g, 0, none⟩) M cO ((rl l).take M) ?_ hln1 (unhide HR1 _ E3) hone1 ?_ E3.size ?_
                                               · simp [Act.eval]
                                               · simp [Act.eval]
                                               · omega
                                               intro v2 w2 o2 b2 k2; have X2 := Ext.then E3 b2 (Nat.le_refl _); have L2 := unhide P3 w2 k2; clear b2 k2)
                                            | (refine step_appR rfl (.tmp 139) (.tmp 142) 45 Tryz.underlying45 rfl wr.heap.size v2 _ _ ?_ o2 (some ⟨wr.heap.size + 1, 0, none⟩) 1 1 _ ?_ rfl L2 hone3 ?_ X2.size ?_
                                               · simp [Act.eval]
                                               · simp [Act.eval]
                                               · omega
                                               intro v3 w3 o3 b3 k3; have X3 := Ext.then X2 b3 (Nat.le_refl _); clear b3 k3 o2)
                                            | (refine step_appR rfl (.tmp 139) (.tmp 142) 45 Tryz.underlying45 rfl wr.heap.size v2 _ _ ?_ o2 (some ⟨wr.heap.size, 0, none⟩) 1 1 _ ?_ rfl L2 hone3 ?_ X2.size ?_
                                               · simp [Act.eval]
                                               · simp [Act.eval]
                                               · omega
                                               intro v3 w3 o3 b3 k3; have X3 := Ext.then X2 b3 (Nat.le_refl _); clear b3 k3 o2)
                                            | (refine step_appR rfl (.tmp 139) (.tmp 142) 45 Tryz.underlying45 rfl wr.heap.size v2 _ _ ?_ (owns_below o2 (Ext.alloc _ _)) (some ⟨w2.heap.size, 0, none⟩) 1 1 [.int .i32 ((n : Int) + (Q : Int))] ?_ rfl (RdV.lit w2 [.int .i32 ((n : Int) + (Q : Int))] 21 (0, 0) (show 1 ≤ 9223372036854775807 by omega)) hone3 ?_ (X2.trans (Ext.alloc _ _)).size ?_
                                               · simp [Act.eval]
                                               · simp [Act.eval]
                                               · omega
                                               intro v3 w3 o3 b3 k3; have X3 := Ext.then (X2.trans (Ext.alloc _ _)) b3 (Nat.le_refl _); clear b3 k3 o2)
                                            | (refine step_appR rfl (.tmp 143) (.tmp 146) 45 Tryz.underlying45 rfl wr.heap.size v3 _ _ ?_ o3 (some ⟨g, M, none⟩) (l.length - M) (cO - M) ((rl l).drop M) ?_ hln2 (unhide HR2 _ X3) hone2 ?_ X3.size ?_
                                               · simp [Act.eval]
                                               · simp [Act.eval]
                                               · omega
                                               intro v4 w4 o4 b4 k4; have kk := unhide HK v4 w4 (Ext.then X3 b4 (Nat.le_refl _)) o4; clear b4 k4 o4))
                                          all_goals
                                            go_wp2; exact ⟨kk, (show s.length - ((at2 : Int) + 1).toNat < s.length - ((at1 : Int)).toNat by omega)⟩
                                    · have FF := hide (unhide HFX ((unhide HXX).trans (if_neg (fun h => hlen h.2)))); have hlen' : (63 : Int) ≤ (l.length : Int) := by omega
                                      clear HXX hok hsh HFX OWN; go_wp2_with fail
                                      refine (unhide HSH _).mono ?_; rintro e wz ⟨rfl, hwz⟩; have hwz' := hwz.symm; subst hwz'; clear HSH hwz; go_wp2; go_ret2; exact unhide FF
                                  · have hno : ¬ okc ((n : Int) + (Q : Int)) := fun h => hcp (by have := h.2; rwa [show ((n : Int) + (Q : Int)).toNat = n + Q by omega] at this); have hsh := sh_no hno; rw [hsh] at HSH; have FF := hide (unhide HFX ((unhide HXX).trans (if_neg (fun h => hcp h.1)))); clear HXX hno hsh HFX OWN hcp; go_wp2_with fail
                                    refine (unhide HSH _).mono ?_; rintro e wz ⟨rfl, hwz⟩; have hwz' := hwz.symm; subst hwz'; clear HSH hwz; go_wp2; go_ret2; exact unhide FF
                                · have hA' : (1114111 : Int) < (n : Int) + (Q : Int) := by omega
                                  have FF := hide (unhide HFX ((unhide HXX).trans (if_neg (fun h => hA (cp_le h.1))))); clear HXX HFX OWN; go_wp2; go_ret2; exact unhide FF
                              · rw [if_neg hlt, Option.map_map] at hV; have hnx := weight_next (i := i2) (w := wt) (d := d) (t := thr k bias) (by omega) ht1; have hmul : wt * (36 - thr k bias) ≤ 1099511627776 * 35 := Nat.mul_le_mul (by omega) (by omega); have hpos : 1 ≤ wt * (36 - thr k bias) := Nat.le_trans (by omega) (Nat.mul_le_mul hw1 (show 1 ≤ 36 - thr k bias by omega)); have HV2 : Hid ((cutN bias (s.drop (at2 + 1)) (k + 36)).map (fun p => (i2 + wt * d + wt * (36 - thr k bias) * p.1, p.2)) = Y) := by
                                  rw [← hV]; show _ = _; congr 1; funext p; simp only [Function.comp]; rw [Nat.mul_add, ← Nat.mul_assoc, Nat.add_assoc]
                                have REL : Hid (RelV bias Y s wr at1 i (.int .i64 ((at2 : Int) + 1)) (.int .i64 ((i2 : Int) + ((wt * d : Nat) : Int))) (.int .i64 ((wt * (36 - thr k bias) : Nat) : Int)) (.int .i64 ((k : Int) + 36)) wr) :=
                                  ⟨at2 + 1, i2 + wt * d, wt * (36 - thr k bias), k + 36, by simp, by simp, rfl, by simp, by omega, by omega, by omega, hpos, .inr hnx, hft, by omega, by omega, HV2, rfl⟩
                                clear hV HV2 hnx HFX hpos; generalize thr k bias = t at *; have hlt' : ¬ (d : Int) < (t : Int) := by omega
                                generalize wt * d = m1 at *; generalize wt * (36 - t) = m2 at *; go_wp2_with fail
                                refine (unhide HDG _).mono ?_; rintro e wz ⟨rfl, hwz⟩; have hwz' := hwz.symm; subst hwz'; clear hwz; go_wp2_with fail
                                refine (unhide HDG _).mono ?_; rintro e wz ⟨rfl, hwz⟩; have hwz' := hwz.symm; subst hwz'; clear HDG hwz; go_wp2_with fail
                                refine (unhide HED _).mono ?_; rintro e wz ⟨rfl, hwz⟩; have hwz' := hwz.symm; subst hwz'; clear HED hwz; go_wp2; exact ⟨unhide REL, (show s.length - ((at2 : Int) + 1).toNat < s.length - ((at2 : Int)).toNat by omega)⟩
                      · have hin' : (s.length : Int) ≤ (at2 : Int) := by omega
                        have hV := unhide HV; rw [List.drop_eq_nil_of_le (by omega), cutN] at hV; have FF := hide (unhide HFX (by rw [← hV]; rfl)); clear hV HV HFX OWN; go_wp2; go_ret2; exact unhide FF
                · have ht : s.drop at1 = [] := List.drop_eq_nil_of_le (by omega); have hXl : X = lim (some l) := by
                    rw [← unhide HRD, ht]
                    cases f <;> rfl
                  unfold lim at hXl; simp only [Option.bind_some] at hXl; by_cases h63 : l.length ≤ 63
                  · rw [if_pos h63] at hXl; have h63' : ¬ (63 : Int) < (l.length : Int) := by omega
                    have fin : TellsD w s (.returned (.tuple #[.slice aO l.length cO, .int .i64 0])) wr := by
                      have e1 : dL s = ints l := by unfold dL; rw [← unhide HX, hXl]; rfl
                      have e2 : dE s = 0 := by unfold dE; rw [← unhide HX, hXl]; rfl
                      refine ⟨aO, cO, by rw [e1, e2]; simp [ints], ?_, hbr⟩; rw [e1]; have : (ints l).map R = rl l := by unfold ints rl; rw [List.map_map]; rfl
                      rw [this]; exact hRd
                    have FIN := hide fin; clear fin hXl HRD own hRd ht; go_wp2; go_ret2; exact unhide FIN
                  · rw [if_neg h63] at hXl; have h63' : (63 : Int) < (l.length : Int) := by omega
                    have FF := hide (unhide HFL wr hXl hbr); clear hXl HRD own hRd ht hbr; go_wp2; go_ret2; exact unhide FF
  · have h200' : (200 : Int) < (s.length : Int) := by omega
    have hpd : pdec s = none := by unfold pdec; rw [if_neg (fun h => h200 h.1)]
    have FF := hide (unhide HFL w hpd (Ext.refl w)); clear hpd; go_wp2; go_ret2; exact unhide FF
end Go.Proofs.YtenlampiiodkhaaGreatDoor
