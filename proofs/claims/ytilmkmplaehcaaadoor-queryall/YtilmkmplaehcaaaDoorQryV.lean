/-
  Parse of package query.
-/
import Derived.Test.YtilmkmplaehcaaaDoorQryT
import Derived.Test.YtilmkmplaehcaaaDoorQryD
namespace Go.Proofs.YtilmkmplaehcaaaDoor
set_option linter.unusedVariables false
open Go.RowKit

theorem cut1_one_nil (c : UInt8) : ∀ t : List UInt8, pcs c t = [(cut1 c t).1] → (cut1 c t).2 = []
  | [], _ => rfl
  | x :: r, h => by
    by_cases hx : x = c
    · rw [pcs, if_pos hx] at h
      exact absurd (List.tail_eq_of_cons_eq h) (pcs_ne c r)
    · have ih := cut1_one_nil c r
      rw [pcs, if_neg hx, cut1, if_neg hx] at h
      rw [cut1, if_neg hx]
      refine ih ?_
      cases hp : pcs c r with
      | nil => exact absurd hp (pcs_ne c r)
      | cons y l =>
        rw [hp] at h
        simp only [List.cons.injEq, true_and] at h
        rw [h.1, h.2]
theorem prs_nil : prs [] = [] := rfl
theorem prs_cut (t x r : List UInt8) (more : Bool) (hr : more = false → r = []) (h : (more = false ∧ pcs 38 t = [x]) ∨ (more = true ∧ pcs 38 t = x :: pcs 38 r ∧ r.length < t.length)) :
    prs t = (if x = [] then [] else [pairOf x]) ++ prs r := by
  rcases h with ⟨hm, hp⟩ | ⟨_, hp, _⟩
  · rw [hr hm, prs_nil]
    unfold prs
    rw [hp]
    cases x <;> simp
  · unfold prs
    rw [hp]
    cases x <;> simp

set_option maxHeartbeats 1000000 in
theorem parse_any (s : List UInt8) (w : World) (hs : s.length ≤ 100000) (hM : MaxL w) :
    Calls Tryd.prog 10 #[S s] w fun e w' => ∃ ao c, e = .returned (.slice ao (parQ s).length c) ∧ RdP w' ao c (parQ s) ∧ Ext w w' := by
  have HM := hide hM
  obtain ⟨RR, hRR⟩ : ∃ RR, RR = parQ s := ⟨_, rfl⟩
  have hR2 : RR = (prs s).take 40 := hRR
  have ST : Hid (∃ (t : List UInt8) (qs : List Pr) (ao : Option Addr) (c : Nat), S s = S t ∧ Value.slice none 0 0 = .slice ao qs.length c ∧ w.ownsRow w.heap.size 25 2 (.slice ao qs.length c) qs.length (cellsP qs) ∧ Below w.heap.size w w ∧ t.length ≤ 100000 ∧ qs.length ≤ 40 ∧ RR = (qs ++ prs t).take 40) :=
    ⟨s, [], none, 0, rfl, rfl, World.ownsRow_nil w _ _ 2, Below.refl _ _, hs, by simp, hR2⟩
  have HRR := hide hRR
  clear hM hRR hR2
  go_enter Tryd.func10, Tryd.ntmps10
  go_wp2_with fail
  go_loopw [0, 3] (fun v o wr => ∃ (t : List UInt8) (qs : List Pr) (ao : Option Addr) (c : Nat), v = S t ∧ o = .slice ao qs.length c ∧ wr.ownsRow w.heap.size 25 2 (.slice ao qs.length c) qs.length (cellsP qs) ∧ Below w.heap.size w wr ∧ t.length ≤ 100000 ∧ qs.length ≤ 40 ∧ RR = (qs ++ prs t).take 40) (fun v _ _ => strLen v)
  case atStart => exact unhide ST
  case round =>
    clear ST
    obtain ⟨t, qs, ao, c, rfl, rfl, own, hbr, htl, hq40, hR⟩ := hrel
    have FIN : Hid (RR = qs → ∃ ao' c', Ending.returned (.slice ao qs.length c) = .returned (.slice ao' (parQ s).length c') ∧ RdP wr ao' c' (parQ s) ∧ Ext w wr) := fun e => by
      rw [← unhide HRR, e]
      exact ⟨ao, c, rfl, RdP.of_owned own, hbr⟩
    by_cases ht : t = []
    · subst ht
      have e : RR = qs := by
        rw [hR, prs_nil, List.append_nil, List.take_of_length_le hq40]
      have FF := hide (unhide FIN e)
      clear FIN own hbr HM hR e
      go_wp2
      go_ret
      exact unhide FF
    · have hte : t.isEmpty = false := by simpa using ht
      have hte2 : (t == []) = false := by simpa using ht
      have ht0 : 0 < t.length := List.length_pos_iff.2 ht
      by_cases hn : qs.length < 40
      · have hn' : (qs.length : Int) < 40 := by omega
        have hMr := MaxL.below (unhide HM) hbr
        have HU := hide (cutq_any 38 t wr (by omega) hMr)
        have HR := hide hR
        clear FIN hMr hR ht
        go_wp2_with fail
        refine (unhide HU).mono ?_
        rintro e w3 ⟨more, rfl, ⟨n, rfl⟩, hcase⟩
        clear HU
        have hr0 : more = false → (cut1 38 t).2 = [] := by
          rintro rfl
          rcases hcase with ⟨_, hp⟩ | ⟨h, _⟩
          · exact cut1_one_nil 38 t hp
          · cases h
        have hpr := prs_cut t _ _ more hr0 hcase
        have hl := cut1_len 38 t
        have own3 := ownsP_below own (Ext.drewN wr n)
        have b3 : Below w.heap.size w (wr.drewN n) := hbr.trans (Below.mono (Ext.drewN wr n) hbr.size)
        have HME : Hid (strLen (S (cut1 38 t).2) < strLen (S t)) := by
          show (⟨(cut1 38 t).2.toArray⟩ : ByteArray).size < (⟨t.toArray⟩ : ByteArray).size
          rw [size_S, size_S]
          rcases hcase with ⟨hm, _⟩ | ⟨_, _, h2⟩
          · rw [hr0 hm]
            exact ht0
          · exact h2
        have KEY : Hid (∀ (qs' : List Pr) (v' : Value) (w' : World), qs' = qs ++ (if (cut1 38 t).1 = [] then [] else [pairOf (cut1 38 t).1]) → w'.ownsRow w.heap.size 25 2 v' qs'.length (cellsP qs') → Below w.heap.size w w' →
            (∃ (t' : List UInt8) (qs1 : List Pr) (ao' : Option Addr) (c' : Nat), S (cut1 38 t).2 = S t' ∧ v' = .slice ao' qs1.length c' ∧ w'.ownsRow w.heap.size 25 2 (.slice ao' qs1.length c') qs1.length (cellsP qs1) ∧ Below w.heap.size w w' ∧ t'.length ≤ 100000 ∧ qs1.length ≤ 40 ∧ RR = (qs1 ++ prs t').take 40) ∧ strLen (S (cut1 38 t).2) < strLen (S t)) := by
          intro qs' v' w' e' o' b'
          obtain ⟨ao', c', rfl, _⟩ := ownedP_some o'
          have h40 : qs'.length ≤ 40 := by
            rw [e', List.length_append]
            split <;> simp <;> omega
          have e := unhide HR
          rw [hpr, ← List.append_assoc, ← e'] at e
          exact ⟨⟨_, qs', ao', c', rfl, rfl, o', b', by omega, h40, e⟩, unhide HME⟩
        clear own hbr hcase hpr HR HME hr0 hte hte2 ht0
        have hz := size_S (cut1 38 t).1
        have hl1 := hl.1
        clear hl
        generalize (cut1 38 t).1 = x at *
        generalize (cut1 38 t).2 = r at *
        by_cases hx : x = []
        · subst hx
          have kk := hide (unhide KEY qs _ (wr.drewN n) (by simp) own3 b3)
          clear KEY own3 b3 hz
          go_wp2
          exact unhide kk
        · have hxe : (x == []) = false := by simpa using hx
          have hxe2 : x.isEmpty = false := by simpa using hx
          rw [if_neg hx] at KEY
          have HP := hide (pair_any x (wr.drewN n) (by omega) ((unhide HM).below b3))
          generalize wr.drewN n = w4 at *
          generalize pairOf x = pp at *
          clear hx
          go_wp2_with fail
          refine (unhide HP).mono ?_
          rintro e w6 ⟨rfl, hx6⟩
          clear HP
          have R7 := RdP.lit w6 pp (0, 0)
          have own7 := ownsP_below (ownsP_below own3 hx6) (Ext.alloc w6 (.cells #[S pp.1, S pp.2] 25))
          have b7 : Below w.heap.size w (w6.alloc (.cells #[S pp.1, S pp.2] 25)) := (b3.trans (Below.mono hx6 b3.size)).trans (Below.mono (Ext.alloc w6 _) (Nat.le_trans b3.size hx6.size))
          have bs7 := b7.size
          clear own3 b3 hx6
          go_wp2_with (at_builtin; refine wpList_appP rfl (.tmp 20) (.tmp 23) rfl w.heap.size _ qs rfl own7 _ _ [pp] rfl R7 (by show (qs.length + 1) * 33 ≤ _; omega) bs7 ?_)
          intro v9 w9 o9 b9
          have kk := hide (unhide KEY (qs ++ [pp]) v9 w9 rfl (by rw [List.length_append]; exact o9) (b7.trans b9))
          clear o9 b9 KEY own7 R7 b7 bs7
          go_wp2
          exact unhide kk
      · have hn' : ¬ (qs.length : Int) < 40 := by omega
        have e : RR = qs := by
          rw [hR, List.take_append_of_le_length (by omega), List.take_of_length_le (by omega)]
        have FF := hide (unhide FIN e)
        clear FIN own hbr HM hR e
        go_wp2
        go_ret
        exact unhide FF
end Go.Proofs.YtilmkmplaehcaaaDoor
