/-
  Which pairs a question has, and how pairs are shown; questions side by side; no more than so many.
-/
import Derived.Test.YtilmkmplaehcaaaDoorQryF
namespace Go.Proofs.YtilmkmplaehcaaaDoor
set_option linter.unusedVariables false
open Go.RowKit

set_option maxHeartbeats 2000000 in
theorem all11_walk (hp : ParseOk) (hs : ShowOk) (s : List UInt8) (ao : Option Addr) (cap : Nat) (l : List Pr) (w : World) (tb : MaxL w) (h : RdP w ao cap l) :
    Calls Tryd.prog 3 #[S s, .slice ao l.length cap] w fun e w' => e = .returned (.bool true) ∧ Ext w w' := by
  have hss := size_S s
  have hle := h.le
  have hmx := h.max
  have HB := hide (begun_yes hp hs w tb)
  go_enter Tryd.func3, Tryd.ntmps3
  go_wp2_with fail
  refine (unhide HB).mono ?_
  rintro e w1 ⟨rfl, hx1⟩
  clear HB
  by_cases hl : s.length ≤ 200
  · by_cases hn : l.length ≤ 10
    · have hl1 : ¬ 200 < (s.length : Int) := by omega
      have hl2 : ¬ 10 < (l.length : Int) := by omega
      have d1 : decide (200 < (s.length : Int)) = false := by rw [decide_eq_false_iff_not]; omega
      have d2 : decide (10 < (l.length : Int)) = false := by rw [decide_eq_false_iff_not]; omega
      have HR := hide (h.below hx1)
      have HM := hide (MaxL.below tb hx1)
      have X1 := hide hx1
      clear h tb hx1
      go_wp2_with fail
      go_loopw [5] (fun i wr => ∃ k : Nat, k ≤ l.length ∧ i = .int .i64 (k : Int) ∧ (∀ j < k, (l.getD j ([], [])).1.length ≤ 30 ∧ (l.getD j ([], [])).2.length ≤ 30) ∧ ∃ m, wr = w1.drewN m) (fun i _ => l.length - (intOf i).toNat)
      case atStart => exact ⟨0, by omega, rfl, fun j hj => absurd hj (by omega), 0, rfl⟩
      case round =>
        obtain ⟨k, hk, rfl, hall, m, rfl⟩ := hrel
        by_cases hkl : k < l.length
        · obtain ⟨b, off, rfl, hc⟩ := (unhide HR).cells (by omega)
          obtain ⟨c0, c1⟩ := hc k hkl
          have hkl' : (k : Int) < (l.length : Int) := by omega
          have NX : (l.getD k ([], [])).1.length ≤ 30 → (l.getD k ([], [])).2.length ≤ 30 → ∀ j < k + 1, (l.getD j ([], [])).1.length ≤ 30 ∧ (l.getD j ([], [])).2.length ≤ 30 := fun h1 h2 j hj => by
            rcases Nat.lt_succ_iff_lt_or_eq.1 hj with h3 | rfl
            · exact hall j h3
            · exact ⟨h1, h2⟩
          have z1 := size_S (l.getD k ([], [])).1
          have z2 := size_S (l.getD k ([], [])).2
          have FF : Hid (Ext w (w1.drewN m)) := (unhide X1).trans (Ext.drewN _ _)
          clear hc hall HR HM X1
          generalize l.getD k ([], []) = p at *
          by_cases h1 : p.1.length ≤ 30
          · have h1' : ¬ 30 < (p.1.length : Int) := by omega
            by_cases h2 : p.2.length ≤ 30
            · have h2' : ¬ 30 < (p.2.length : Int) := by omega
              have q1 : decide (30 < (p.1.length : Int)) = false := by rw [decide_eq_false_iff_not]; omega
              have q2 : decide (30 < (p.2.length : Int)) = false := by rw [decide_eq_false_iff_not]; omega
              have HN := hide (NX h1 h2)
              clear NX FF h1 h2
              go_wp2
              go_roundw
              case rel => exact ⟨k + 1, by omega, by go_num, unhide HN, _, rfl⟩
              case measure => simp [intOf]; omega
            · have h2' : 30 < (p.2.length : Int) := by omega
              clear NX h1 h2
              go_wp2
              go_ret
              exact ⟨rfl, unhide FF⟩
          · have h1' : 30 < (p.1.length : Int) := by omega
            clear NX h1
            go_wp2
            go_ret
            exact ⟨rfl, unhide FF⟩
        · have hkl' : ¬ (k : Int) < (l.length : Int) := by omega
          have hk2 : k = l.length := by omega
          subst hk2
          have hb : ∀ p ∈ l, p.1.length ≤ 30 ∧ p.2.length ≤ 30 := fun p hpm => by
            obtain ⟨j, hj⟩ := List.getElem?_of_mem hpm
            have := hall j (List.getElem?_eq_some_iff.1 hj).1
            simpa [List.getD, hj] using this
          have hsum := shwQ_bound 30 l hb
          have hsum2 : (shwQ l).length ≤ 1000000 := by
            have : l.length * (6 * 30 + 2) ≤ 10 * (6 * 30 + 2) := Nat.mul_le_mul hn (Nat.le_refl _)
            omega
          have hb2 : ∀ p ∈ l, p.1.length ≤ 100000 ∧ p.2.length ≤ 100000 := fun p hpm => by have := hb p hpm; omega
          have HP := hide (hp s (w1.drewN m) (by omega) ((unhide HM).below (Ext.drewN _ _)))
          have HSH := hide (fun (v : World) (hv : Ext w1 v) => hs ao cap l v hsum2 hb2 ((unhide HR).below hv))
          have HRS := hide (fun (v : World) (hv : Ext w1 v) => rshowQ_any ao cap l v hsum2 hb2 ((unhide HR).below hv))
          have Y0 : Hid (Ext w1 (w1.drewN m)) := Ext.drewN _ _
          clear hall hb hb2 hsum HR HM
          go_wp2_with fail
          refine (unhide HP).mono ?_
          rintro e w2 ⟨a2, c2, rfl, R2, hx2⟩
          clear HP
          have Y2 : Hid (Ext w1 w2) := (unhide Y0).trans hx2
          have HQ := hide (rquery_any s w2 (by omega))
          have HR2 := hide R2
          clear hx2 R2 Y0
          go_wp2_with fail
          refine (unhide HQ).mono ?_
          rintro e w3 ⟨a3, c3, rfl, R3, hx3⟩
          clear HQ
          have Y3 : Hid (Ext w1 w3) := (unhide Y2).trans hx3
          have HT := hide (sameP_any a2 a3 c2 c3 (parQ s) w3 ((unhide HR2).below hx3) R3)
          clear HR2 R3 hx3 Y2
          go_wp2_with fail
          refine (unhide HT).mono ?_
          rintro e w4 ⟨rfl, hx4⟩
          clear HT
          have Y4 : Hid (Ext w1 w4) := (unhide Y3).trans hx4
          have A1 := hide (unhide HSH w4 (unhide Y4))
          clear hx4 Y3 HSH
          go_wp2_with fail
          refine (unhide A1).mono ?_
          rintro e w6 ⟨rfl, hx6⟩
          clear A1
          have Y6 : Hid (Ext w1 w6) := (unhide Y4).trans hx6
          have A2 := hide (unhide HRS w6 (unhide Y6))
          clear hx6 Y4 HRS
          generalize shwQ l = W at *
          go_wp2_with fail
          refine (unhide A2).mono ?_
          rintro e w7 ⟨rfl, hx7⟩
          clear A2
          have FF := (unhide X1).trans ((unhide Y6).trans hx7)
          go_wp2
          go_ret
          exact ⟨rfl, FF⟩
    · have hl1 : ¬ 200 < (s.length : Int) := by omega
      have hl2 : 10 < (l.length : Int) := by omega
      clear h
      go_wp2
      go_ret
      exact ⟨rfl, hx1⟩
  · have hl1 : 200 < (s.length : Int) := by omega
    clear h
    go_wp2
    go_ret
    exact ⟨rfl, hx1⟩

theorem emptyP_own (w : World) : (w.alloc (.cells #[] 25)).ownsRow w.heap.size 25 2 (.slice (some ⟨w.heap.size, 0, none⟩) 0 0) 0 (cellsP []) :=
  World.ownsRow_lit w #[] 0 (Nat.le_refl _) (by unfold maxLen; omega) rfl

set_option maxHeartbeats 2000000 in
theorem parts11_walk (hp : ParseOk) (hs : ShowOk) (a b : List UInt8) (w : World) (tb : MaxL w) :
    Calls Tryd.prog 5 #[S a, S b] w fun e w' => e = .returned (.bool true) ∧ Ext w w' := by
  have hsa := size_S a
  have hsb := size_S b
  have HB := hide (begun_yes hp hs w tb)
  go_enter Tryd.func5, Tryd.ntmps5
  go_wp2_with fail
  refine (unhide HB).mono ?_
  rintro e w1 ⟨rfl, hx1⟩
  clear HB
  by_cases hla : a.length ≤ 60
  · by_cases hlb : b.length ≤ 60
    · have hl1 : ¬ 60 < (a.length : Int) := by omega
      have hl2 : ¬ 60 < (b.length : Int) := by omega
      have HM := hide (MaxL.below tb hx1)
      have HP := hide (hp a w1 (by omega) (unhide HM))
      have hpa := parQ_len a
      have hpb := parQ_len b
      have hab := parQ_app a b
      have HP3 := hide (fun (v : World) (hv : Ext w1 v) => hp (a ++ 38 :: b) v (by rw [List.length_append, List.length_cons]; omega) ((unhide HM).below hv))
      have X1 := hide hx1
      have k1 := cat_to a [38]
      have k2 := cat_to (a ++ [38]) b
      rw [show a ++ [38] ++ b = a ++ 38 :: b by simp] at k2
      clear tb hx1
      go_wp2_with fail
      refine (unhide HP).mono ?_
      rintro e w2 ⟨a2, c2, rfl, R2, hx2⟩
      clear HP
      have HP2 := hide (hp b w2 (by omega) ((unhide HM).below hx2))
      have HR2 := hide R2
      have Y2 := hide hx2
      clear R2 hx2 HM
      generalize parQ a = A at *
      go_wp2_with fail
      refine (unhide HP2).mono ?_
      rintro e w3 ⟨a3, c3, rfl, R3, hx3⟩
      clear HP2
      have HR3 := hide R3
      have HR2b := hide ((unhide HR2).below hx3)
      have Y3 : Hid (Ext w1 w3) := (unhide Y2).trans hx3
      clear R3 hx3 HR2 Y2
      generalize parQ b = C at *
      by_cases hsum : A.length + C.length ≤ 40
      · have hs1 : ¬ 40 < (A.length : Int) + (C.length : Int) := by omega
        have hab := hab hsum
        rw [hab] at HP3
        have PP := hide (unhide HP3 w3 (unhide Y3))
        clear HP3 hab
        go_wp2_with fail
        refine (unhide PP).mono ?_
        rintro e w4 ⟨a4, c4, rfl, R4, hx4⟩
        clear PP
        have HR4 := hide R4
        have R2c := (unhide HR2b).below (hx4.trans (Ext.alloc w4 (.cells #[] 25)))
        have R3c := hide ((unhide HR3).below hx4)
        have Y4 : Hid (Ext w1 w4) := (unhide Y3).trans hx4
        have om := emptyP_own w4
        have hbA : Below w4.heap.size w4 (w4.alloc (.cells #[] 25)) := Ext.alloc w4 _
        have hbs := hbA.size
        clear R4 hx4 HR2b HR3 Y3
        go_wp2_with (at_builtin; refine wpList_appP rfl (.tmp 32) (.tmp 33) rfl w4.heap.size _ [] rfl om _ _ A rfl R2c (by simp only [List.length_nil]; omega) hbs ?_)
        intro v5 w5 o5 b5
        have hb5 := hbA.trans b5
        have bs5 := hb5.size
        have o5' : w5.ownsRow w4.heap.size 25 2 v5 A.length (cellsP A) := by simpa using o5
        have R3d := (unhide R3c).below hb5
        clear om R2c hbA hbs o5 b5 R3c
        go_wp2_with (at_builtin; refine wpList_appP rfl (.tmp 34) (.tmp 35) rfl w4.heap.size _ A rfl o5' _ _ C rfl R3d (by omega) bs5 ?_)
        intro v6 w6 o6 b6
        have hb6 := hb5.trans b6
        obtain ⟨a6, c6, rfl, -⟩ := ownedP_some o6
        have R6 : RdP w6 a6 c6 (A ++ C) := RdP.of_owned (by rw [List.length_append]; exact o6)
        have HT := hide (sameP_any a4 a6 c4 c6 (A ++ C) w6 ((unhide HR4).below hb6) R6)
        rw [List.length_append] at HT
        have F6 : Hid (Ext w w6) := (unhide X1).trans ((unhide Y4).trans hb6)
        clear o5' R3d hb5 bs5 o6 b6 hb6 R6 HR4 X1 Y4
        go_wp2_with fail
        refine (unhide HT).mono ?_
        rintro e w7 ⟨rfl, hx7⟩
        clear HT
        have FF := (unhide F6).trans hx7
        go_wp2
        go_ret
        exact ⟨rfl, FF⟩
      · have hs1 : 40 < (A.length : Int) + (C.length : Int) := by omega
        have F3 : Hid (Ext w w3) := (unhide X1).trans (unhide Y3)
        clear HP3 hab
        go_wp2
        go_ret
        exact ⟨rfl, unhide F3⟩
    · have hl1 : ¬ 60 < (a.length : Int) := by omega
      have hl2 : 60 < (b.length : Int) := by omega
      go_wp2
      go_ret
      exact ⟨rfl, hx1⟩
  · have hl1 : 60 < (a.length : Int) := by omega
    go_wp2
    go_ret
    exact ⟨rfl, hx1⟩
end Go.Proofs.YtilmkmplaehcaaaDoor
