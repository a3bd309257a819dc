/-
  Show of package ip6, whole.
-/
import Derived.Test.YtfaobhaogenijaaDoorI6H
namespace Go.Proofs.YtfaobhaogenijaaDoor
set_option linter.unusedVariables false
open Go.RowKit

/-- A world with eight pieces in a block of their own. -/
def X8 (w : World) (a0 a1 a2 a3 a4 a5 a6 a7 : Nat) : World := w.alloc (.cells #[U a0, U a1, U a2, U a3, U a4, U a5, U a6, U a7] 23)
theorem X8_rd (w : World) (a0 a1 a2 a3 a4 a5 a6 a7 : Nat) : RdV (X8 w a0 a1 a2 a3 a4 a5 a6 a7) (some ⟨w.heap.size, 0, none⟩) 8 ([a0, a1, a2, a3, a4, a5, a6, a7].map U) := RdV.lit w _ _ _ (by simp)
theorem rd_from {w : World} {g : Nat} {l : List Value} (h : RdV w (some ⟨g, 0, none⟩) l.length l) (k : Nat) (hk : k < l.length) : RdV w (some ⟨g, k, none⟩) (l.length - k) (l.drop k) := by
  have := h.drop k (by omega)
  rw [if_neg (by omega)] at this
  have e : (some (⟨g, 0, none⟩ : Addr)).map (·.add k) = some ⟨g, k, none⟩ := by
    show some ((⟨g, 0, none⟩ : Addr).add k) = _
    rw [Addr.add_lit, Nat.zero_add]
  rwa [e] at this

set_option maxHeartbeats 4000000 in
set_option maxRecDepth 100000 in
theorem show6_any (a0 a1 a2 a3 a4 a5 a6 a7 : Nat) (w : World) (hsm : small [a0, a1, a2, a3, a4, a5, a6, a7]) (tb : Tb8 w) : Calls Tryd.prog 7 #[.agg #[U a0, U a1, U a2, U a3, U a4, U a5, U a6, U a7]] w fun e w' =>
    e = .returned (S (shw6 [a0, a1, a2, a3, a4, a5, a6, a7])) ∧ Ext w w' := by
  obtain ⟨r1, r2, r3, r4⟩ := row_facts [a0, a1, a2, a3, a4, a5, a6, a7] rfl
  have HLR := hide (fun w' => longest_any a0 a1 a2 a3 a4 a5 a6 a7 w')
  have HX := hide (X8_rd w a0 a1 a2 a3 a4 a5 a6 a7)
  have hx1 : Ext w (X8 w a0 a1 a2 a3 a4 a5 a6 a7) := Ext.alloc _ _
  have hs1 : (X8 w a0 a1 a2 a3 a4 a5 a6 a7).heap.size = w.heap.size + 1 := alloc_size _ _
  have HTB := hide (TbF.of (tb.below hx1) (show (X8 w a0 a1 a2 a3 a4 a5 a6 a7).heap.size ≤ w.heap.size + 1 by omega))
  have FIN : Hid (∀ z, z = shw6 [a0, a1, a2, a3, a4, a5, a6, a7] → Ending.returned (S z) = .returned (S (shw6 [a0, a1, a2, a3, a4, a5, a6, a7]))) := fun z h => by rw [h]
  have HSH : Hid (shw6 [a0, a1, a2, a3, a4, a5, a6, a7] = jp ([a0, a1, a2, a3, a4, a5, a6, a7].take (rowOf (zb [a0, a1, a2, a3, a4, a5, a6, a7])).1) ++ if (rowOf (zb [a0, a1, a2, a3, a4, a5, a6, a7])).1 < (rowOf (zb [a0, a1, a2, a3, a4, a5, a6, a7])).2 then 58 :: 58 :: jp ([a0, a1, a2, a3, a4, a5, a6, a7].drop (rowOf (zb [a0, a1, a2, a3, a4, a5, a6, a7])).2) else []) := rfl
  clear r3 r4 tb
  generalize (rowOf (zb [a0, a1, a2, a3, a4, a5, a6, a7])).1 = fr at *
  generalize (rowOf (zb [a0, a1, a2, a3, a4, a5, a6, a7])).2 = en at *
  generalize shw6 [a0, a1, a2, a3, a4, a5, a6, a7] = sh at *
  have c0 : ∀ i, i < 8 → (X8 w a0 a1 a2 a3 a4 a5 a6 a7).cell? ⟨w.heap.size, i, none⟩ = some (U ([a0, a1, a2, a3, a4, a5, a6, a7].getD i 0)) := fun i hi => box8 w a0 a1 a2 a3 a4 a5 a6 a7 _ i hi
  have d0 := c0 0 (by decide)
  have d1 := c0 1 (by decide)
  have d2 := c0 2 (by decide)
  have d3 := c0 3 (by decide)
  have d4 := c0 4 (by decide)
  have d5 := c0 5 (by decide)
  have d6 := c0 6 (by decide)
  have d7 := c0 7 (by decide)
  have hl8 : [a0, a1, a2, a3, a4, a5, a6, a7].length = 8 := rfl
  unfold X8 at d0 d1 d2 d3 d4 d5 d6 d7
  clear c0
  have s1 := fun v => arr_to v w.heap.size 0 fr (by omega)
  go_enter Tryd.func7, Tryd.ntmps7
  go_wp2_with fail
  refine (unhide HLR _).mono ?_
  rintro e w2 ⟨rfl, hx2⟩
  clear HLR d0 d1 d2 d3 d4 d5 d6 d7
  change Ext (X8 w a0 a1 a2 a3 a4 a5 a6 a7) w2 at hx2
  generalize X8 w a0 a1 a2 a3 a4 a5 a6 a7 = w1 at *
  generalize [a0, a1, a2, a3, a4, a5, a6, a7] = a at *
  have hb2 : Below (w.heap.size + 1) w1 w2 := Below.mono hx2 (by omega)
  have hR2 := (unhide HX).below hx2
  have hT2 := (unhide HTB).on hb2
  have hs2 := hx2.size
  have htl : (a.take fr).length = fr := by rw [List.length_take]; omega
  have HA1 := hide (appendPieces_any (w.heap.size + 1) 0 (.slice none 0 0) [] (some ⟨w.heap.size, 0, none⟩) 8 fr (a.take fr) w2 htl (World.ownsRow_nil _ _ _ _) (by omega) (by omega) (by omega) (small_take hsm fr) (by rw [List.map_take]; exact hR2.take fr) (fun b off e => by simp only [Option.some.injEq, Addr.mk.injEq] at e; omega) hT2)
  have hj1 := jp_len (a.take fr) (small_take hsm fr)
  rw [htl] at hj1
  generalize jp (a.take fr) = J1 at *
  go_wp2_with fail
  refine (unhide HA1).mono ?_
  rintro e w3 ⟨v3, rfl, o3, b3⟩
  clear HA1
  rw [Nat.zero_add, List.nil_append] at o3
  have hs3 := b3.size
  have hx3 : Ext w w3 := Below.trans hx1 (Below.mono (Below.trans hb2 b3) (by omega))
  have hb3 : Below (w.heap.size + 1) w1 w3 := hb2.trans b3
  by_cases hlt : fr < en
  · have hlt' : (fr : Int) < (en : Int) := by omega
    have HSH2 := unhide HSH
    rw [if_pos hlt] at HSH2
    have HS2 := hide HSH2
    clear HSH2 HSH
    go_wp2_with (at_builtin; refine wpList_txt rfl (.tmp 17) (.const (.string ⟨#[58, 58]⟩)) rfl (w.heap.size + 1) _ _ _ rfl o3 [58, 58] (.inr rfl) rfl (by omega) (by omega) ?_)
    intro v4 w4 o4 b4
    have hs4 := b4.size
    have hb4 := hb3.trans b4
    have hx4 : Ext w w4 := Below.trans hx1 (Below.mono hb4 (by omega))
    have hT4 := (unhide HTB).on hb4
    have hR4 := RdV.low (unhide HX) (b0 := w.heap.size + 1) (fun b off e => by simp only [Option.some.injEq, Addr.mk.injEq] at e; omega) hb4
    have hdl : (a.drop en).length = 8 - en := by rw [List.length_drop]; omega
    clear o3 b3 b4
    by_cases he8 : en = 8
    · have s2 := fun v => arr_from8 v w.heap.size 0 en he8
      have hdn : a.drop en = [] := List.drop_of_length_le (by omega)
      have HA2 := hide (appendPieces_any (w.heap.size + 1) (J1.length + 2) v4 _ (some ⟨w.heap.size, 0, none⟩) 0 0 (a.drop en) w4 (by omega) o4 (by omega) (by omega) (by omega) (small_drop hsm en) (by rw [hdn]; exact ⟨Nat.le_refl _, by omega, fun e => (by cases e), fun i hi => by simp at hi⟩) (fun b off e => by simp only [Option.some.injEq, Addr.mk.injEq] at e; omega) hT4)
      have HS3 : Hid (sh = (J1 ++ [58, 58]) ++ jp (a.drop en)) := by
        show _ = _
        rw [unhide HS2]
        simp
      generalize jp (a.drop en) = J2 at *
      clear hR4 o4 hb3 hb2 hR2 hT2 HX HTB hx2 hx3
      go_wp2_with fail
      refine (unhide HA2).mono ?_
      rintro e w5 ⟨v5, rfl, o5, b5⟩
      clear HA2
      have hx5 : Ext w w5 := Below.trans hx4 (Below.mono b5 (by omega))
      have o6 : w5.ownsRow (w.heap.size + 1) 5 1 v5 (J1.length + 2 + J2.length) ((J1 ++ [58, 58] ++ J2).map B) := by
        rw [List.map_append, List.map_append]
        exact o5
      clear o5
      obtain ⟨ao, cap, rfl, hr, hn⟩ := RdV.of_owned o6
      have cs := oconv_str w5 ao (J1.length + 2 + J2.length) cap (J1 ++ [58, 58] ++ J2) (by simp; omega) hr
      have FF := hide (unhide FIN _ (unhide HS3).symm)
      clear o6 FIN hr hn HS3 HS2
      generalize J1 ++ [58, 58] ++ J2 = Z at *
      go_wp2
      go_ret
      exact ⟨unhide FF, hx5⟩
    · have s2 : ∀ v, (Instr.sliceAt 23 (.pointer (some ⟨w.heap.size, 0, none⟩)) (some (.int .i64 (en : Int))) none none).run Tryd.prog v = .ok (.slice (some ⟨w.heap.size, en, none⟩) (8 - en) (8 - en)) v := fun v => by
        have := arr_from v w.heap.size 0 en (by omega)
        rwa [Nat.zero_add] at this
      have HA2 := hide (appendPieces_any (w.heap.size + 1) (J1.length + 2) v4 _ (some ⟨w.heap.size, en, none⟩) (8 - en) (8 - en) (a.drop en) w4 hdl o4 (by omega) (by omega) (by omega) (small_drop hsm en) (by have h1 := rd_from (l := a.map U) (by rw [List.length_map, hl8]; exact hR4) en (by rw [List.length_map]; omega); rw [List.length_map, hl8, ← List.map_drop] at h1; exact h1) (fun b off e => by simp only [Option.some.injEq, Addr.mk.injEq] at e; omega) hT4)
      have HS3 : Hid (sh = (J1 ++ [58, 58]) ++ jp (a.drop en)) := by
        show _ = _
        rw [unhide HS2]
        simp
      generalize jp (a.drop en) = J2 at *
      clear hR4 o4 hb3 hb2 hR2 hT2 HX HTB hx2 hx3
      go_wp2_with fail
      refine (unhide HA2).mono ?_
      rintro e w5 ⟨v5, rfl, o5, b5⟩
      clear HA2
      have hx5 : Ext w w5 := Below.trans hx4 (Below.mono b5 (by omega))
      have o6 : w5.ownsRow (w.heap.size + 1) 5 1 v5 (J1.length + 2 + J2.length) ((J1 ++ [58, 58] ++ J2).map B) := by
        rw [List.map_append, List.map_append]
        exact o5
      clear o5
      obtain ⟨ao, cap, rfl, hr, hn⟩ := RdV.of_owned o6
      have cs := oconv_str w5 ao (J1.length + 2 + J2.length) cap (J1 ++ [58, 58] ++ J2) (by simp; omega) hr
      have FF := hide (unhide FIN _ (unhide HS3).symm)
      clear o6 FIN hr hn HS3 HS2
      generalize J1 ++ [58, 58] ++ J2 = Z at *
      go_wp2
      go_ret
      exact ⟨unhide FF, hx5⟩
  · have hlt' : ¬ (fr : Int) < (en : Int) := by omega
    have HSH2 := unhide HSH
    rw [if_neg hlt, List.append_nil] at HSH2
    obtain ⟨ao, cap, rfl, hr, hn⟩ := RdV.of_owned o3
    have cs := oconv_str w3 ao _ cap J1 rfl hr
    have FF := hide (unhide FIN _ HSH2.symm)
    clear o3 FIN hr hn HSH2 HSH HX HTB hR2 hT2 hb2 hb3 b3 hx2
    go_wp2
    go_ret
    exact ⟨unhide FF, hx3⟩
end Go.Proofs.YtfaobhaogenijaaDoor
