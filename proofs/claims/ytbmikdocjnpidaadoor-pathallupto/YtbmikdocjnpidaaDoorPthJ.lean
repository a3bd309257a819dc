/-
  Which segments a way has, by the document's own words.
-/
import Derived.Test.YtbmikdocjnpidaaDoorPthG
namespace Go.Proofs.YtbmikdocjnpidaaDoor
set_option linter.unusedVariables false
open Go.RowKit

theorem sameT_zero (ao ao2 : Option Addr) (cap cap2 : Nat) (w : World) : Calls Tryd.prog 14 #[.slice ao 0 cap, .slice ao2 0 cap2] w fun e w' => e = .returned (.bool true) ∧ Ext w w' := by
  go_enter Tryd.func14, Tryd.ntmps14
  go_wp2
  refine wp_loop_rounds 1 ?_
  rw [rounds_succ]
  go_wp2
  go_ret
  exact ⟨rfl, Ext.refl _⟩
theorem sameT_any (ao ao2 : Option Addr) (cap cap2 : Nat) (ps : List (List UInt8)) (w : World) (hm : ps.length ≤ 1000000) (h : RdV w ao cap (ps.map S)) (h2 : RdV w ao2 cap2 (ps.map S)) :
    Calls Tryd.prog 14 #[.slice ao ps.length cap, .slice ao2 ps.length cap2] w fun e w' => e = .returned (.bool true) ∧ Ext w w' := by
  by_cases h0 : ps.length = 0
  · rw [h0]
    exact sameT_zero ao ao2 cap cap2 w
  · obtain ⟨b, off, rfl, _⟩ := h.cells (by simp; omega)
    obtain ⟨b2, off2, rfl, _⟩ := h2.cells (by simp; omega)
    exact sameT_some b off cap b2 off2 cap2 ps w hm h h2

set_option maxHeartbeats 4000000 in
theorem all10_walk (s : List UInt8) (sp : Bool) (ao : Option Addr) (cap : Nat) (base : List (List UInt8)) (w : World) (tb : MaxL w) (h : RdV w ao cap (base.map S)) (hb : ∀ p ∈ base, p.length ≤ 2000000) (hsum : (shw base).length ≤ 100000000) :
    Calls Tryd.prog 3 #[S s, .bool sp, .slice ao base.length cap] w fun e w' => e = .returned (.bool true) ∧ Ext w w' := by
  have hss := size_S s
  have hle := h.le
  have hmx := h.max
  simp only [List.length_map] at hle
  have HB := hide (begun_yes w tb)
  go_enter Tryd.func3, Tryd.ntmps3
  go_wp2_with fail
  refine (unhide HB).mono ?_
  rintro e w1 ⟨rfl, hx1⟩
  clear HB
  by_cases hl : s.length ≤ 80
  · by_cases hn : base.length ≤ 8
    · have hl1 : ¬ 80 < (s.length : Int) := by omega
      have hl2 : ¬ 8 < (base.length : Int) := by omega
      have R1 := h.below hx1
      have hM1 := hide (MaxL.below tb hx1)
      have om := empty_own w1 9
      have R1b := R1.below (Ext.alloc w1 (.cells #[] 9))
      have hbA : Below w1.heap.size w1 (w1.alloc (.cells #[] 9)) := Ext.alloc w1 _
      have hbs := hbA.size
      have hone : ∀ u ∈ base.map S, u.oneCell' = true := by intro u hu; obtain ⟨z, _, rfl⟩ := List.mem_map.1 hu; rfl
      have HHb := hide hb
      have HR := hide h
      clear R1 h hb tb
      go_wp2_with (at_builtin; refine wpList_appS rfl (.tmp 19) (.tmp 20) rfl w1.heap.size _ _ _ _ rfl om _ _ _ (base.map S) rfl (List.length_map _) R1b hone (by omega) hbs ?_)
      intro g2 c2 w2 o2 b2
      have x2 : Ext w1 w2 := hbA.trans b2
      have R2 := RdV.of_owned_at (by first | exact o2 | (rw [Nat.zero_add, List.nil_append] at o2; exact o2) : w2.ownsRow w1.heap.size 9 1 (.slice (some ⟨g2, 0, none⟩) base.length c2) base.length (base.map S))
      clear om R1b hbA hbs hone o2 b2
      have X2 : Hid (Ext w w2) := hx1.trans x2
      have HP := hide (parse_rd s sp ao cap base w2 (by omega) (by omega) (unhide HHb) ((unhide HR).below (unhide X2)) ((unhide hM1).below x2))
      have hpl := par_len s sp base
      have HRW := hide R2
      clear hx1 x2 R2 hM1 HHb
      go_wp2_with fail
      refine (unhide HP).mono ?_
      rintro e w3 ⟨g3, c3, rfl, R3, hx3⟩
      clear HP
      have RW3 := hide ((unhide HRW).below hx3)
      have X3 : Hid (Ext w w3) := (unhide X2).trans hx3
      have HR3 := hide R3
      have A1 := hide (sing_any s w3)
      clear HRW X2 hx3 R3
      generalize hsg : sing s = q1 at *
      go_wp2_with fail
      refine (unhide A1).mono ?_
      rintro e w4 ⟨rfl, hx4⟩
      clear A1
      have RW4 := hide ((unhide RW3).below hx4)
      have HR4 := hide ((unhide HR3).below hx4)
      have X4 : Hid (Ext w w4) := (unhide X3).trans hx4
      have A2 := hide (rsing_any s w4 (by omega))
      rw [hsg] at A2
      clear RW3 HR3 X3 hx4
      go_wp2_with fail
      refine (unhide A2).mono ?_
      rintro e w5 ⟨rfl, hx5⟩
      clear A2
      have RW5 := hide ((unhide RW4).below hx5)
      have HR5 := hide ((unhide HR4).below hx5)
      have X5 : Hid (Ext w w5) := (unhide X4).trans hx5
      have A3 := hide (doub_any s w5)
      generalize hdb : doub s = q2 at *
      clear RW4 HR4 X4 hx5
      go_wp2_with fail
      refine (unhide A3).mono ?_
      rintro e w6 ⟨rfl, hx6⟩
      clear A3
      have RW6 := hide ((unhide RW5).below hx6)
      have HR6 := hide ((unhide HR5).below hx6)
      have X6 : Hid (Ext w w6) := (unhide X5).trans hx6
      have A4 := hide (rdoub_any s w6 (by omega))
      rw [hdb] at A4
      clear RW5 HR5 X5 hx6
      go_wp2_with fail
      refine (unhide A4).mono ?_
      rintro e w7 ⟨rfl, hx7⟩
      clear A4
      have RW7 := hide ((unhide RW6).below hx7)
      have HR7 := hide ((unhide HR6).below hx7)
      have X7 : Hid (Ext w w7) := (unhide X6).trans hx7
      have A5 := hide (rpath_any s sp (some ⟨g2, 0, none⟩) c2 base w7 (by omega) (by omega) (unhide RW7))
      clear RW6 HR6 X6 hx7
      go_wp2_with fail
      refine (unhide A5).mono ?_
      rintro e w8 ⟨g8, c8, rfl, O8, hx8⟩
      clear A5
      have RW8 := hide ((unhide RW7).below hx8)
      have X8 : Hid (Ext w w8) := (unhide X7).trans hx8
      have A6 := hide (sameT_any (some ⟨g3, 0, none⟩) (some ⟨g8, 0, none⟩) c3 c8 (par s sp base) w8 (by omega) ((unhide HR7).below hx8) (RdV.of_owned_at O8))
      clear RW7 HR7 X7 hx8 O8
      go_wp2_with fail
      refine (unhide A6).mono ?_
      rintro e w9 ⟨rfl, hx9⟩
      clear A6
      have RW9 := hide ((unhide RW8).below hx9)
      have X9 : Hid (Ext w w9) := (unhide X8).trans hx9
      have A7 := hide (sameT_any ao (some ⟨g2, 0, none⟩) cap c2 base w9 (by omega) ((unhide HR).below (unhide X9)) (unhide RW9))
      clear RW8 X8 hx9
      go_wp2_with fail
      refine (unhide A7).mono ?_
      rintro e wA ⟨rfl, hxA⟩
      clear A7
      have RWA := hide ((unhide RW9).below hxA)
      have XA : Hid (Ext w wA) := (unhide X9).trans hxA
      have A8 := hide (show_any ao cap base wA hsum ((unhide HR).below (unhide XA)))
      clear RW9 X9 hxA
      go_wp2_with fail
      refine (unhide A8).mono ?_
      rintro e wB ⟨rfl, hxB⟩
      clear A8
      have XB : Hid (Ext w wB) := (unhide XA).trans hxB
      have A9 := hide (rshow_any (some ⟨g2, 0, none⟩) c2 base wB hsum ((unhide RWA).below hxB))
      clear RWA XA hxB HR
      generalize shw base = W at *
      go_wp2_with fail
      refine (unhide A9).mono ?_
      rintro e wC ⟨rfl, hxC⟩
      clear A9
      have FF := (unhide XB).trans hxC
      go_wp2
      go_ret
      exact ⟨rfl, FF⟩
    · have hl1 : ¬ 80 < (s.length : Int) := by omega
      have hl2 : 8 < (base.length : Int) := by omega
      clear h hb
      go_wp2
      go_ret
      exact ⟨rfl, hx1⟩
  · have hl1 : 80 < (s.length : Int) := by omega
    clear h hb
    go_wp2
    go_ret
    exact ⟨rfl, hx1⟩
end Go.Proofs.YtbmikdocjnpidaaDoor
