/-
  The walks of the laws of fold that take texts, over what Map and Text of package fold tell.
-/
import Derived.Test.YthfogdmddijjnaaDoorFoldW
namespace Go.Proofs.YthfogdmddijjnaaDoor
set_option linter.unusedVariables false
open Go.RowKit

theorem Ext.trans' {a b c : World} (h : Ext a b) (k : Below a.heap.size b c) : Ext a c := Below.trans h k

set_option maxHeartbeats 800000 in
theorem texts_walk (FM : FMap) (FT : FText) (ao : Option Addr) (l cap : Nat) (rs : List Int) (w : World) (hl : rs.length = l) (hr : ∀ r ∈ rs, -2147483648 ≤ r ∧ r ≤ 2147483647) (h : RdV w ao cap (rs.map R)) (tb : Tabs w) :
    Calls Tryd.prog 4 #[.slice ao l cap] w fun e w' => e = .returned (.bool true) ∧ Below w.heap.size w w' := by
  have HB := hide (begun_yes FM FT w tb)
  have TB := hide (tabs_on tb)
  clear tb
  have HT := hide FT
  clear FM FT
  go_enter Tryd.func4, Tryd.ntmps4
  go_wp2_with fail
  refine (unhide HB).mono ?_
  rintro e w1 ⟨rfl, hx1⟩
  clear HB
  by_cases g1 : 40 < l
  · go_wp2
    go_ret
    exact ⟨rfl, hx1⟩
  · have h1 := h.below hx1
    have own1 := empty_own w1 21
    have hy1 : Ext w1 (w1.alloc (.cells #[] 21)) := Ext.alloc w1 _
    have h2 := h1.below hy1
    go_wp2_with (at_builtin; refine wpList_app rfl (.tmp 9) (.tmp 10) 26 21 (.int .i32 0) 4 Tryd.underlying26 infoR rfl rfl w1.heap.size _ _ _ rfl own1 _ _ _ (rs.map R) rfl ?c1 h2 (one_R rs) ?c2 hy1.size ?_)
    case c1 => simpa using hl
    case c2 => omega
    intro v2 w2 own2 hb2
    have hy2 : Ext w1 w2 := hy1.trans' hb2
    obtain ⟨o2, c2, rfl, R2, _⟩ := RdV.of_owned own2
    have R2 : RdV w2 o2 c2 (rs.map R) := by simpa using R2
    have h3 := h1.below hy2
    have hx2 := hx1.trans hy2
    clear own1 own2 hb2 hy1 hy2 h1 h2 hx1
    go_wp2_with fail
    refine (unhide HT ao l cap rs w2 (unhide TB _ hx2) hl (by omega) hr h3).mono ?_
    rintro e w3 ⟨xo, cx, rfl, hrx, hx3⟩
    have R3 := R2.below hx3
    have h4 := h3.below hx3
    have hx4 := hx2.trans hx3
    clear R2 h3 hx2 hx3 HT
    go_wp2_with fail
    refine (rtext_any o2 l c2 rs w3 hl (by omega) hr R3).mono ?_
    rintro e w4 ⟨yo, cy, rfl, hry, hx5⟩
    have R4 := R3.below hx5
    have h5 := h4.below hx5
    have hrx4 := hrx.below hx5
    have hx6 := hx4.trans hx5
    clear R3 h4 hx4 hx5 hrx
    simp only [List.length_map] at *
    go_wp2_with fail
    refine (same_any xo yo _ cx cy (txt rs) w4 rfl hrx4 hry).mono ?_
    rintro e w5 ⟨rfl, hx7⟩
    have R5 := R4.below hx7
    have h6 := h5.below hx7
    have hx8 := hx6.trans hx7
    clear R4 h5 hx6 hx7 hry hrx4
    go_wp2_with fail
    refine (same_any ao o2 l cap c2 rs w5 hl h6 R5).mono ?_
    rintro e w6 ⟨rfl, hx9⟩
    have hx9 := hx8.trans hx9
    clear R5 h6 hx8
    go_wp2
    go_ret
    exact ⟨rfl, hx9⟩

set_option maxHeartbeats 1600000 in
theorem parts_walk (FM : FMap) (FT : FText) (ao bo : Option Addr) (la lb ca cb : Nat) (xs bs : List Int) (w : World) (hla : xs.length = la) (hlb : bs.length = lb) (hrx : ∀ r ∈ xs, -2147483648 ≤ r ∧ r ≤ 2147483647) (hrb : ∀ r ∈ bs, -2147483648 ≤ r ∧ r ≤ 2147483647) (ha : RdV w ao ca (xs.map R)) (hb : RdV w bo cb (bs.map R)) (tb : Tabs w) :
    Calls Tryd.prog 7 #[.slice ao la ca, .slice bo lb cb] w fun e w' => e = .returned (.bool true) ∧ Below w.heap.size w w' := by
  have HB := hide (begun_yes FM FT w tb)
  have TB := hide (tabs_on tb)
  clear tb
  have HT := hide FT
  clear FM FT
  have hlx := txt_len xs
  have hly := txt_len bs
  go_enter Tryd.func7, Tryd.ntmps7
  go_wp2_with fail
  refine (unhide HB).mono ?_
  rintro e w1 ⟨rfl, hx1⟩
  clear HB
  by_cases g1 : 30 < la
  · go_wp2
    go_ret
    exact ⟨rfl, hx1⟩
  by_cases g2 : 30 < lb
  · go_wp2
    go_ret
    exact ⟨rfl, hx1⟩
  have ha1 := ha.below hx1
  have hb1 := hb.below hx1
  clear ha hb
  go_wp2_with fail
  refine (unhide HT ao la ca xs w1 (unhide TB _ hx1) hla (by omega) hrx ha1).mono ?_
  rintro e w2 ⟨xo, cx, rfl, hr2, hx2⟩
  have ha2 := ha1.below hx2
  have hb2 := hb1.below hx2
  have hx2 := hx1.trans hx2
  clear ha1 hb1 hx1
  go_wp2_with fail
  refine (unhide HT bo lb cb bs w2 (unhide TB _ hx2) hlb (by omega) hrb hb2).mono ?_
  rintro e w3 ⟨yo, cy, rfl, hr3, hx3⟩
  have ha3 := ha2.below hx3
  have hb3 := hb2.below hx3
  have hr2 := hr2.below hx3
  have hx3 := hx2.trans hx3
  clear ha2 hb2 hx2
  simp only [List.length_map] at *
  have own3 := empty_own w3 21
  have hy3 : Ext w3 (w3.alloc (.cells #[] 21)) := Ext.alloc w3 _
  have ha4 := ha3.below hy3
  go_wp2_with (at_builtin; refine wpList_app rfl (.tmp 22) (.tmp 23) 26 21 (.int .i32 0) 4 Tryd.underlying26 infoR rfl rfl w3.heap.size _ _ _ rfl own3 _ _ _ (xs.map R) rfl ?c1 ha4 (one_R xs) ?c2 hy3.size ?_)
  case c1 => simpa using hla
  case c2 => omega
  intro v4 w4 own4 hb4
  have hy4 : Ext w3 w4 := hy3.trans' hb4
  have hb5 := hb3.below hy4
  clear own3 ha4 hb4 hy3
  go_wp2_with (at_builtin; refine wpList_app rfl (.tmp 24) (.tmp 25) 26 21 (.int .i32 0) 4 Tryd.underlying26 infoR rfl rfl w3.heap.size _ _ _ rfl own4 _ _ _ (bs.map R) rfl ?c1 hb5 (one_R bs) ?c2 hy4.size ?_)
  case c1 => simpa using hlb
  case c2 => omega
  intro v5 w5 own5 hb6
  have hy5 : Ext w3 w5 := hy4.trans' hb6
  obtain ⟨o5, c5, rfl, R5, _⟩ := RdV.of_owned own5
  have R5 : RdV w5 o5 c5 ((xs ++ bs).map R) := by simpa using R5
  have hr2 := hr2.below hy5
  have hr3 := hr3.below hy5
  have hx5 := hx3.trans hy5
  clear own4 own5 hb6 hy4 hy5 hb5 ha3 hb3 hx3
  have hrab : ∀ r ∈ xs ++ bs, -2147483648 ≤ r ∧ r ≤ 2147483647 := by
    intro r hr
    rcases List.mem_append.1 hr with hr | hr
    · exact hrx r hr
    · exact hrb r hr
  go_wp2_with fail
  refine (unhide HT o5 _ c5 (xs ++ bs) w5 (unhide TB _ hx5) (by simp; omega) (by omega) hrab R5).mono ?_
  rintro e w6 ⟨zo, cz, rfl, hr6, hx6⟩
  have hr2 := hr2.below hx6
  have hr3 := hr3.below hx6
  have hx6 := hx5.trans hx6
  clear R5 hx5 hrab
  rw [txt_app] at hr6
  rw [txt_app]
  have own6 := empty_own w6 21
  have hy6 : Ext w6 (w6.alloc (.cells #[] 21)) := Ext.alloc w6 _
  have hr7 := hr2.below hy6
  go_wp2_with (at_builtin; refine wpList_app rfl (.tmp 29) (.tmp 30) 26 21 (.int .i32 0) 4 Tryd.underlying26 infoR rfl rfl w6.heap.size _ _ _ rfl own6 _ _ _ ((txt xs).map R) rfl ?c1 hr7 (one_R (txt xs)) ?c2 hy6.size ?_)
  case c1 => simp
  case c2 => omega
  intro v7 w7 own7 hb7
  have hy7 : Ext w6 w7 := hy6.trans' hb7
  have hr8 := hr3.below hy7
  clear own6 hr7 hb7 hy6
  go_wp2_with (at_builtin; refine wpList_app rfl (.tmp 31) (.tmp 32) 26 21 (.int .i32 0) 4 Tryd.underlying26 infoR rfl rfl w6.heap.size _ _ _ rfl own7 _ _ _ ((txt bs).map R) rfl ?c1 hr8 (one_R (txt bs)) ?c2 hy7.size ?_)
  case c1 => simp
  case c2 => omega
  intro v8 w8 own8 hb8
  have hy8 : Ext w6 w8 := hy7.trans' hb8
  obtain ⟨o8, c8, rfl, R8, _⟩ := RdV.of_owned own8
  have R8 : RdV w8 o8 c8 ((txt xs ++ txt bs).map R) := by simpa using R8
  have hr9 := hr6.below hy8
  have hr2 := hr2.below hy8
  have hx8 := hx6.trans hy8
  clear own7 own8 hb8 hy7 hy8 hr8 hr3 hr6 hx6
  go_wp2_with fail
  refine (same_any zo o8 _ cz c8 (txt xs ++ txt bs) w8 (by simp) hr9 R8).mono ?_
  rintro e w9 ⟨rfl, hx9⟩
  have hr2 := hr2.below hx9
  have hx9 := hx8.trans hx9
  clear R8 hr9 hx8
  have hle : (txt xs).length ≤ la := by omega
  go_wp2_with fail
  refine (unhide HT xo _ cx (txt xs) w9 (unhide TB _ hx9) rfl (by omega) (txt_range hrx) hr2).mono ?_
  rintro e w10 ⟨qo, cq, rfl, hr10, hx10⟩
  have hr2 := hr2.below hx10
  have hx10 := hx9.trans hx10
  clear hx9
  rw [txt_txt] at hr10
  rw [txt_txt]
  simp only [List.length_map] at *
  go_wp2_with fail
  refine (same_any qo xo _ cq cx (txt xs) w10 rfl hr10 hr2).mono ?_
  rintro e w11 ⟨rfl, hx11⟩
  have hx11 := hx10.trans hx11
  clear hx10 hr2 hr10
  go_wp2
  go_ret
  exact ⟨rfl, hx11⟩
end Go.Proofs.YthfogdmddijjnaaDoor
