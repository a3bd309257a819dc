/-
  The walk of UtfParts.
-/
import Derived.Test.YtanhoohekjconaaU8
namespace Go.Proofs.Ytanhoohekjconaa
set_option linter.unusedVariables false
open Go.RowKit

theorem Ext.trans' {a b c : World} (h : Ext a b) (k : Below a.heap.size b c) : Ext a c := Below.trans h k

set_option maxHeartbeats 800000 in
theorem parts_walk (ao bo : Option Addr) (la lb ca cb : Nat) (xs bs : List UInt8) (w : World) (hla : xs.length = la) (hlb : bs.length = lb) (ha : RdV w ao ca (xs.map B)) (hb : RdV w bo cb (bs.map B)) :
    Calls Try.prog 6 #[.slice ao la ca, .slice bo lb cb] w fun e w' => e = .returned (.bool true) ∧ Ext w w' := by
  go_enter Try.func6, Try.ntmps6
  go_wp2_with fail
  refine (begun_yes _).mono ?_
  rintro e w1 ⟨rfl, hx1⟩
  by_cases g1 : 30 < la
  · go_wp2
    go_ret
    exact ⟨rfl, hx1⟩
  · by_cases g2 : 30 < lb
    · go_wp2
      go_ret
      exact ⟨rfl, hx1⟩
    · have ha1 := ha.below hx1
      have hb1 := hb.below hx1
      clear ha hb
      go_wp2_with fail
      refine (valid_any ao la ca xs w1 hla ha1).mono ?_
      rintro e w2 ⟨rfl, k, rfl⟩
      have hx2 : Ext w (w1.drewN k) := hx1.trans (Ext.drewN w1 k)
      have ha2 := ha1.drewN k
      have hb2 := hb1.drewN k
      clear ha1 hb1 hx1
      generalize w1.drewN k = w2 at *
      cases hv : vld xs with
      | false =>
        go_wp2
        go_ret
        exact ⟨rfl, hx2⟩
      | true =>
        go_wp2_with fail
        refine (decode_any ao la ca xs w2 hla (by omega) ha2).mono ?_
        rintro e w3 ⟨xo, cx, rfl, hr3, hx3⟩
        have hx4 := hx2.trans hx3
        have ha3 := ha2.below hx3
        have hb3 := hb2.below hx3
        clear ha2 hb2 hx2 hx3
        go_wp2_with fail
        refine (decode_any bo lb cb bs w3 hlb (by omega) hb3).mono ?_
        rintro e w5 ⟨yo, cy, rfl, hr5, hx5⟩
        have hx6 := hx4.trans hx5
        have ha5 := ha3.below hx5
        have hb5 := hb3.below hx5
        have hr6 := hr3.below hx5
        clear ha3 hb3 hx4 hx5 hr3
        have own5 := empty_own w5 5
        have hy5 : Ext w5 (w5.alloc (.cells #[] 5)) := Ext.alloc w5 _
        have ha6 := ha5.below hy5
        go_wp2_with (at_builtin; refine wpList_app rfl (.tmp 26) (.tmp 27) 22 5 (.int .u8 0) 1 Try.underlying22 infoB rfl rfl w5.heap.size _ _ _ rfl own5 _ _ _ (xs.map B) rfl ?c1 ha6 (one_B xs) ?c2 hy5.size ?_)
        case c1 => simpa using hla
        case c2 => omega
        intro v6 w6 own6 hb6
        have hy6 : Ext w5 w6 := hy5.trans' hb6
        have hb7 := hb5.below hy6
        clear own5 ha5 ha6 hb6 hy5
        go_wp2_with (at_builtin; refine wpList_app rfl (.tmp 28) (.tmp 29) 22 5 (.int .u8 0) 1 Try.underlying22 infoB rfl rfl w5.heap.size _ _ _ rfl own6 _ _ _ (bs.map B) rfl ?c1 hb7 (one_B bs) ?c2 hy6.size ?_)
        case c1 => simpa using hlb
        case c2 => omega
        intro v7 w7 own7 hb8
        have hy7 : Ext w5 w7 := hy6.trans' hb8
        obtain ⟨o7, c7, rfl, R7, _⟩ := RdV.of_owned own7
        have R7 : RdV w7 o7 c7 ((xs ++ bs).map B) := by simpa using R7
        have hx7 := hx6.trans hy7
        have hrx := hr6.below hy7
        have hry := hr5.below hy7
        clear own6 own7 hb8 hy6 hy7 hb5 hb7 hr6 hr5 hx6
        have hdl := dec_len xs
        have hdl2 := dec_len bs
        go_wp2_with fail
        refine (decode_any o7 _ c7 (xs ++ bs) w7 (by simp; omega) (by omega) R7).mono ?_
        rintro e w8 ⟨zo, cz, rfl, hr8, hx8⟩
        have hx9 := hx7.trans hx8
        have hrx8 := hrx.below hx8
        have hry8 := hry.below hx8
        clear R7 hx7 hrx hry hx8
        rw [dec_append xs bs hv] at hr8
        rw [dec_append xs bs hv]
        have own8 := empty_own w8 21
        have hy8 : Ext w8 (w8.alloc (.cells #[] 21)) := Ext.alloc w8 _
        have hrx9 := hrx8.below hy8
        generalize dec xs = dx at *
        generalize dec bs = dy at *
        go_wp2_with (at_builtin; refine wpList_app rfl (.tmp 32) (.tmp 33) 23 21 (.int .i32 0) 4 Try.underlying23 infoR rfl rfl w8.heap.size _ _ _ rfl own8 _ _ _ (dx.map R) rfl ?c1 hrx9 (one_R dx) ?c2 hy8.size ?_)
        case c1 => simp
        case c2 => omega
        intro v9 w9 own9 hb9
        have hy9 : Ext w8 w9 := hy8.trans' hb9
        have hry9 := hry8.below hy9
        clear own8 hrx8 hrx9 hb9 hy8
        go_wp2_with (at_builtin; refine wpList_app rfl (.tmp 34) (.tmp 35) 23 21 (.int .i32 0) 4 Try.underlying23 infoR rfl rfl w8.heap.size _ _ _ rfl own9 _ _ _ (dy.map R) rfl ?c1 hry9 (one_R dy) ?c2 hy9.size ?_)
        case c1 => simp
        case c2 => omega
        intro v10 w10 own10 hb10
        have hy10 : Ext w8 w10 := hy9.trans' hb10
        obtain ⟨o10, c10, rfl, R10, _⟩ := RdV.of_owned own10
        have R10 : RdV w10 o10 c10 ((dx ++ dy).map R) := by simpa using R10
        have hx10 := hx9.trans hy10
        have hr10 := hr8.below hy10
        clear own9 own10 hb10 hy9 hy10 hr8 hry8 hry9 hx9
        go_wp2_with fail
        refine (same_any zo o10 _ cz c10 (dx ++ dy) w10 (by simp) hr10 R10).mono ?_
        rintro e w11 ⟨rfl, hx11⟩
        go_wp2
        go_ret
        exact ⟨rfl, hx10.trans hx11⟩
end Go.Proofs.Ytanhoohekjconaa
