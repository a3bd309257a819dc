/-
  HoA, HoB.
-/
import Derived.Test.YtenlampiiodkhaaGreatDoorCAc
import Derived.Test.YtenlampiiodkhaaGreatDoorBJc
import Derived.Test.YtenlampiiodkhaaGreatDoorBMc
import Derived.Test.YtenlampiiodkhaaGreatDoorBXc
import Derived.Test.YtenlampiiodkhaaGreatDoorBOc
import Derived.Test.YtenlampiiodkhaaGreatDoorBZc
import Derived.Test.YtenlampiiodkhaaGreatDoorBYc
namespace Go.Proofs.YtenlampiiodkhaaGreatDoor
set_option linter.unusedVariables false
open Go.RowKit
structure Tb9 (w : World) : Prop where
  six : Tb6 w
  eight : Tb8 w
theorem Tb9.below {w w' : World} (h : Tb9 w) (hx : Ext w w') : Tb9 w' := ⟨h.six.below hx, h.eight.below hx⟩
theorem pct_decode (l : List UInt8) (w : World) (hm : l.length ≤ 1000000) :
    Calls Tryz.prog 71 #[S l] w fun e w' => ∃ v, e = .returned v ∧ w'.ownsRow w.heap.size 5 1 v (Pct.decd l).length ((Pct.decd l).map B) ∧ Below w.heap.size w w' := Pct.decode_own l w hm
theorem pct_encode (s : Int) (ao : Option Addr) (l cap : Nat) (bs : List UInt8) (w : World) (hl : bs.length = l) (hm : l ≤ 1000000) (h : RdV w ao cap (bs.map B)) :
    Calls Tryz.prog 74 #[.int .i64 s, .slice ao l cap] w fun e w' => e = .returned (S (Pct.encd s bs)) ∧ Ext w w' := Pct.encode_own s ao l cap bs w hl hm h
theorem longO_no {s : List UInt8} (h : s.head? ≠ some 91) : longO s = none := by
  unfold longO; rw [if_neg (fun e => h e.1)]
theorem longO_cons (r : List UInt8) : longO (91 :: r) = if r.getLast? = some 93 then par6 r.dropLast else none := by
  unfold longO
  cases r with
  | nil => simp
  | cons x t =>
    have e : (91 :: x :: t).getLast? = (x :: t).getLast? := List.getLast?_cons_cons; rw [e]; by_cases h : (x :: t).getLast? = some 93
    · rw [if_pos h, if_pos ⟨rfl, by simp, h⟩]; rfl
    · rw [if_neg h, if_neg (fun e => h e.2.2)]
theorem hasP (x : UInt8) (s : List UInt8) : Lib.hasPrefix s [x] = decide (s.head? = some x) := by
  cases s with
  | nil => rfl
  | cons y t =>
    unfold Lib.hasPrefix; by_cases h : x = y
    · subst h; simp [List.isPrefixOf]
    · have h2 : ¬ y = x := fun e => h e.symm; simp [List.isPrefixOf, h, h2]
theorem hasX93 (x : UInt8) (s : List UInt8) : Lib.hasSuffix s [x] = decide (s.getLast? = some x) := by
  unfold Lib.hasSuffix; rw [List.isSuffixOf, List.getLast?_eq_head?_reverse]; exact hasP x s.reverse
theorem trimP (x : UInt8) (r : List UInt8) : Lib.trimPrefix (x :: r) [x] = r := by
  unfold Lib.trimPrefix; rw [hasP]; simp
theorem trimS {x : UInt8} {r : List UInt8} (h : r.getLast? = some x) : Lib.trimSuffix r [x] = r.dropLast := by
  unfold Lib.trimSuffix; rw [hasX93, h]; simp [List.dropLast_eq_take]
set_option maxHeartbeats 4000000 in
set_option maxRecDepth 100000 in
theorem readlong_any (s : List UInt8) (w : World) (hs : s.length ≤ 100000) (tb : Tb8 w) : Calls Tryz.prog 51 #[S s] w fun e w' => e = .returned (.tuple #[V8 (aO (longO s)), .int .i64 (perr6 (longO s))]) ∧ Ext w w' := by
  have NO : Hid (longO s = none → Ending.returned (.tuple #[.agg #[U 0, U 0, U 0, U 0, U 0, U 0, U 0, U 0], .int .i64 5]) = .returned (.tuple #[V8 (aO (longO s)), .int .i64 (perr6 (longO s))])) := fun h => by rw [h]; rfl
  have hz0 := Z8_new w; have hxz := Z8_ext w; have TB := hide (fun (w' : World) (hx : Ext w w') => tb.below hx); clear tb; have HCP := hide (fun v => Tryz.strings_CutPrefix ⟨s.toArray⟩ ⟨#[91]⟩ v); have ZZ := fun (g : Nat) (wz : World) (h : wz.heap[g]? = some (.cells (List.replicate 8 (U 0)).toArray 36 (0, 0))) => (And.intro (fun i hi => cells_zero h i hi) (fun i => froz8 h i)); by_cases hb : s.head? = some 91
  · obtain ⟨r, rfl⟩ : ∃ r, s = 91 :: r := by
      cases s with
      | nil => cases hb
      | cons x t =>
        simp at hb; exact ⟨t, by rw [hb]⟩
    have HP : Hid (∀ v, Calls Tryz.prog 86 #[S (91 :: r), .string ⟨#[91]⟩] v fun e w' => e = .returned (.tuple #[S r, .bool true]) ∧ w' = v) := fun v => by
      have := unhide HCP v; rw [show Lib.trimPrefix (⟨(91 :: r).toArray⟩ : ByteArray).data.toList (⟨#[91]⟩ : ByteArray).data.toList = r from trimP 91 r, show Lib.hasPrefix (⟨(91 :: r).toArray⟩ : ByteArray).data.toList (⟨#[91]⟩ : ByteArray).data.toList = true from by rw [show (⟨(91 :: r).toArray⟩ : ByteArray).data.toList = 91 :: r from rfl, show (⟨#[91]⟩ : ByteArray).data.toList = [91] from rfl, hasP]; rfl] at this; exact this
    have HCS := hide (fun v => Tryz.strings_CutSuffix ⟨r.toArray⟩ ⟨#[93]⟩ v (by rw [size_S]; simp at hs; omega)); clear HCP hb; rw [longO_cons] at NO ⊢; by_cases hl : r.getLast? = some 93
    · rw [if_pos hl] at NO ⊢; have HS : Hid (∀ v, Calls Tryz.prog 87 #[S r, .string ⟨#[93]⟩] v fun e w' => e = .returned (.tuple #[S r.dropLast, .bool true]) ∧ w' = v) := fun v => by
        have := unhide HCS v; rw [show Lib.trimSuffix (⟨r.toArray⟩ : ByteArray).data.toList (⟨#[93]⟩ : ByteArray).data.toList = r.dropLast from trimS hl, show Lib.hasSuffix (⟨r.toArray⟩ : ByteArray).data.toList (⟨#[93]⟩ : ByteArray).data.toList = true from by rw [show (⟨r.toArray⟩ : ByteArray).data.toList = r from rfl, show (⟨#[93]⟩ : ByteArray).data.toList = [93] from rfl, hasX93, hl]; simp] at this; exact this
      have HQ := hide (fun v (hv : Ext w v) => parse6_any r.dropLast v (by rw [List.length_dropLast]; simp at hs; omega) (unhide TB v hv)); clear HCS hl NO TB; have HXZ := hide hxz; unfold Z8 at hz0 HXZ; unfold V8 at HQ ⊢; generalize (aO (par6 r.dropLast)).getD 0 0 = y0 at *; generalize (aO (par6 r.dropLast)).getD 1 0 = y1 at *; generalize (aO (par6 r.dropLast)).getD 2 0 = y2 at *; generalize (aO (par6 r.dropLast)).getD 3 0 = y3 at *; generalize (aO (par6 r.dropLast)).getD 4 0 = y4 at *; generalize (aO (par6 r.dropLast)).getD 5 0 = y5 at *; generalize (aO (par6 r.dropLast)).getD 6 0 = y6 at *; generalize (aO (par6 r.dropLast)).getD 7 0 = y7 at *; generalize perr6 (par6 r.dropLast) = q at *; generalize r.dropLast = m at *; clear hxz hs; go_enter Tryz.func51, Tryz.ntmps51; go_wp2_with fail
      refine (unhide HP _).mono ?_; rintro e w1 ⟨rfl, hw⟩; have hw3 := hw.symm; subst hw; clear HP hw3; go_wp2_with fail
      refine (unhide HS _).mono ?_; rintro e w2 ⟨rfl, hw⟩; subst hw; clear HS; have HQ1 := hide (unhide HQ _ (unhide HXZ)); clear HQ; go_wp2_with fail
      refine (unhide HQ1).mono ?_; rintro e w3 ⟨rfl, hx3⟩; clear HQ1; have hz := heap_ext hz0 hx3; have HH := hide hz; have HX := hide ((unhide HXZ).trans hx3); obtain ⟨zc, zf⟩ := ZZ w.heap.size w3 hz; have z0 := zc 0 (by decide); have z1 := zc 1 (by decide); have z2 := zc 2 (by decide); have z3 := zc 3 (by decide); have z4 := zc 4 (by decide); have z5 := zc 5 (by decide); have z6 := zc 6 (by decide); have z7 := zc 7 (by decide); have f0 := zf 0; have f1 := zf 1; have f2 := zf 2; have f3 := zf 3; have f4 := zf 4; have f5 := zf 5; have f6 := zf 6; have f7 := zf 7; clear hz hz0 hx3 zc zf ZZ HXZ; go_wp2; refine bodyPost_ret (results_cell_tmp rfl _ _ w.heap.size #[U y0, U y1, U y2, U y3, U y4, U y5, U y6, U y7] rfl (run_loadVar_row _ w.heap.size 36 36 _ (0, 0) _ (set8_heap (unhide HH) (U y0) (U y1) (U y2) (U y3) (U y4) (U y5) (U y6) (U y7)) Tryz.underlying36 rfl (by kernel_rfl))) rfl ?_; exact ⟨rfl, set8_below (unhide HX) (Nat.le_refl _) _ _ _ _ _ _ _ _⟩
    · rw [if_neg hl] at NO ⊢; have HN := hide (unhide NO rfl); have HS : Hid (∀ v, Calls Tryz.prog 87 #[S r, .string ⟨#[93]⟩] v fun e w' => e = .returned (.tuple #[.string ⟨(Lib.trimSuffix r [93]).toArray⟩, .bool false]) ∧ w' = v) := fun v => by
        have := unhide HCS v; rw [show Lib.hasSuffix (⟨r.toArray⟩ : ByteArray).data.toList (⟨#[93]⟩ : ByteArray).data.toList = false from by rw [show (⟨r.toArray⟩ : ByteArray).data.toList = r from rfl, show (⟨#[93]⟩ : ByteArray).data.toList = [93] from rfl, hasX93]; simpa using hl] at this; exact this
      generalize Lib.trimSuffix r [93] = X at *; clear HCS hl NO; have HXZ := hide hxz; unfold Z8 at hz0 HXZ; clear hxz hs TB; go_enter Tryz.func51, Tryz.ntmps51; go_wp2_with fail
      refine (unhide HP _).mono ?_; rintro e w1 ⟨rfl, hw⟩; subst hw; clear HP; go_wp2_with fail
      refine (unhide HS _).mono ?_; rintro e w2 ⟨rfl, hw⟩; subst hw; clear HS; have HH := hide hz0; obtain ⟨zc, zf⟩ := ZZ w.heap.size _ hz0; have z0 := zc 0 (by decide); have z1 := zc 1 (by decide); have z2 := zc 2 (by decide); have z3 := zc 3 (by decide); have z4 := zc 4 (by decide); have z5 := zc 5 (by decide); have z6 := zc 6 (by decide); have z7 := zc 7 (by decide); have f0 := zf 0; have f1 := zf 1; have f2 := zf 2; have f3 := zf 3; have f4 := zf 4; have f5 := zf 5; have f6 := zf 6; have f7 := zf 7; clear hz0 zc zf ZZ; generalize w.alloc (.cells #[.int .u16 0, .int .u16 0, .int .u16 0, .int .u16 0, .int .u16 0, .int .u16 0, .int .u16 0, .int .u16 0] 36) = w3 at *; go_wp2; refine bodyPost_ret (results_cell_tmp rfl _ _ w.heap.size #[U 0, U 0, U 0, U 0, U 0, U 0, U 0, U 0] rfl (run_loadVar_row _ w.heap.size 36 36 _ (0, 0) _ (set8_heap (unhide HH) (U 0) (U 0) (U 0) (U 0) (U 0) (U 0) (U 0) (U 0)) Tryz.underlying36 rfl (by kernel_rfl))) rfl ?_; exact ⟨unhide HN, set8_below (unhide HXZ) (Nat.le_refl _) _ _ _ _ _ _ _ _⟩
  · have HN := hide (unhide NO (longO_no hb)); have hno := longO_no hb; have HP : Hid (∀ v, Calls Tryz.prog 86 #[S s, .string ⟨#[91]⟩] v fun e w' => e = .returned (.tuple #[S s, .bool false]) ∧ w' = v) := fun v => by
      have := unhide HCP v; have hp : Lib.hasPrefix s [91] = false := by rw [hasP]; simpa using hb
      rw [show Lib.trimPrefix (⟨s.toArray⟩ : ByteArray).data.toList (⟨#[91]⟩ : ByteArray).data.toList = s from by
        show Lib.trimPrefix s [91] = s; unfold Lib.trimPrefix; rw [hp]; rfl, show Lib.hasPrefix (⟨s.toArray⟩ : ByteArray).data.toList (⟨#[91]⟩ : ByteArray).data.toList = false from hp] at this
      exact this
    have HS : Hid (∀ v, Calls Tryz.prog 87 #[S s, .string ⟨#[93]⟩] v fun e w' => e = .returned (.tuple #[.string ⟨(Lib.trimSuffix s [93]).toArray⟩, .bool (Lib.hasSuffix s [93])]) ∧ w' = v) := fun v => Tryz.strings_CutSuffix ⟨s.toArray⟩ ⟨#[93]⟩ v (by rw [size_S]; omega); generalize Lib.trimSuffix s [93] = X at *; generalize Lib.hasSuffix s [93] = cb at *; clear HCP hb NO hno; have HXZ := hide hxz; unfold Z8 at hz0 HXZ; clear hxz hs TB; go_enter Tryz.func51, Tryz.ntmps51; go_wp2_with fail
    refine (unhide HP _).mono ?_; rintro e w1 ⟨rfl, hw⟩; subst hw; clear HP; go_wp2_with fail
    refine (unhide HS _).mono ?_; rintro e w2 ⟨rfl, hw⟩; subst hw; clear HS; have HH := hide hz0; obtain ⟨zc, zf⟩ := ZZ w.heap.size _ hz0; have z0 := zc 0 (by decide); have z1 := zc 1 (by decide); have z2 := zc 2 (by decide); have z3 := zc 3 (by decide); have z4 := zc 4 (by decide); have z5 := zc 5 (by decide); have z6 := zc 6 (by decide); have z7 := zc 7 (by decide); have f0 := zf 0; have f1 := zf 1; have f2 := zf 2; have f3 := zf 3; have f4 := zf 4; have f5 := zf 5; have f6 := zf 6; have f7 := zf 7; clear hz0 zc zf ZZ; generalize w.alloc (.cells #[.int .u16 0, .int .u16 0, .int .u16 0, .int .u16 0, .int .u16 0, .int .u16 0, .int .u16 0, .int .u16 0] 36) = w3 at *; go_wp2; refine bodyPost_ret (results_cell_tmp rfl _ _ w.heap.size #[U 0, U 0, U 0, U 0, U 0, U 0, U 0, U 0] rfl (run_loadVar_row _ w.heap.size 36 36 _ (0, 0) _ (set8_heap (unhide HH) (U 0) (U 0) (U 0) (U 0) (U 0) (U 0) (U 0) (U 0)) Tryz.underlying36 rfl (by kernel_rfl))) rfl ?_; exact ⟨unhide HN, set8_below (unhide HXZ) (Nat.le_refl _) _ _ _ _ _ _ _ _⟩
end Go.Proofs.YtenlampiiodkhaaGreatDoor
namespace Go.Proofs.YtenlampiiodkhaaGreatDoor
set_option linter.unusedVariables false
open Go.RowKit
theorem catB (x y : List UInt8) : (⟨x.toArray⟩ : ByteArray) ++ (⟨y.toArray⟩ : ByteArray) = ⟨(x ++ y).toArray⟩ := by
  apply ByteArray.ext; rw [ByteArray.data_append]; simp
theorem V8_agg (a : List Nat) (h : a.length = 8) : ∃ x0 x1 x2 x3 x4 x5 x6 x7, a = [x0, x1, x2, x3, x4, x5, x6, x7] ∧ V8 a = .agg #[U x0, U x1, U x2, U x3, U x4, U x5, U x6, U x7] := by
  match a, h with
  | [x0, x1, x2, x3, x4, x5, x6, x7], _ => exact ⟨x0, x1, x2, x3, x4, x5, x6, x7, rfl, rfl⟩
set_option maxHeartbeats 2000000 in
set_option maxRecDepth 100000 in
theorem showlong_any (x0 x1 x2 x3 x4 x5 x6 x7 : Nat) (w : World) (hsm : i6small [x0, x1, x2, x3, x4, x5, x6, x7]) (tb : Tb8 w) :
    Calls Tryz.prog 52 #[.agg #[U x0, U x1, U x2, U x3, U x4, U x5, U x6, U x7]] w fun e w' => e = .returned (S (shL [x0, x1, x2, x3, x4, x5, x6, x7])) ∧ Ext w w' := by
  have hxa : Ext w (w.alloc (.cells #[U x0, U x1, U x2, U x3, U x4, U x5, U x6, U x7] 36)) := Ext.alloc _ _; have hA : (w.alloc (.cells #[U x0, U x1, U x2, U x3, U x4, U x5, U x6, U x7] 36)).heap[w.heap.size]? = some (.cells #[U x0, U x1, U x2, U x3, U x4, U x5, U x6, U x7] 36 (0, 0)) := alloc_new _ _; have HS := hide (show6_any x0 x1 x2 x3 x4 x5 x6 x7 _ hsm (tb.below hxa)); have hl := shw6_len [x0, x1, x2, x3, x4, x5, x6, x7] rfl hsm; unfold shL; generalize shw6 [x0, x1, x2, x3, x4, x5, x6, x7] = z at *; have hc1 : (⟨#[91]⟩ : ByteArray) ++ (⟨z.toArray⟩ : ByteArray) = ⟨(91 :: z).toArray⟩ := catB [91] z; have hc2 : (⟨(91 :: z).toArray⟩ : ByteArray) ++ (⟨#[93]⟩ : ByteArray) = ⟨(91 :: (z ++ [93])).toArray⟩ := catB (91 :: z) [93]; have n1 : ¬ 9223372036854775807 < 1 + z.length := by omega
  have n2 : ¬ 9223372036854775807 < (91 :: z).length + 1 := by simp; omega
  have hld := load_8q hA; have HX := hide hxa; clear tb hsm hxa hA hl; generalize hQ : (91 :: (z ++ [93])) = ZZ at *; clear hQ; generalize hQ1 : (91 :: z) = Z1 at *; clear hQ1; go_enter Tryz.func52, Tryz.ntmps52; go_wp2_with fail
  refine (unhide HS).mono ?_; rintro e w2 ⟨rfl, hx2⟩; clear HS hld; have HX2 := hide ((unhide HX).trans hx2); clear HX hx2; go_wp2; go_ret; exact ⟨rfl, unhide HX2⟩
set_option maxHeartbeats 2000000 in
set_option maxRecDepth 100000 in
theorem parselong_any (s : List UInt8) (w : World) (hs : s.length ≤ 100000) (tb : Tb8 w) :
    Calls Tryz.prog 41 #[S s] w fun e w' => e = .returned (.tuple #[S (nS ((longO s).map shL)), .int .i64 (nE ((longO s).map shL))]) ∧ Ext w w' := by
  have HR := hide (readlong_any s w hs tb); have TB := hide (fun (w' : World) (hx : Ext w w') => tb.below hx); clear tb
  cases ho : longO s with
  | none =>
    rw [ho] at HR; have HR2 : Hid (Calls Tryz.prog 51 #[S s] w fun e w' => e = .returned (.tuple #[.agg #[U 0, U 0, U 0, U 0, U 0, U 0, U 0, U 0], .int .i64 5]) ∧ Ext w w') := HR; clear HR ho TB; go_enter Tryz.func41, Tryz.ntmps41; go_wp2_with fail
    refine (unhide HR2).mono ?_; rintro e w1 ⟨rfl, hx1⟩; clear HR2; have hx2 := hx1.trans (Ext.alloc w1 (.cells #[U 0, U 0, U 0, U 0, U 0, U 0, U 0, U 0] 36)); clear hx1; go_wp2; go_ret2; exact ⟨rfl, hx2⟩
  | some a =>
    obtain ⟨h8, hsm⟩ := longO_good ho; obtain ⟨x0, x1, x2, x3, x4, x5, x6, x7, rfl, hV⟩ := V8_agg a h8; rw [ho] at HR; have HR2 : Hid (Calls Tryz.prog 51 #[S s] w fun e w' => e = .returned (.tuple #[.agg #[U x0, U x1, U x2, U x3, U x4, U x5, U x6, U x7], .int .i64 0]) ∧ Ext w w') := HR; have HS := hide (fun v (hv : Ext w v) => showlong_any x0 x1 x2 x3 x4 x5 x6 x7 v hsm (unhide TB v hv)); have FIN : Hid (Ending.returned (.tuple #[S (shL [x0, x1, x2, x3, x4, x5, x6, x7]), .int .i64 0]) = .returned (.tuple #[S (nS ((some [x0, x1, x2, x3, x4, x5, x6, x7]).map shL)), .int .i64 (nE ((some [x0, x1, x2, x3, x4, x5, x6, x7]).map shL))])) := rfl; clear HR ho TB hV h8 hsm; generalize nS ((some [x0, x1, x2, x3, x4, x5, x6, x7]).map shL) = zs at *; generalize nE ((some [x0, x1, x2, x3, x4, x5, x6, x7]).map shL) = ze at *; generalize shL [x0, x1, x2, x3, x4, x5, x6, x7] = T at *; go_enter Tryz.func41, Tryz.ntmps41; go_wp2_with fail
    refine (unhide HR2).mono ?_; rintro e w1 ⟨rfl, hx1⟩; clear HR2; have hx2 := hx1.trans (Ext.alloc w1 (.cells #[U x0, U x1, U x2, U x3, U x4, U x5, U x6, U x7] 36)); have hld := load_8q (alloc_new w1 (.cells #[U x0, U x1, U x2, U x3, U x4, U x5, U x6, U x7] 36)); have HS2 := hide (unhide HS _ hx2); have HX := hide hx2; clear hx1 HS hx2; go_wp2_with fail
    refine (unhide HS2).mono ?_; rintro e w3 ⟨rfl, hx3⟩; have HX2 := hide ((unhide HX).trans hx3); clear HS2 hld HX hx3; go_wp2; go_ret2; exact ⟨unhide FIN, unhide HX2⟩
set_option maxHeartbeats 2000000 in
set_option maxRecDepth 100000 in
theorem parsename_any (s : List UInt8) (w : World) (hs : s.length ≤ 100000) (tb : Tb9 w) :
    Calls Tryz.prog 42 #[S s] w fun e w' => e = .returned (.tuple #[S (nS (nameO s)), .int .i64 (nE (nameO s))]) ∧ Ext w w' := by
  have HD := hide (pct_decode s w (by omega)); have hdl := Pct.decd_len s; have HA := hide (fun (v : World) (hv : Ext w v) ao l cap (hl : (Pct.decd s).length = l) h => ascii_any ao l cap (Pct.decd s) v hl h (tb.six.tab.below hv)); have TB := hide (fun (w' : World) (hx : Ext w w') => (tb.below hx).eight.four); clear tb; unfold nameO; generalize Pct.decd s = d at *
  cases hn : nam d with
  | none =>
    rw [hn] at HA; have HA2 : Hid (∀ (v : World), Ext w v → ∀ ao l cap, d.length = l → RdV v ao cap (d.map B) → Calls Tryz.prog 9 #[.slice ao l cap] v fun e w' => e = .returned (.tuple #[.string ⟨#[]⟩, .int .i64 5]) ∧ Ext v w') := HA; clear HA hn TB; go_enter Tryz.func42, Tryz.ntmps42; go_wp2_with fail
    refine (unhide HD).mono ?_; rintro e w1 ⟨v, rfl, own, hx1⟩; clear HD; obtain ⟨ao, cap, rfl, hr, hnl⟩ := RdV.of_owned own; have HA3 := hide (unhide HA2 w1 hx1 ao d.length cap rfl hr); have HX := hide hx1; clear HA2 own hr hnl hx1; go_wp2_with fail
    refine (unhide HA3).mono ?_; rintro e w2 ⟨rfl, hx2⟩; have HX2 := hide (Ext.trans (unhide HX) hx2); clear HA3 HX hx2; go_wp2; go_ret2; exact ⟨rfl, unhide HX2⟩
  | some n =>
    rw [hn] at HA; have HA2 : Hid (∀ (v : World), Ext w v → ∀ ao l cap, d.length = l → RdV v ao cap (d.map B) → Calls Tryz.prog 9 #[.slice ao l cap] v fun e w' => e = .returned (.tuple #[S n, .int .i64 0]) ∧ Ext v w') := HA; have hnl := (nam_stays hn).2.2; have HE := hide (fun v => ends_any n v (by omega)); show Calls _ _ _ _ fun e w' => e = .returned (.tuple #[S (nS (if ends n = true then (prs n).map shw else some n)), .int .i64 (nE (if ends n = true then (prs n).map shw else some n))]) ∧ Ext w w'
    cases he : ends n with
    | false =>
      rw [he] at HE; rw [if_neg (by simp)]; have FIN : Hid (Ending.returned (.tuple #[S n, .int .i64 0]) = .returned (.tuple #[S (nS (some n)), .int .i64 (nE (some n))])) := rfl; generalize nS (some n) = zs at *; generalize nE (some n) = ze at *; clear HA hn TB he; go_enter Tryz.func42, Tryz.ntmps42; go_wp2_with fail
      refine (unhide HD).mono ?_; rintro e w1 ⟨v, rfl, own, hx1⟩; clear HD; obtain ⟨ao, cap, rfl, hr, _⟩ := RdV.of_owned own; have HA3 := hide (unhide HA2 w1 hx1 ao d.length cap rfl hr); have HX := hide hx1; clear HA2 own hr hx1; go_wp2_with fail
      refine (unhide HA3).mono ?_; rintro e w2 ⟨rfl, hx2⟩; have HX2 := hide (Ext.trans (unhide HX) hx2); clear HA3 HX hx2; go_wp2_with fail
      refine (unhide HE _).mono ?_; rintro e w3 ⟨rfl, hw⟩; subst hw; clear HE; go_wp2; go_ret2; exact ⟨unhide FIN, unhide HX2⟩
    | true =>
      rw [he] at HE; rw [if_pos rfl]; have HP := hide (fun v (hv : Ext w v) => parse_any n v (by omega) (unhide TB v hv))
      cases hp : prs n with
      | none =>
        rw [hp] at HP; have HP2 : Hid (∀ v, Ext w v → Calls Tryz.prog 49 #[S n] v fun e w' => e = .returned (.tuple #[.int .u32 0, .int .i64 5]) ∧ Ext v w') := HP; clear HA hn TB he HP hp; go_enter Tryz.func42, Tryz.ntmps42; go_wp2_with fail
        refine (unhide HD).mono ?_; rintro e w1 ⟨v, rfl, own, hx1⟩; clear HD; obtain ⟨ao, cap, rfl, hr, _⟩ := RdV.of_owned own; have HA3 := hide (unhide HA2 w1 hx1 ao d.length cap rfl hr); have HX := hide hx1; clear HA2 own hr hx1; go_wp2_with fail
        refine (unhide HA3).mono ?_; rintro e w2 ⟨rfl, hx2⟩; have HX2 := hide (Ext.trans (unhide HX) hx2); clear HA3 HX hx2; go_wp2_with fail
        refine (unhide HE _).mono ?_; rintro e w3 ⟨rfl, hw⟩; subst hw; clear HE; have HP3 := hide (unhide HP2 _ (unhide HX2)); clear HP2; go_wp2_with fail
        refine (unhide HP3).mono ?_; rintro e w4 ⟨rfl, hx4⟩; have HX4 := hide ((unhide HX2).trans hx4); clear HP3 HX2 hx4; go_wp2; go_ret2; exact ⟨rfl, unhide HX4⟩
      | some a =>
        have hlt := prs_lt hp; rw [hp] at HP; have HP2 : Hid (∀ v, Ext w v → Calls Tryz.prog 49 #[S n] v fun e w' => e = .returned (.tuple #[.int .u32 (a : Int), .int .i64 0]) ∧ Ext v w') := HP; have HS := hide (fun v (hv : Ext w v) => show_any a v hlt (unhide TB v hv)); have FIN : Hid (Ending.returned (.tuple #[S (shw a), .int .i64 0]) = .returned (.tuple #[S (nS ((some a).map shw)), .int .i64 (nE ((some a).map shw))])) := rfl; generalize nS ((some a).map shw) = zs at *; generalize nE ((some a).map shw) = ze at *; generalize shw a = T at *; clear HA hn TB he HP hp; go_enter Tryz.func42, Tryz.ntmps42; go_wp2_with fail
        refine (unhide HD).mono ?_; rintro e w1 ⟨v, rfl, own, hx1⟩; clear HD; obtain ⟨ao, cap, rfl, hr, _⟩ := RdV.of_owned own; have HA3 := hide (unhide HA2 w1 hx1 ao d.length cap rfl hr); have HX := hide hx1; clear HA2 own hr hx1; go_wp2_with fail
        refine (unhide HA3).mono ?_; rintro e w2 ⟨rfl, hx2⟩; have HX2 := hide (Ext.trans (unhide HX) hx2); clear HA3 HX hx2; go_wp2_with fail
        refine (unhide HE _).mono ?_; rintro e w3 ⟨rfl, hw⟩; subst hw; clear HE; have HP3 := hide (unhide HP2 _ (unhide HX2)); clear HP2; go_wp2_with fail
        refine (unhide HP3).mono ?_; rintro e w4 ⟨rfl, hx4⟩; have HX4 := hide ((unhide HX2).trans hx4); have HS2 := hide (unhide HS _ (unhide HX4)); clear HP3 HX2 hx4 HS; go_wp2_with fail
        refine (unhide HS2).mono ?_; rintro e w5 ⟨rfl, hx5⟩; have HX5 := hide ((unhide HX4).trans hx5); clear HS2 HX4 hx5; go_wp2; go_ret2; exact ⟨unhide FIN, unhide HX5⟩
set_option maxHeartbeats 2000000 in
set_option maxRecDepth 100000 in
theorem parseother_any (s : List UInt8) (w : World) (hs : s.length ≤ 100000) :
    Calls Tryz.prog 43 #[S s] w fun e w' => e = .returned (.tuple #[S (nS (otherO s)), .int .i64 (nE (otherO s))]) ∧ Ext w w' := by
  have HC : Hid (Calls Tryz.prog 73 #[S s, .string ⟨#[0, 9, 10, 13, 32, 35, 47, 58, 60, 62, 63, 64, 91, 92, 93, 94, 124]⟩] w fun e w' => e = .returned (.bool (s.any noH.contains)) ∧ Ext w w') := cany_any s w (by omega); unfold otherO
  cases hc : s.any noH.contains with
  | true =>
    rw [hc] at HC; rw [if_pos rfl]; clear hc; go_enter Tryz.func43, Tryz.ntmps43; go_wp2_with fail
    refine (unhide HC).mono ?_; rintro e w1 ⟨rfl, hx1⟩; clear HC; go_wp2; go_ret2; exact ⟨rfl, hx1⟩
  | false =>
    rw [hc] at HC; rw [if_neg (by simp)]; have HE := hide (fun (v : World) ao cap h => pct_encode 0 ao s.length cap s v rfl (by omega) h); have FIN : Hid (Ending.returned (.tuple #[S (Pct.encd 0 s), .int .i64 0]) = .returned (.tuple #[S (nS (some (Pct.encd 0 s))), .int .i64 (nE (some (Pct.encd 0 s)))])) := rfl; generalize nS (some (Pct.encd 0 s)) = zs at *; generalize nE (some (Pct.encd 0 s)) = ze at *; generalize Pct.encd 0 s = T at *; clear hc; go_enter Tryz.func43, Tryz.ntmps43; go_wp2_with fail
    refine (unhide HC).mono ?_; rintro e w1 ⟨rfl, hx1⟩; clear HC; obtain ⟨c2, w2, hcv, hr2, hx2⟩ := conv_bytes w1 s (by omega); have HE2 := hide (unhide HE w2 _ c2 hr2); have HX := hide (hx1.trans hx2); clear HE hr2 hx1 hx2; go_wp2_with fail
    refine (unhide HE2).mono ?_; rintro e w3 ⟨rfl, hx3⟩; have HX3 := hide ((unhide HX).trans hx3); clear HE2 HX hx3 hcv; go_wp2; go_ret2; exact ⟨unhide FIN, unhide HX3⟩
set_option maxHeartbeats 2000000 in
set_option maxRecDepth 100000 in
theorem hparse_any (s : List UInt8) (sp : Bool) (w : World) (hs : s.length ≤ 100000) (tb : Tb9 w) :
    Calls Tryz.prog 15 #[S s, .bool sp] w fun e w' => e = .returned (.tuple #[S (nS (hostO sp s)), .int .i64 (nE (hostO sp s))]) ∧ Ext w w' := by
  have HP : Hid (∀ v, Calls Tryz.prog 40 #[S s, .string ⟨#[91]⟩] v fun e w' => e = .returned (.bool (decide (s.head? = some 91))) ∧ w' = v) := fun v => by
    have := Tryz.strings_HasPrefix ⟨s.toArray⟩ ⟨#[91]⟩ v; rw [show Lib.hasPrefix (⟨s.toArray⟩ : ByteArray).data.toList (⟨#[91]⟩ : ByteArray).data.toList = decide (s.head? = some 91) from hasP 91 s] at this; exact this
  have HL := hide (fun v (hv : Ext w v) => parselong_any s v hs (tb.eight.below hv)); have HN := hide (fun v (hv : Ext w v) => parsename_any s v hs (tb.below hv)); have HO := hide (fun v => parseother_any s v hs); have hrf := Ext.refl w; clear tb; unfold hostO; by_cases hb : s.head? = some 91
  · rw [decide_eq_true hb] at HP; rw [if_pos hb]; have HL2 := hide (unhide HL w hrf); clear HN HO hb HL; generalize nS ((longO s).map shL) = zs at *; generalize nE ((longO s).map shL) = ze at *; go_enter Tryz.func15, Tryz.ntmps15; go_wp2_with fail
    refine (unhide HP _).mono ?_; rintro e w1 ⟨rfl, hw⟩; have hw3 := hw.symm; clear hw; subst hw3; clear HP; go_wp2_with fail
    refine (unhide HL2).mono ?_; rintro e w2 ⟨rfl, hx2⟩; clear HL2; go_wp2; go_ret2; exact ⟨rfl, hx2⟩
  · rw [decide_eq_false hb] at HP; rw [if_neg hb]
    cases sp with
    | true =>
      rw [if_pos rfl]; have HL2 := hide (unhide HN w hrf); clear HN HO hb HL; generalize nS (nameO s) = zs at *; generalize nE (nameO s) = ze at *; go_enter Tryz.func15, Tryz.ntmps15; go_wp2_with fail
      refine (unhide HP _).mono ?_; rintro e w1 ⟨rfl, hw⟩; have hw3 := hw.symm; clear hw; subst hw3; clear HP; go_wp2_with fail
      refine (unhide HL2).mono ?_; rintro e w2 ⟨rfl, hx2⟩; clear HL2; go_wp2; go_ret2; exact ⟨rfl, hx2⟩
    | false =>
      rw [if_neg (by simp)]; have HL2 := hide (unhide HO w); clear HN HO hb HL; generalize nS (otherO s) = zs at *; generalize nE (otherO s) = ze at *; go_enter Tryz.func15, Tryz.ntmps15; go_wp2_with fail
      refine (unhide HP _).mono ?_; rintro e w1 ⟨rfl, hw⟩; have hw3 := hw.symm; clear hw; subst hw3; clear HP; go_wp2_with fail
      refine (unhide HL2).mono ?_; rintro e w2 ⟨rfl, hx2⟩; clear HL2; go_wp2; go_ret2; exact ⟨rfl, hx2⟩
end Go.Proofs.YtenlampiiodkhaaGreatDoor
