/-
  HoD, HoE.
-/
import Derived.Test.YtenlampiiodkhaaGreatDoorCBc
namespace Go.Proofs.YtenlampiiodkhaaGreatDoor
set_option linter.unusedVariables false
open Go.RowKit
theorem S_ne {x y : List UInt8} (h : x ≠ y) : ¬ ((⟨x.toArray⟩ : ByteArray) = ⟨y.toArray⟩) := fun e => h (by
  have := congrArg (fun b : ByteArray => b.data.toList) e; simpa using this)
set_option maxHeartbeats 2000000 in
set_option maxRecDepth 100000 in
theorem hip4_any (t : List UInt8) (w : World) (hs : t.length ≤ 100000) (tb : Tb4 w) :
    Calls Tryz.prog 17 #[S t] w fun e w' => e = .returned (.tuple #[.int .u32 (numV (ip4O t)), .bool (ip4O t).isSome]) ∧ Ext w w' := by
  have HP := hide (parse_any t w hs tb); have TB := hide (fun (w' : World) (hx : Ext w w') => tb.below hx); clear tb
  cases hp : prs t with
  | none =>
    rw [hp] at HP; have HP2 : Hid (Calls Tryz.prog 49 #[S t] w fun e w' => e = .returned (.tuple #[.int .u32 0, .int .i64 5]) ∧ Ext w w') := HP; have ho : ip4O t = none := by unfold ip4O; rw [hp]; rfl
    rw [ho]; clear HP hp ho TB; go_enter Tryz.func17, Tryz.ntmps17; go_wp2_with fail
    refine (unhide HP2).mono ?_; rintro e w1 ⟨rfl, hx1⟩; clear HP2; go_wp2; go_ret2; exact ⟨rfl, hx1⟩
  | some a =>
    have hlt := prs_lt hp; rw [hp] at HP; have HP2 : Hid (Calls Tryz.prog 49 #[S t] w fun e w' => e = .returned (.tuple #[.int .u32 (a : Int), .int .i64 0]) ∧ Ext w w') := HP; have HS := hide (fun v (hv : Ext w v) => show_any a v hlt (unhide TB v hv)); by_cases he : shw a = t
    · have ho : ip4O t = some a := by
        unfold ip4O; rw [hp]; show (if shw a = t then some a else none) = _; rw [if_pos he]
      rw [ho]; rw [he] at HS; have FIN : Hid (Ending.returned (.tuple #[.int .u32 (a : Int), .bool true]) = .returned (.tuple #[.int .u32 (numV (some a)), .bool (some a).isSome])) := rfl; generalize numV (some a) = nv at *; clear HP hp ho TB he hlt; go_enter Tryz.func17, Tryz.ntmps17; go_wp2_with fail
      refine (unhide HP2).mono ?_; rintro e w1 ⟨rfl, hx1⟩; have HS2 := hide (unhide HS _ hx1); have HX := hide hx1; clear HP2 HS hx1; go_wp2_with fail
      refine (unhide HS2).mono ?_; rintro e w2 ⟨rfl, hx2⟩; have HX2 := hide ((unhide HX).trans hx2); clear HS2 HX hx2; go_wp2; go_ret2; exact ⟨unhide FIN, unhide HX2⟩
    · have ho : ip4O t = none := by
        unfold ip4O; rw [hp]; show (if shw a = t then some a else none) = _; rw [if_neg he]
      rw [ho]; have hne := S_ne he; have hnb : (shw a == t) = false := by simpa using he
      generalize shw a = T at *; clear HP hp ho TB he hlt; go_enter Tryz.func17, Tryz.ntmps17; go_wp2_with fail
      refine (unhide HP2).mono ?_; rintro e w1 ⟨rfl, hx1⟩; have HS2 := hide (unhide HS _ hx1); have HX := hide hx1; clear HP2 HS hx1; go_wp2_with fail
      refine (unhide HS2).mono ?_; rintro e w2 ⟨rfl, hx2⟩; have HX2 := hide ((unhide HX).trans hx2); clear HS2 HX hx2; go_wp2; go_ret2; exact ⟨rfl, unhide HX2⟩
set_option maxHeartbeats 4000000 in
set_option maxRecDepth 100000 in
theorem hip6_any (t : List UInt8) (w : World) (hs : t.length ≤ 100000) (tb : Tb8 w) :
    Calls Tryz.prog 19 #[S t] w fun e w' => e = .returned (.tuple #[V8 (aO (ip6O t)), .bool (ip6O t).isSome]) ∧ Ext w w' := by
  have hz0 := Z8_new w; have hxz := Z8_ext w; have HR := hide (readlong_any t (Z8 w) hs (tb.below hxz)); have TB := hide (fun (w' : World) (hx : Ext w w') => tb.below hx); have ZZ := fun (g : Nat) (wz : World) (h : wz.heap[g]? = some (.cells (List.replicate 8 (U 0)).toArray 36 (0, 0))) => (And.intro (fun i hi => cells_zero h i hi) (fun i => froz8 h i)); clear tb
  cases hp : longO t with
  | none =>
    rw [hp] at HR; have HR2 : Hid (Calls Tryz.prog 51 #[S t] (Z8 w) fun e w' => e = .returned (.tuple #[.agg #[.int .u16 0, .int .u16 0, .int .u16 0, .int .u16 0, .int .u16 0, .int .u16 0, .int .u16 0, .int .u16 0], .int .i64 5]) ∧ Ext (Z8 w) w') := HR; have ho : ip6O t = none := by unfold ip6O; rw [hp]; rfl
    have FIN : Hid (Ending.returned (.tuple #[.agg #[U 0, U 0, U 0, U 0, U 0, U 0, U 0, U 0], .bool false]) = .returned (.tuple #[V8 (aO (ip6O t)), .bool (ip6O t).isSome])) := by rw [ho]; rfl
    generalize V8 (aO (ip6O t)) = zv at *; generalize (ip6O t).isSome = zb' at *; clear HR hp ho TB; unfold Z8 at hz0 hxz HR2; go_enter Tryz.func19, Tryz.ntmps19; go_wp2_with fail
    refine (unhide HR2).mono ?_; rintro e w1 ⟨rfl, hx1⟩; clear HR2; have hx3 := hx1.trans (Ext.alloc w1 (.cells #[.int .u16 0, .int .u16 0, .int .u16 0, .int .u16 0, .int .u16 0, .int .u16 0, .int .u16 0, .int .u16 0] 36)); have hz := heap_ext hz0 hx3; have HH := hide hz; have HX := hide (hxz.trans hx3); obtain ⟨zc, zf⟩ := ZZ w.heap.size _ hz; have z0 := zc 0 (by decide); have z1 := zc 1 (by decide); have z2 := zc 2 (by decide); have z3 := zc 3 (by decide); have z4 := zc 4 (by decide); have z5 := zc 5 (by decide); have z6 := zc 6 (by decide); have z7 := zc 7 (by decide); have f0 := zf 0; have f1 := zf 1; have f2 := zf 2; have f3 := zf 3; have f4 := zf 4; have f5 := zf 5; have f6 := zf 6; have f7 := zf 7; clear hz hz0 hx3 hx1 hxz zc zf ZZ; go_wp2; refine bodyPost_ret (results_cell_tmp rfl _ _ w.heap.size #[U 0, U 0, U 0, U 0, U 0, U 0, U 0, U 0] rfl (run_loadVar_row _ w.heap.size 36 36 _ (0, 0) _ (set8_heap (unhide HH) (U 0) (U 0) (U 0) (U 0) (U 0) (U 0) (U 0) (U 0)) Tryz.underlying36 rfl (by kernel_rfl))) rfl ?_; exact ⟨unhide FIN, set8_below (unhide HX) (Nat.le_refl _) _ _ _ _ _ _ _ _⟩
  | some a =>
    obtain ⟨h8, hsm⟩ := longO_good hp; obtain ⟨x0, x1, x2, x3, x4, x5, x6, x7, rfl, hV⟩ := V8_agg a h8; rw [hp] at HR; have HR2 : Hid (Calls Tryz.prog 51 #[S t] (Z8 w) fun e w' => e = .returned (.tuple #[.agg #[U x0, U x1, U x2, U x3, U x4, U x5, U x6, U x7], .int .i64 0]) ∧ Ext (Z8 w) w') := HR; have HS := hide (fun v (hv : Ext w v) => showlong_any x0 x1 x2 x3 x4 x5 x6 x7 v hsm (unhide TB v hv)); by_cases he : shL [x0, x1, x2, x3, x4, x5, x6, x7] = t
    · have ho : ip6O t = some [x0, x1, x2, x3, x4, x5, x6, x7] := by
        unfold ip6O; rw [hp]; show (if shL [x0, x1, x2, x3, x4, x5, x6, x7] = t then some [x0, x1, x2, x3, x4, x5, x6, x7] else none) = _; rw [if_pos he]
      have FIN : Hid (Ending.returned (.tuple #[.agg #[U x0, U x1, U x2, U x3, U x4, U x5, U x6, U x7], .bool true]) = .returned (.tuple #[V8 (aO (ip6O t)), .bool (ip6O t).isSome])) := by rw [ho]; rfl
      rw [he] at HS; generalize V8 (aO (ip6O t)) = zv at *; generalize (ip6O t).isSome = zb' at *; clear HR hp ho TB he h8 hsm hV; unfold Z8 at hz0 hxz HR2; go_enter Tryz.func19, Tryz.ntmps19; go_wp2_with fail
      refine (unhide HR2).mono ?_; rintro e w1 ⟨rfl, hx1⟩; clear HR2; have hx2 := hx1.trans (Ext.alloc w1 (.cells #[U x0, U x1, U x2, U x3, U x4, U x5, U x6, U x7] 36)); have hn1 := alloc_new w1 (.cells #[U x0, U x1, U x2, U x3, U x4, U x5, U x6, U x7] 36); have hld := load_8q hn1; have HZ := hide (heap_ext hz0 hx2); have HX := hide (hxz.trans hx2); have HS2 := hide (unhide HS _ (hxz.trans hx2)); have HN := hide hn1; clear hz0 hx2 hx1 hxz HS hn1; go_wp2_with fail
      refine (unhide HS2).mono ?_; rintro e w5 ⟨rfl, hx5⟩; clear HS2 hld; obtain ⟨d0, d1, d2, d3, d4, d5, d6, d7⟩ := cells8of (heap_ext (unhide HN) hx5); have hz := heap_ext (unhide HZ) hx5; have HH := hide hz; have HX5 := hide ((unhide HX).trans hx5); obtain ⟨zc, zf⟩ := ZZ w.heap.size _ hz; have z0 := zc 0 (by decide); have z1 := zc 1 (by decide); have z2 := zc 2 (by decide); have z3 := zc 3 (by decide); have z4 := zc 4 (by decide); have z5 := zc 5 (by decide); have z6 := zc 6 (by decide); have z7 := zc 7 (by decide); have f0 := zf 0; have f1 := zf 1; have f2 := zf 2; have f3 := zf 3; have f4 := zf 4; have f5 := zf 5; have f6 := zf 6; have f7 := zf 7; clear hz hx5 zc zf ZZ HZ HX HN; go_wp2; refine bodyPost_ret (results_cell_tmp rfl _ _ w.heap.size #[U x0, U x1, U x2, U x3, U x4, U x5, U x6, U x7] rfl (run_loadVar_row _ w.heap.size 36 36 _ (0, 0) _ (set8_heap (unhide HH) (U x0) (U x1) (U x2) (U x3) (U x4) (U x5) (U x6) (U x7)) Tryz.underlying36 rfl (by kernel_rfl))) rfl ?_; exact ⟨unhide FIN, set8_below (unhide HX5) (Nat.le_refl _) _ _ _ _ _ _ _ _⟩
    · have ho : ip6O t = none := by
        unfold ip6O; rw [hp]; show (if shL [x0, x1, x2, x3, x4, x5, x6, x7] = t then some [x0, x1, x2, x3, x4, x5, x6, x7] else none) = _; rw [if_neg he]
      have FIN : Hid (Ending.returned (.tuple #[.agg #[U 0, U 0, U 0, U 0, U 0, U 0, U 0, U 0], .bool false]) = .returned (.tuple #[V8 (aO (ip6O t)), .bool (ip6O t).isSome])) := by rw [ho]; rfl
      generalize V8 (aO (ip6O t)) = zv at *; generalize (ip6O t).isSome = zb' at *; have hne := S_ne he; have hnb : (shL [x0, x1, x2, x3, x4, x5, x6, x7] == t) = false := by simpa using he
      generalize shL [x0, x1, x2, x3, x4, x5, x6, x7] = T at *; clear HR hp ho TB he h8 hsm hV; unfold Z8 at hz0 hxz HR2; go_enter Tryz.func19, Tryz.ntmps19; go_wp2_with fail
      refine (unhide HR2).mono ?_; rintro e w1 ⟨rfl, hx1⟩; clear HR2; have hx2 := hx1.trans (Ext.alloc w1 (.cells #[U x0, U x1, U x2, U x3, U x4, U x5, U x6, U x7] 36)); have hn1 := alloc_new w1 (.cells #[U x0, U x1, U x2, U x3, U x4, U x5, U x6, U x7] 36); have hld := load_8q hn1; have HZ := hide (heap_ext hz0 hx2); have HX := hide (hxz.trans hx2); have HS2 := hide (unhide HS _ (hxz.trans hx2)); have HN := hide hn1; clear hz0 hx2 hx1 hxz HS hn1; go_wp2_with fail
      refine (unhide HS2).mono ?_; rintro e w5 ⟨rfl, hx5⟩; clear HS2 hld; obtain ⟨d0, d1, d2, d3, d4, d5, d6, d7⟩ := cells8of (heap_ext (unhide HN) hx5); have hz := heap_ext (unhide HZ) hx5; have HH := hide hz; have HX5 := hide ((unhide HX).trans hx5); obtain ⟨zc, zf⟩ := ZZ w.heap.size _ hz; have z0 := zc 0 (by decide); have z1 := zc 1 (by decide); have z2 := zc 2 (by decide); have z3 := zc 3 (by decide); have z4 := zc 4 (by decide); have z5 := zc 5 (by decide); have z6 := zc 6 (by decide); have z7 := zc 7 (by decide); have f0 := zf 0; have f1 := zf 1; have f2 := zf 2; have f3 := zf 3; have f4 := zf 4; have f5 := zf 5; have f6 := zf 6; have f7 := zf 7; clear hz hx5 zc zf ZZ HZ HX HN; go_wp2; refine bodyPost_ret (results_cell_tmp rfl _ _ w.heap.size #[U 0, U 0, U 0, U 0, U 0, U 0, U 0, U 0] rfl (run_loadVar_row _ w.heap.size 36 36 _ (0, 0) _ (set8_heap (unhide HH) (U 0) (U 0) (U 0) (U 0) (U 0) (U 0) (U 0) (U 0)) Tryz.underlying36 rfl (by kernel_rfl))) rfl ?_; exact ⟨unhide FIN, set8_below (unhide HX5) (Nat.le_refl _) _ _ _ _ _ _ _ _⟩
end Go.Proofs.YtenlampiiodkhaaGreatDoor
namespace Go.Proofs.YtenlampiiodkhaaGreatDoor
set_option linter.unusedVariables false
open Go.RowKit
theorem hb_1 : hostF true [37, 52, 49, 46, 99, 111, 109] = some [97, 46, 99, 111, 109] := by decide +kernel
theorem hb_2 : hostF true [91, 58, 58, 48, 93] = some [91, 58, 58, 93] := by decide +kernel
theorem hb_3 : hostF false [65] = some [65] := by decide +kernel
theorem hb_4 : ip4O [49, 46, 50, 46, 51, 46, 52] = some 16909060 := by
  have e : ([49, 46, 50, 46, 51, 46, 52] : List UInt8) = shw 16909060 := by
    rw [shwF_eq _ (by decide)]; decide +kernel
  rw [e]; exact ip4_shw _ (by decide)
theorem hb_5 : ip6O [91, 58, 58, 93] = some [0, 0, 0, 0, 0, 0, 0, 0] := by
  have hs : i6small [0, 0, 0, 0, 0, 0, 0, 0] := small_dec _ (by decide); have e : ([91, 58, 58, 93] : List UInt8) = shL [0, 0, 0, 0, 0, 0, 0, 0] := by
    unfold shL; rw [shF_eq _ hs]; decide +kernel
  rw [e]; exact ip6_sh rfl hs
theorem hparse_lit (s : List UInt8) (sp : Bool) (o : Option (List UInt8)) (h : hostF sp s = o) (hs : s.length ≤ 100000) (w : World) (tb : Tb9 w) :
    Calls Tryz.prog 15 #[S s, .bool sp] w fun e w' => e = .returned (.tuple #[S (nS o), .int .i64 (nE o)]) ∧ Ext w w' := by
  rw [← h, ← hostF_eq]; exact hparse_any s sp w hs tb
set_option maxHeartbeats 4000000 in
set_option maxRecDepth 100000 in
theorem begun9_yes (w : World) (tb : Tb9 w) : Calls Tryz.prog 14 #[] w fun e w' => e = .returned (.bool true) ∧ Ext w w' := by
  have H1 : Hid (Calls Tryz.prog 15 #[.string ⟨#[37, 52, 49, 46, 99, 111, 109]⟩, .bool true] w fun e w' => e = .returned (.tuple #[.string ⟨#[97, 46, 99, 111, 109]⟩, .int .i64 0]) ∧ Ext w w') := hparse_lit _ _ _ hb_1 (by decide) w tb; have H2 : Hid (∀ v, Ext w v → Calls Tryz.prog 15 #[.string ⟨#[91, 58, 58, 48, 93]⟩, .bool true] v fun e w' => e = .returned (.tuple #[.string ⟨#[91, 58, 58, 93]⟩, .int .i64 0]) ∧ Ext v w') := fun v hv => hparse_lit _ _ _ hb_2 (by decide) v (tb.below hv); have H3 : Hid (∀ v, Ext w v → Calls Tryz.prog 15 #[.string ⟨#[65]⟩, .bool false] v fun e w' => e = .returned (.tuple #[.string ⟨#[65]⟩, .int .i64 0]) ∧ Ext v w') := fun v hv => hparse_lit _ _ _ hb_3 (by decide) v (tb.below hv); have H4 : Hid (∀ v, Ext w v → Calls Tryz.prog 17 #[.string ⟨#[49, 46, 50, 46, 51, 46, 52]⟩] v fun e w' => e = .returned (.tuple #[.int .u32 16909060, .bool true]) ∧ Ext v w') := fun v hv => by
    have := hip4_any [49, 46, 50, 46, 51, 46, 52] v (by decide) (tb.below hv).eight.four; rw [hb_4] at this; exact this
  have H5 : Hid (∀ v, Ext w v → Calls Tryz.prog 19 #[.string ⟨#[91, 58, 58, 93]⟩] v fun e w' => e = .returned (.tuple #[.agg #[.int .u16 0, .int .u16 0, .int .u16 0, .int .u16 0, .int .u16 0, .int .u16 0, .int .u16 0, .int .u16 0], .bool true]) ∧ Ext v w') := fun v hv => by
    have := hip6_any [91, 58, 58, 93] v (by decide) (tb.below hv).eight; rw [hb_5] at this; exact this
  clear tb; go_enter Tryz.func14, Tryz.ntmps14; go_wp2_with fail
  refine (unhide H1).mono ?_; rintro e w1 ⟨rfl, hx1⟩; clear H1; have HX := hide hx1; have G := hide (unhide H2 w1 hx1); clear H2 hx1; go_wp2_with fail
  refine (unhide G).mono ?_; rintro e w2 ⟨rfl, hy⟩; have hx2 := (unhide HX).trans hy; clear G HX hy; have HX := hide hx2; have G := hide (unhide H3 w2 hx2); clear H3 hx2; go_wp2_with fail
  refine (unhide G).mono ?_; rintro e w3 ⟨rfl, hy⟩; have hx3 := (unhide HX).trans hy; clear G HX hy; have HX := hide hx3; have G := hide (unhide H4 w3 hx3); clear H4 hx3; go_wp2_with fail
  refine (unhide G).mono ?_; rintro e w4 ⟨rfl, hy⟩; have hx4 := (unhide HX).trans hy; clear G HX hy; have HX := hide hx4; have G := hide (unhide H5 w4 hx4); clear H5 hx4; go_wp2_with fail
  refine (unhide G).mono ?_; rintro e w5 ⟨rfl, hy⟩; have HX5 := hide (((unhide HX).trans hy).trans (Ext.alloc w5 (.cells #[.int .u16 0, .int .u16 0, .int .u16 0, .int .u16 0, .int .u16 0, .int .u16 0, .int .u16 0, .int .u16 0] 36))); clear G HX hy; go_wp2; go_ret; exact ⟨rfl, unhide HX5⟩
end Go.Proofs.YtenlampiiodkhaaGreatDoor
