/-
  HoJ, HoK, HoM, HoN, HoO, HoR.
-/
import Derived.Test.YtenlampiiodkhaaGreatDoorCKc
import Derived.Test.YtenlampiiodkhaaGreatDoorCCc
import Derived.Test.YtenlampiiodkhaaGreatDoorBYc
namespace Go.Proofs.YtenlampiiodkhaaGreatDoor
set_option linter.unusedVariables false
open Go.RowKit
set_option maxHeartbeats 2000000 in
set_option maxRecDepth 100000 in
theorem rip4_any (t : List UInt8) (w : World) (hs : t.length ≤ 100000) :
    Calls Tryz.prog 18 #[S t] w fun e w' => e = .returned (.tuple #[.int .u32 (numV (ip4O t)), .bool (ip4O t).isSome]) ∧ Ext w w' := by
  have HP := hide (rparse_any t w hs)
  cases hp : prs t with
  | none =>
    rw [hp] at HP; have HP2 : Hid (Calls Tryz.prog 48 #[S t] w fun e w' => e = .returned (.tuple #[.int .u32 0, .int .i64 5]) ∧ Ext w w') := HP; have ho : ip4O t = none := by unfold ip4O; rw [hp]; rfl
    rw [ho]; clear HP hp ho; go_enter Tryz.func18, Tryz.ntmps18; go_wp2_with fail
    refine (unhide HP2).mono ?_; rintro e w1 ⟨rfl, hx1⟩; clear HP2; go_wp2; go_ret2; exact ⟨rfl, hx1⟩
  | some a =>
    have hlt := prs_lt hp; rw [hp] at HP; have HP2 : Hid (Calls Tryz.prog 48 #[S t] w fun e w' => e = .returned (.tuple #[.int .u32 (a : Int), .int .i64 0]) ∧ Ext w w') := HP; have HS := hide (fun v (hv : Ext w v) => rshow_any a v hlt); by_cases he : shw a = t
    · have ho : ip4O t = some a := by
        unfold ip4O; rw [hp]; show (if shw a = t then some a else none) = _; rw [if_pos he]
      rw [ho]; rw [he] at HS; have FIN : Hid (Ending.returned (.tuple #[.int .u32 (a : Int), .bool true]) = .returned (.tuple #[.int .u32 (numV (some a)), .bool (some a).isSome])) := rfl; generalize numV (some a) = nv at *; clear HP hp ho  he hlt; go_enter Tryz.func18, Tryz.ntmps18; go_wp2_with fail
      refine (unhide HP2).mono ?_; rintro e w1 ⟨rfl, hx1⟩; have HS2 := hide (unhide HS _ hx1); have HX := hide hx1; clear HP2 HS hx1; go_wp2_with fail
      refine (unhide HS2).mono ?_; rintro e w2 ⟨rfl, hx2⟩; have HX2 := hide ((unhide HX).trans hx2); clear HS2 HX hx2; go_wp2; go_ret2; exact ⟨unhide FIN, unhide HX2⟩
    · have ho : ip4O t = none := by
        unfold ip4O; rw [hp]; show (if shw a = t then some a else none) = _; rw [if_neg he]
      rw [ho]; have hne := S_ne he; have hnb : (shw a == t) = false := by simpa using he
      generalize shw a = T at *; clear HP hp ho  he hlt; go_enter Tryz.func18, Tryz.ntmps18; go_wp2_with fail
      refine (unhide HP2).mono ?_; rintro e w1 ⟨rfl, hx1⟩; have HS2 := hide (unhide HS _ hx1); have HX := hide hx1; clear HP2 HS hx1; go_wp2_with fail
      refine (unhide HS2).mono ?_; rintro e w2 ⟨rfl, hx2⟩; have HX2 := hide ((unhide HX).trans hx2); clear HS2 HX hx2; go_wp2; go_ret2; exact ⟨rfl, unhide HX2⟩
set_option maxHeartbeats 4000000 in
set_option maxRecDepth 100000 in
theorem rip6_short (t : List UInt8) (w : World) (h2 : ¬ 2 ≤ t.length) :
    Calls Tryz.prog 20 #[S t] w fun e w' => e = .returned (.tuple #[V8 (aO (ip6O t)), .bool (ip6O t).isSome]) ∧ Ext w w' := by
  have hsz := size_S t; have hz0 := Z8_new w; have hxz := Z8_ext w; have ZZ := fun (g : Nat) (wz : World) (h : wz.heap[g]? = some (.cells (List.replicate 8 (U 0)).toArray 36 (0, 0))) => (And.intro (fun i hi => cells_zero h i hi) (fun i => froz8 h i)); have NOL : Hid (longO t = none → Ending.returned (.tuple #[.agg #[U 0, U 0, U 0, U 0, U 0, U 0, U 0, U 0], .bool false]) = .returned (.tuple #[V8 (aO (ip6O t)), .bool (ip6O t).isSome])) := fun h => by
    have ho : ip6O t = none := by unfold ip6O; rw [h]; rfl
    rw [ho]; rfl
  have h2' : (t.length : Int) < 2 := by omega
  have hlo : longO t = none := by
    unfold longO; rw [if_neg (fun h => h2 h.2.1)]
  have HN := hide (unhide NOL hlo); generalize V8 (aO (ip6O t)) = zv at *; generalize (ip6O t).isSome = zb' at *; clear hlo NOL; have HXZ := hide hxz; unfold Z8 at hz0 HXZ; have HH := hide hz0; obtain ⟨zc, zf⟩ := ZZ w.heap.size _ hz0; have z0 := zc 0 (by decide); have z1 := zc 1 (by decide); have z2 := zc 2 (by decide); have z3 := zc 3 (by decide); have z4 := zc 4 (by decide); have z5 := zc 5 (by decide); have z6 := zc 6 (by decide); have z7 := zc 7 (by decide); have f0 := zf 0; have f1 := zf 1; have f2 := zf 2; have f3 := zf 3; have f4 := zf 4; have f5 := zf 5; have f6 := zf 6; have f7 := zf 7; clear hz0 zc zf ZZ hxz; go_enter Tryz.func20, Tryz.ntmps20; go_wp2; generalize w.alloc (.cells #[.int .u16 0, .int .u16 0, .int .u16 0, .int .u16 0, .int .u16 0, .int .u16 0, .int .u16 0, .int .u16 0] 36) = w3 at *; refine bodyPost_ret (results_cell_tmp rfl _ _ w.heap.size #[U 0, U 0, U 0, U 0, U 0, U 0, U 0, U 0] rfl (run_loadVar_row w3 w.heap.size 36 36 #[U 0, U 0, U 0, U 0, U 0, U 0, U 0, U 0] (0, 0) _ (unhide HH) Tryz.underlying36 rfl (by kernel_rfl))) rfl ?_; exact ⟨unhide HN, unhide HXZ⟩
set_option maxHeartbeats 4000000 in
set_option maxRecDepth 100000 in
theorem rip6_head (t : List UInt8) (w : World) (hm : t.length ≤ 100000) (h2 : 2 ≤ t.length) (h91 : t.getD 0 0 ≠ 91) :
    Calls Tryz.prog 20 #[S t] w fun e w' => e = .returned (.tuple #[V8 (aO (ip6O t)), .bool (ip6O t).isSome]) ∧ Ext w w' := by
  have hsz := size_S t; have hz0 := Z8_new w; have hxz := Z8_ext w; have ZZ := fun (g : Nat) (wz : World) (h : wz.heap[g]? = some (.cells (List.replicate 8 (U 0)).toArray 36 (0, 0))) => (And.intro (fun i hi => cells_zero h i hi) (fun i => froz8 h i)); have NOL : Hid (longO t = none → Ending.returned (.tuple #[.agg #[U 0, U 0, U 0, U 0, U 0, U 0, U 0, U 0], .bool false]) = .returned (.tuple #[V8 (aO (ip6O t)), .bool (ip6O t).isSome])) := fun h => by
    have ho : ip6O t = none := by unfold ip6O; rw [h]; rfl
    rw [ho]; rfl
  have h2' : ¬ (t.length : Int) < 2 := by omega
  have p1 : (0 : Int) ≤ (t.length : Int) - 1 := by omega
  have i0 : (Instr.index 9 (S t) (.int .i64 0)).run Tryz.prog (w.alloc (.cells #[.int .u16 0, .int .u16 0, .int .u16 0, .int .u16 0, .int .u16 0, .int .u16 0, .int .u16 0, .int .u16 0] 36)) = .ok (B (t.getD 0 0)) (w.alloc (.cells #[.int .u16 0, .int .u16 0, .int .u16 0, .int .u16 0, .int .u16 0, .int .u16 0, .int .u16 0, .int .u16 0] 36)) := idx_str (w.alloc (.cells #[.int .u16 0, .int .u16 0, .int .u16 0, .int .u16 0, .int .u16 0, .int .u16 0, .int .u16 0, .int .u16 0] 36)) t .i64 0 (by omega); have hlo : longO t = none := by
    unfold longO; rw [if_neg (fun h => h91 (by have := h.1; rw [head_eq t (by omega)] at this; exact Option.some.inj this))]
  have HN := hide (unhide NOL hlo); have e1 := b_ne h91; have e1' := b_ne' h91; simp only [show (((91 : UInt8).toNat : Nat) : Int) = 91 from rfl] at e1 e1'; generalize V8 (aO (ip6O t)) = zv at *; generalize (ip6O t).isSome = zb' at *; generalize t.getD 0 0 = y0 at *; clear hlo NOL h91; have HXZ := hide hxz; unfold Z8 at hz0 HXZ; have HH := hide hz0; obtain ⟨zc, zf⟩ := ZZ w.heap.size _ hz0; have z0 := zc 0 (by decide); have z1 := zc 1 (by decide); have z2 := zc 2 (by decide); have z3 := zc 3 (by decide); have z4 := zc 4 (by decide); have z5 := zc 5 (by decide); have z6 := zc 6 (by decide); have z7 := zc 7 (by decide); have f0 := zf 0; have f1 := zf 1; have f2 := zf 2; have f3 := zf 3; have f4 := zf 4; have f5 := zf 5; have f6 := zf 6; have f7 := zf 7; clear hz0 zc zf ZZ hxz; go_enter Tryz.func20, Tryz.ntmps20; go_wp2; generalize w.alloc (.cells #[.int .u16 0, .int .u16 0, .int .u16 0, .int .u16 0, .int .u16 0, .int .u16 0, .int .u16 0, .int .u16 0] 36) = w3 at *; refine bodyPost_ret (results_cell_tmp rfl _ _ w.heap.size #[U 0, U 0, U 0, U 0, U 0, U 0, U 0, U 0] rfl (run_loadVar_row w3 w.heap.size 36 36 #[U 0, U 0, U 0, U 0, U 0, U 0, U 0, U 0] (0, 0) _ (unhide HH) Tryz.underlying36 rfl (by kernel_rfl))) rfl ?_; exact ⟨unhide HN, unhide HXZ⟩
set_option maxHeartbeats 4000000 in
set_option maxRecDepth 100000 in
theorem rip6_end (t : List UInt8) (w : World) (hm : t.length ≤ 100000) (h2 : 2 ≤ t.length) (h91 : t.getD 0 0 = 91) (h93 : t.getD (t.length - 1) 0 ≠ 93) :
    Calls Tryz.prog 20 #[S t] w fun e w' => e = .returned (.tuple #[V8 (aO (ip6O t)), .bool (ip6O t).isSome]) ∧ Ext w w' := by
  have hsz := size_S t; have hz0 := Z8_new w; have hxz := Z8_ext w; have ZZ := fun (g : Nat) (wz : World) (h : wz.heap[g]? = some (.cells (List.replicate 8 (U 0)).toArray 36 (0, 0))) => (And.intro (fun i hi => cells_zero h i hi) (fun i => froz8 h i)); have NOL : Hid (longO t = none → Ending.returned (.tuple #[.agg #[U 0, U 0, U 0, U 0, U 0, U 0, U 0, U 0], .bool false]) = .returned (.tuple #[V8 (aO (ip6O t)), .bool (ip6O t).isSome])) := fun h => by
    have ho : ip6O t = none := by unfold ip6O; rw [h]; rfl
    rw [ho]; rfl
  have h2' : ¬ (t.length : Int) < 2 := by omega
  have p1 : (0 : Int) ≤ (t.length : Int) - 1 := by omega
  have i0 : (Instr.index 9 (S t) (.int .i64 0)).run Tryz.prog (w.alloc (.cells #[.int .u16 0, .int .u16 0, .int .u16 0, .int .u16 0, .int .u16 0, .int .u16 0, .int .u16 0, .int .u16 0] 36)) = .ok (B (t.getD 0 0)) (w.alloc (.cells #[.int .u16 0, .int .u16 0, .int .u16 0, .int .u16 0, .int .u16 0, .int .u16 0, .int .u16 0, .int .u16 0] 36)) := idx_str (w.alloc (.cells #[.int .u16 0, .int .u16 0, .int .u16 0, .int .u16 0, .int .u16 0, .int .u16 0, .int .u16 0, .int .u16 0] 36)) t .i64 0 (by omega); have iL := last_idx (w.alloc (.cells #[.int .u16 0, .int .u16 0, .int .u16 0, .int .u16 0, .int .u16 0, .int .u16 0, .int .u16 0, .int .u16 0] 36)) t (by omega); have e1 : (((t.getD 0 0).toNat : Int) == 91) = true := by rw [h91]; rfl
  have e1' : ((t.getD 0 0).toNat : Int) = 91 := by rw [h91]; rfl
  have hlo : longO t = none := by
    unfold longO; rw [if_neg (fun h => h93 (by have := h.2.2; rw [last_eq t (by omega)] at this; exact Option.some.inj this))]
  have HN := hide (unhide NOL hlo); have e2 := b_ne h93; have e2' := b_ne' h93; simp only [show (((93 : UInt8).toNat : Nat) : Int) = 93 from rfl] at e2 e2'; generalize V8 (aO (ip6O t)) = zv at *; generalize (ip6O t).isSome = zb' at *; generalize t.getD 0 0 = y0 at *; generalize t.getD (t.length - 1) 0 = yL at *; clear hlo NOL h91 h93; have HXZ := hide hxz; unfold Z8 at hz0 HXZ; have HH := hide hz0; obtain ⟨zc, zf⟩ := ZZ w.heap.size _ hz0; have z0 := zc 0 (by decide); have z1 := zc 1 (by decide); have z2 := zc 2 (by decide); have z3 := zc 3 (by decide); have z4 := zc 4 (by decide); have z5 := zc 5 (by decide); have z6 := zc 6 (by decide); have z7 := zc 7 (by decide); have f0 := zf 0; have f1 := zf 1; have f2 := zf 2; have f3 := zf 3; have f4 := zf 4; have f5 := zf 5; have f6 := zf 6; have f7 := zf 7; clear hz0 zc zf ZZ hxz; go_enter Tryz.func20, Tryz.ntmps20; go_wp2; generalize w.alloc (.cells #[.int .u16 0, .int .u16 0, .int .u16 0, .int .u16 0, .int .u16 0, .int .u16 0, .int .u16 0, .int .u16 0] 36) = w3 at *; refine bodyPost_ret (results_cell_tmp rfl _ _ w.heap.size #[U 0, U 0, U 0, U 0, U 0, U 0, U 0, U 0] rfl (run_loadVar_row w3 w.heap.size 36 36 #[U 0, U 0, U 0, U 0, U 0, U 0, U 0, U 0] (0, 0) _ (unhide HH) Tryz.underlying36 rfl (by kernel_rfl))) rfl ?_; exact ⟨unhide HN, unhide HXZ⟩
end Go.Proofs.YtenlampiiodkhaaGreatDoor
namespace Go.Proofs.YtenlampiiodkhaaGreatDoor
set_option linter.unusedVariables false
open Go.RowKit
set_option maxHeartbeats 4000000 in
set_option maxRecDepth 100000 in
theorem rip6_none (t : List UInt8) (w : World) (hm : t.length ≤ 200) (h2 : 2 ≤ t.length) (h91 : t.getD 0 0 = 91) (h93 : t.getD (t.length - 1) 0 = 93) (hp : par6 (inB t) = none) :
    Calls Tryz.prog 20 #[S t] w fun e w' => e = .returned (.tuple #[V8 (aO (ip6O t)), .bool (ip6O t).isSome]) ∧ Ext w w' := by
  have hsz := size_S t; have hz0 := Z8_new w; have hxz := Z8_ext w; have ZZ := fun (g : Nat) (wz : World) (h : wz.heap[g]? = some (.cells (List.replicate 8 (U 0)).toArray 36 (0, 0))) => (And.intro (fun i hi => cells_zero h i hi) (fun i => froz8 h i)); have NOL : Hid (longO t = none → Ending.returned (.tuple #[.agg #[U 0, U 0, U 0, U 0, U 0, U 0, U 0, U 0], .bool false]) = .returned (.tuple #[V8 (aO (ip6O t)), .bool (ip6O t).isSome])) := fun h => by
    have ho : ip6O t = none := by unfold ip6O; rw [h]; rfl
    rw [ho]; rfl
  have h2' : ¬ (t.length : Int) < 2 := by omega
  have p1 : (0 : Int) ≤ (t.length : Int) - 1 := by omega
  have i0 : (Instr.index 9 (S t) (.int .i64 0)).run Tryz.prog (w.alloc (.cells #[.int .u16 0, .int .u16 0, .int .u16 0, .int .u16 0, .int .u16 0, .int .u16 0, .int .u16 0, .int .u16 0] 36)) = .ok (B (t.getD 0 0)) (w.alloc (.cells #[.int .u16 0, .int .u16 0, .int .u16 0, .int .u16 0, .int .u16 0, .int .u16 0, .int .u16 0, .int .u16 0] 36)) := idx_str (w.alloc (.cells #[.int .u16 0, .int .u16 0, .int .u16 0, .int .u16 0, .int .u16 0, .int .u16 0, .int .u16 0, .int .u16 0] 36)) t .i64 0 (by omega); have iL := last_idx (w.alloc (.cells #[.int .u16 0, .int .u16 0, .int .u16 0, .int .u16 0, .int .u16 0, .int .u16 0, .int .u16 0, .int .u16 0] 36)) t (by omega); have e1 : (((t.getD 0 0).toNat : Int) == 91) = true := by rw [h91]; rfl
  have e1' : ((t.getD 0 0).toNat : Int) = 91 := by rw [h91]; rfl
  have e2 : (((t.getD (t.length - 1) 0).toNat : Int) == 93) = true := by rw [h93]; rfl
  have e2' : ((t.getD (t.length - 1) 0).toNat : Int) = 93 := by rw [h93]; rfl
  have hlo : longO t = par6 (inB t) := by
    unfold longO; rw [if_pos ⟨by rw [head_eq t (by omega), h91], h2, by rw [last_eq t (by omega), h93]⟩]
  have ms := mid_slice (w.alloc (.cells #[.int .u16 0, .int .u16 0, .int .u16 0, .int .u16 0, .int .u16 0, .int .u16 0, .int .u16 0, .int .u16 0] 36)) t h2; have HR := hide (rparse6 (inB t) (Z8 w) (by unfold inB; rw [List.length_dropLast, List.length_drop]; omega)); clear h91 h93; generalize t.getD 0 0 = y0 at *; generalize t.getD (t.length - 1) 0 = yL at *; rw [hp] at HR hlo; have HN := hide (unhide NOL hlo); have HR2 : Hid (Calls Tryz.prog 44 #[S (inB t)] (Z8 w) fun e w' => e = .returned (.tuple #[.agg #[.int .u16 0, .int .u16 0, .int .u16 0, .int .u16 0, .int .u16 0, .int .u16 0, .int .u16 0, .int .u16 0], .int .i64 5]) ∧ Ext (Z8 w) w') := HR; generalize V8 (aO (ip6O t)) = zv at *; generalize (ip6O t).isSome = zb' at *; clear HR hp hlo NOL; generalize inB t = m at *; unfold Z8 at hz0 hxz HR2; go_enter Tryz.func20, Tryz.ntmps20; go_wp2_with fail
  refine (unhide HR2).mono ?_; rintro e w1 ⟨rfl, hx1⟩; clear HR2 ms iL i0; have hx3 := hx1.trans (Ext.alloc w1 (.cells #[.int .u16 0, .int .u16 0, .int .u16 0, .int .u16 0, .int .u16 0, .int .u16 0, .int .u16 0, .int .u16 0] 36)); have hz := heap_ext hz0 hx3; have HH := hide hz; have HX := hide (hxz.trans hx3); obtain ⟨zc, zf⟩ := ZZ w.heap.size _ hz; have z0 := zc 0 (by decide); have z1 := zc 1 (by decide); have z2 := zc 2 (by decide); have z3 := zc 3 (by decide); have z4 := zc 4 (by decide); have z5 := zc 5 (by decide); have z6 := zc 6 (by decide); have z7 := zc 7 (by decide); have f0 := zf 0; have f1 := zf 1; have f2 := zf 2; have f3 := zf 3; have f4 := zf 4; have f5 := zf 5; have f6 := zf 6; have f7 := zf 7; clear hz hz0 hx3 hx1 hxz zc zf ZZ; go_wp2; refine bodyPost_ret (results_cell_tmp rfl _ _ w.heap.size #[U 0, U 0, U 0, U 0, U 0, U 0, U 0, U 0] rfl (run_loadVar_row _ w.heap.size 36 36 _ (0, 0) _ (set8_heap (unhide HH) (U 0) (U 0) (U 0) (U 0) (U 0) (U 0) (U 0) (U 0)) Tryz.underlying36 rfl (by kernel_rfl))) rfl ?_; exact ⟨unhide HN, set8_below (unhide HX) (Nat.le_refl _) _ _ _ _ _ _ _ _⟩
end Go.Proofs.YtenlampiiodkhaaGreatDoor
namespace Go.Proofs.YtenlampiiodkhaaGreatDoor
set_option linter.unusedVariables false
open Go.RowKit
set_option maxHeartbeats 4000000 in
set_option maxRecDepth 100000 in
theorem rip6_eq (t : List UInt8) (w : World) (x0 x1 x2 x3 x4 x5 x6 x7 : Nat) (hsm : i6small [x0, x1, x2, x3, x4, x5, x6, x7]) (hm : t.length ≤ 200) (h2 : 2 ≤ t.length) (h91 : t.getD 0 0 = 91) (h93 : t.getD (t.length - 1) 0 = 93) (hp : par6 (inB t) = some [x0, x1, x2, x3, x4, x5, x6, x7]) (he : shL [x0, x1, x2, x3, x4, x5, x6, x7] = t) :
    Calls Tryz.prog 20 #[S t] w fun e w' => e = .returned (.tuple #[V8 (aO (ip6O t)), .bool (ip6O t).isSome]) ∧ Ext w w' := by
  have hsz := size_S t; have hz0 := Z8_new w; have hxz := Z8_ext w; have ZZ := fun (g : Nat) (wz : World) (h : wz.heap[g]? = some (.cells (List.replicate 8 (U 0)).toArray 36 (0, 0))) => (And.intro (fun i hi => cells_zero h i hi) (fun i => froz8 h i)); have NOL : Hid (longO t = none → Ending.returned (.tuple #[.agg #[U 0, U 0, U 0, U 0, U 0, U 0, U 0, U 0], .bool false]) = .returned (.tuple #[V8 (aO (ip6O t)), .bool (ip6O t).isSome])) := fun h => by
    have ho : ip6O t = none := by unfold ip6O; rw [h]; rfl
    rw [ho]; rfl
  have h2' : ¬ (t.length : Int) < 2 := by omega
  have p1 : (0 : Int) ≤ (t.length : Int) - 1 := by omega
  have i0 : (Instr.index 9 (S t) (.int .i64 0)).run Tryz.prog (w.alloc (.cells #[.int .u16 0, .int .u16 0, .int .u16 0, .int .u16 0, .int .u16 0, .int .u16 0, .int .u16 0, .int .u16 0] 36)) = .ok (B (t.getD 0 0)) (w.alloc (.cells #[.int .u16 0, .int .u16 0, .int .u16 0, .int .u16 0, .int .u16 0, .int .u16 0, .int .u16 0, .int .u16 0] 36)) := idx_str (w.alloc (.cells #[.int .u16 0, .int .u16 0, .int .u16 0, .int .u16 0, .int .u16 0, .int .u16 0, .int .u16 0, .int .u16 0] 36)) t .i64 0 (by omega); have iL := last_idx (w.alloc (.cells #[.int .u16 0, .int .u16 0, .int .u16 0, .int .u16 0, .int .u16 0, .int .u16 0, .int .u16 0, .int .u16 0] 36)) t (by omega); have e1 : (((t.getD 0 0).toNat : Int) == 91) = true := by rw [h91]; rfl
  have e1' : ((t.getD 0 0).toNat : Int) = 91 := by rw [h91]; rfl
  have e2 : (((t.getD (t.length - 1) 0).toNat : Int) == 93) = true := by rw [h93]; rfl
  have e2' : ((t.getD (t.length - 1) 0).toNat : Int) = 93 := by rw [h93]; rfl
  have hlo : longO t = par6 (inB t) := by
    unfold longO; rw [if_pos ⟨by rw [head_eq t (by omega), h91], h2, by rw [last_eq t (by omega), h93]⟩]
  have ms := mid_slice (w.alloc (.cells #[.int .u16 0, .int .u16 0, .int .u16 0, .int .u16 0, .int .u16 0, .int .u16 0, .int .u16 0, .int .u16 0] 36)) t h2; have HR := hide (rparse6 (inB t) (Z8 w) (by unfold inB; rw [List.length_dropLast, List.length_drop]; omega)); clear h91 h93; generalize t.getD 0 0 = y0 at *; generalize t.getD (t.length - 1) 0 = yL at *; rw [hp] at HR hlo; have HR2 : Hid (Calls Tryz.prog 44 #[S (inB t)] (Z8 w) fun e w' => e = .returned (.tuple #[.agg #[U x0, U x1, U x2, U x3, U x4, U x5, U x6, U x7], .int .i64 0]) ∧ Ext (Z8 w) w') := HR; have R6 := hide (fun v => rshow6_any x0 x1 x2 x3 x4 x5 x6 x7 v hsm); have hl6 := shw6_len [x0, x1, x2, x3, x4, x5, x6, x7] rfl hsm; have hsh : shL [x0, x1, x2, x3, x4, x5, x6, x7] = 91 :: (shw6 [x0, x1, x2, x3, x4, x5, x6, x7] ++ [93]) := rfl; clear hp NOL; have ho : ip6O t = some [x0, x1, x2, x3, x4, x5, x6, x7] := by
    unfold ip6O; rw [hlo]; show (if shL [x0, x1, x2, x3, x4, x5, x6, x7] = t then some [x0, x1, x2, x3, x4, x5, x6, x7] else none) = _; rw [if_pos he]
  have FIN : Hid (Ending.returned (.tuple #[.agg #[U x0, U x1, U x2, U x3, U x4, U x5, U x6, U x7], .bool true]) = .returned (.tuple #[V8 (aO (ip6O t)), .bool (ip6O t).isSome])) := by rw [ho]; rfl
  rw [hsh] at he; clear hsh; generalize shw6 [x0, x1, x2, x3, x4, x5, x6, x7] = z at *; have hc1 : (⟨#[91]⟩ : ByteArray) ++ (⟨z.toArray⟩ : ByteArray) = ⟨(91 :: z).toArray⟩ := catB [91] z; have hc2 : (⟨(91 :: z).toArray⟩ : ByteArray) ++ (⟨#[93]⟩ : ByteArray) = ⟨t.toArray⟩ := by rw [← he]; exact catB (91 :: z) [93]
  have n1 : ¬ 9223372036854775807 < 1 + z.length := by omega
  have n2 : ¬ 9223372036854775807 < (91 :: z).length + 1 := by simp; omega
  generalize hQ1 : (91 :: z) = Z1 at *; clear hQ1; generalize V8 (aO (ip6O t)) = zv at *; generalize (ip6O t).isSome = zb' at *; generalize inB t = m at *; clear HR ho he hsm hl6 hlo; unfold Z8 at hz0 hxz HR2; go_enter Tryz.func20, Tryz.ntmps20; go_wp2_with fail
  refine (unhide HR2).mono ?_; rintro e w1 ⟨rfl, hx1⟩; clear HR2; have hx2 := hx1.trans (Ext.alloc w1 (.cells #[U x0, U x1, U x2, U x3, U x4, U x5, U x6, U x7] 36)); have hn1 := alloc_new w1 (.cells #[U x0, U x1, U x2, U x3, U x4, U x5, U x6, U x7] 36); have hld := load_8q hn1; have HZ := hide (heap_ext hz0 hx2); have HX := hide (hxz.trans hx2); have R62 := hide (unhide R6 (w1.alloc (.cells #[U x0, U x1, U x2, U x3, U x4, U x5, U x6, U x7] 36))); have HN1 := hide hn1; clear hz0 hx2 hx1 hxz R6 hn1 ms iL i0; go_wp2_with fail
  refine (unhide R62).mono ?_; rintro e w5 ⟨rfl, hx5⟩; clear R62 hld; obtain ⟨d0, d1, d2, d3, d4, d5, d6, d7⟩ := cells8of (heap_ext (unhide HN1) hx5); have hz := heap_ext (unhide HZ) hx5; have HH := hide hz; have HX5 := hide ((unhide HX).trans hx5); obtain ⟨zc, zf⟩ := ZZ w.heap.size _ hz; have z0 := zc 0 (by decide); have z1 := zc 1 (by decide); have z2 := zc 2 (by decide); have z3 := zc 3 (by decide); have z4 := zc 4 (by decide); have z5 := zc 5 (by decide); have z6 := zc 6 (by decide); have z7 := zc 7 (by decide); have f0 := zf 0; have f1 := zf 1; have f2 := zf 2; have f3 := zf 3; have f4 := zf 4; have f5 := zf 5; have f6 := zf 6; have f7 := zf 7; clear hz hx5 zc zf ZZ HZ HX HN1; go_wp2; refine bodyPost_ret (results_cell_tmp rfl _ _ w.heap.size #[U x0, U x1, U x2, U x3, U x4, U x5, U x6, U x7] rfl (run_loadVar_row _ w.heap.size 36 36 _ (0, 0) _ (set8_heap (unhide HH) (U x0) (U x1) (U x2) (U x3) (U x4) (U x5) (U x6) (U x7)) Tryz.underlying36 rfl (by kernel_rfl))) rfl ?_; exact ⟨unhide FIN, set8_below (unhide HX5) (Nat.le_refl _) _ _ _ _ _ _ _ _⟩
end Go.Proofs.YtenlampiiodkhaaGreatDoor
namespace Go.Proofs.YtenlampiiodkhaaGreatDoor
set_option linter.unusedVariables false
open Go.RowKit
set_option maxHeartbeats 4000000 in
set_option maxRecDepth 100000 in
theorem rip6_ne (t : List UInt8) (w : World) (x0 x1 x2 x3 x4 x5 x6 x7 : Nat) (hsm : i6small [x0, x1, x2, x3, x4, x5, x6, x7]) (hm : t.length ≤ 200) (h2 : 2 ≤ t.length) (h91 : t.getD 0 0 = 91) (h93 : t.getD (t.length - 1) 0 = 93) (hp : par6 (inB t) = some [x0, x1, x2, x3, x4, x5, x6, x7]) (he : ¬ shL [x0, x1, x2, x3, x4, x5, x6, x7] = t) :
    Calls Tryz.prog 20 #[S t] w fun e w' => e = .returned (.tuple #[V8 (aO (ip6O t)), .bool (ip6O t).isSome]) ∧ Ext w w' := by
  have hsz := size_S t; have hz0 := Z8_new w; have hxz := Z8_ext w; have ZZ := fun (g : Nat) (wz : World) (h : wz.heap[g]? = some (.cells (List.replicate 8 (U 0)).toArray 36 (0, 0))) => (And.intro (fun i hi => cells_zero h i hi) (fun i => froz8 h i)); have NOL : Hid (longO t = none → Ending.returned (.tuple #[.agg #[U 0, U 0, U 0, U 0, U 0, U 0, U 0, U 0], .bool false]) = .returned (.tuple #[V8 (aO (ip6O t)), .bool (ip6O t).isSome])) := fun h => by
    have ho : ip6O t = none := by unfold ip6O; rw [h]; rfl
    rw [ho]; rfl
  have h2' : ¬ (t.length : Int) < 2 := by omega
  have p1 : (0 : Int) ≤ (t.length : Int) - 1 := by omega
  have i0 : (Instr.index 9 (S t) (.int .i64 0)).run Tryz.prog (w.alloc (.cells #[.int .u16 0, .int .u16 0, .int .u16 0, .int .u16 0, .int .u16 0, .int .u16 0, .int .u16 0, .int .u16 0] 36)) = .ok (B (t.getD 0 0)) (w.alloc (.cells #[.int .u16 0, .int .u16 0, .int .u16 0, .int .u16 0, .int .u16 0, .int .u16 0, .int .u16 0, .int .u16 0] 36)) := idx_str (w.alloc (.cells #[.int .u16 0, .int .u16 0, .int .u16 0, .int .u16 0, .int .u16 0, .int .u16 0, .int .u16 0, .int .u16 0] 36)) t .i64 0 (by omega); have iL := last_idx (w.alloc (.cells #[.int .u16 0, .int .u16 0, .int .u16 0, .int .u16 0, .int .u16 0, .int .u16 0, .int .u16 0, .int .u16 0] 36)) t (by omega); have e1 : (((t.getD 0 0).toNat : Int) == 91) = true := by rw [h91]; rfl
  have e1' : ((t.getD 0 0).toNat : Int) = 91 := by rw [h91]; rfl
  have e2 : (((t.getD (t.length - 1) 0).toNat : Int) == 93) = true := by rw [h93]; rfl
  have e2' : ((t.getD (t.length - 1) 0).toNat : Int) = 93 := by rw [h93]; rfl
  have hlo : longO t = par6 (inB t) := by
    unfold longO; rw [if_pos ⟨by rw [head_eq t (by omega), h91], h2, by rw [last_eq t (by omega), h93]⟩]
  have ms := mid_slice (w.alloc (.cells #[.int .u16 0, .int .u16 0, .int .u16 0, .int .u16 0, .int .u16 0, .int .u16 0, .int .u16 0, .int .u16 0] 36)) t h2; have HR := hide (rparse6 (inB t) (Z8 w) (by unfold inB; rw [List.length_dropLast, List.length_drop]; omega)); clear h91 h93; generalize t.getD 0 0 = y0 at *; generalize t.getD (t.length - 1) 0 = yL at *; rw [hp] at HR hlo; have HR2 : Hid (Calls Tryz.prog 44 #[S (inB t)] (Z8 w) fun e w' => e = .returned (.tuple #[.agg #[U x0, U x1, U x2, U x3, U x4, U x5, U x6, U x7], .int .i64 0]) ∧ Ext (Z8 w) w') := HR; have R6 := hide (fun v => rshow6_any x0 x1 x2 x3 x4 x5 x6 x7 v hsm); have hl6 := shw6_len [x0, x1, x2, x3, x4, x5, x6, x7] rfl hsm; have hsh : shL [x0, x1, x2, x3, x4, x5, x6, x7] = 91 :: (shw6 [x0, x1, x2, x3, x4, x5, x6, x7] ++ [93]) := rfl; clear hp NOL; have ho : ip6O t = none := by
    unfold ip6O; rw [hlo]; show (if shL [x0, x1, x2, x3, x4, x5, x6, x7] = t then some [x0, x1, x2, x3, x4, x5, x6, x7] else none) = _; rw [if_neg he]
  have FIN : Hid (Ending.returned (.tuple #[.agg #[U 0, U 0, U 0, U 0, U 0, U 0, U 0, U 0], .bool false]) = .returned (.tuple #[V8 (aO (ip6O t)), .bool (ip6O t).isSome])) := by rw [ho]; rfl
  have hne := S_ne he; have hnb : (shL [x0, x1, x2, x3, x4, x5, x6, x7] == t) = false := by simpa using he
  rw [hsh] at hne hnb; clear hsh; generalize shw6 [x0, x1, x2, x3, x4, x5, x6, x7] = z at *; have hc1 : (⟨#[91]⟩ : ByteArray) ++ (⟨z.toArray⟩ : ByteArray) = ⟨(91 :: z).toArray⟩ := catB [91] z; have hc2 : (⟨(91 :: z).toArray⟩ : ByteArray) ++ (⟨#[93]⟩ : ByteArray) = ⟨(91 :: (z ++ [93])).toArray⟩ := catB (91 :: z) [93]; have n1 : ¬ 9223372036854775807 < 1 + z.length := by omega
  have n2 : ¬ 9223372036854775807 < (91 :: z).length + 1 := by simp; omega
  generalize hQ : (91 :: (z ++ [93])) = Zq at *; clear hQ; generalize hQ1 : (91 :: z) = Z1 at *; clear hQ1; generalize V8 (aO (ip6O t)) = zv at *; generalize (ip6O t).isSome = zb' at *; generalize inB t = m at *; clear HR ho he hsm hl6 hlo; unfold Z8 at hz0 hxz HR2; go_enter Tryz.func20, Tryz.ntmps20; go_wp2_with fail
  refine (unhide HR2).mono ?_; rintro e w1 ⟨rfl, hx1⟩; clear HR2; have hx2 := hx1.trans (Ext.alloc w1 (.cells #[U x0, U x1, U x2, U x3, U x4, U x5, U x6, U x7] 36)); have hn1 := alloc_new w1 (.cells #[U x0, U x1, U x2, U x3, U x4, U x5, U x6, U x7] 36); have hld := load_8q hn1; have HZ := hide (heap_ext hz0 hx2); have HX := hide (hxz.trans hx2); have R62 := hide (unhide R6 (w1.alloc (.cells #[U x0, U x1, U x2, U x3, U x4, U x5, U x6, U x7] 36))); have HN1 := hide hn1; clear hz0 hx2 hx1 hxz R6 hn1 ms iL i0; go_wp2_with fail
  refine (unhide R62).mono ?_; rintro e w5 ⟨rfl, hx5⟩; clear R62 hld; obtain ⟨d0, d1, d2, d3, d4, d5, d6, d7⟩ := cells8of (heap_ext (unhide HN1) hx5); have hz := heap_ext (unhide HZ) hx5; have HH := hide hz; have HX5 := hide ((unhide HX).trans hx5); obtain ⟨zc, zf⟩ := ZZ w.heap.size _ hz; have z0 := zc 0 (by decide); have z1 := zc 1 (by decide); have z2 := zc 2 (by decide); have z3 := zc 3 (by decide); have z4 := zc 4 (by decide); have z5 := zc 5 (by decide); have z6 := zc 6 (by decide); have z7 := zc 7 (by decide); have f0 := zf 0; have f1 := zf 1; have f2 := zf 2; have f3 := zf 3; have f4 := zf 4; have f5 := zf 5; have f6 := zf 6; have f7 := zf 7; clear hz hx5 zc zf ZZ HZ HX HN1; go_wp2; refine bodyPost_ret (results_cell_tmp rfl _ _ w.heap.size #[U 0, U 0, U 0, U 0, U 0, U 0, U 0, U 0] rfl (run_loadVar_row _ w.heap.size 36 36 _ (0, 0) _ (set8_heap (unhide HH) (U 0) (U 0) (U 0) (U 0) (U 0) (U 0) (U 0) (U 0)) Tryz.underlying36 rfl (by kernel_rfl))) rfl ?_; exact ⟨unhide FIN, set8_below (unhide HX5) (Nat.le_refl _) _ _ _ _ _ _ _ _⟩
end Go.Proofs.YtenlampiiodkhaaGreatDoor
namespace Go.Proofs.YtenlampiiodkhaaGreatDoor
set_option linter.unusedVariables false
open Go.RowKit
theorem rip6_any (t : List UInt8) (w : World) (hs : t.length ≤ 100000) (h200 : t.head? = some 91 → t.length ≤ 200) :
    Calls Tryz.prog 20 #[S t] w fun e w' => e = .returned (.tuple #[V8 (aO (ip6O t)), .bool (ip6O t).isSome]) ∧ Ext w w' := by
  by_cases h2 : 2 ≤ t.length
  · by_cases h91 : t.getD 0 0 = 91
    · by_cases h93 : t.getD (t.length - 1) 0 = 93
      · have hm := h200 (by rw [head_eq t (by omega), h91])
        cases hp : par6 (inB t) with
        | none => exact rip6_none t w hm h2 h91 h93 hp
        | some a =>
          obtain ⟨h8, hsm⟩ := par6_good hp; obtain ⟨x0, x1, x2, x3, x4, x5, x6, x7, rfl, _⟩ := V8_agg a h8; by_cases he : shL [x0, x1, x2, x3, x4, x5, x6, x7] = t
          · exact rip6_eq t w x0 x1 x2 x3 x4 x5 x6 x7 hsm hm h2 h91 h93 hp he
          · exact rip6_ne t w x0 x1 x2 x3 x4 x5 x6 x7 hsm hm h2 h91 h93 hp he
      · exact rip6_end t w hs h2 h91 h93
    · exact rip6_head t w hs h2 h91
  · exact rip6_short t w h2
end Go.Proofs.YtenlampiiodkhaaGreatDoor
namespace Go.Proofs.YtenlampiiodkhaaGreatDoor
set_option linter.unusedVariables false
open Go.RowKit
theorem V8_any (a : List Nat) : ∃ y0 y1 y2 y3 y4 y5 y6 y7, V8 a = .agg #[U y0, U y1, U y2, U y3, U y4, U y5, U y6, U y7] := ⟨_, _, _, _, _, _, _, _, rfl⟩
theorem host_200 {sp : Bool} {s : List UInt8} (hs : s.length ≤ 100) : (nS (hostO sp s)).head? = some 91 → (nS (hostO sp s)).length ≤ 200 := by
  intro hb; unfold hostO at hb ⊢
  split at hb
  · rename_i h; rw [if_pos h]
    cases hl : longO s with
    | none => exact Nat.zero_le _
    | some a =>
      obtain ⟨h8, hsm⟩ := longO_good hl; have := shw6_len a h8 hsm; show (shL a).length ≤ 200; unfold shL; simp; omega
  · rename_i h
    split at hb
    · cases hn : nameO s with
      | none =>
        rw [hn] at hb
        cases hb
      | some t =>
        rw [hn] at hb; exact absurd hb (name_stays hn).1
    · cases hn : otherO s with
      | none =>
        rw [hn] at hb
        cases hb
      | some t =>
        rw [hn] at hb; exact absurd hb (other_stays hn).1
theorem host_lenO {sp : Bool} {s : List UInt8} (hs : s.length ≤ 100) : (nS (hostO sp s)).length ≤ 100000 := by
  cases h : hostO sp s with
  | none => exact Nat.zero_le _
  | some t => exact host_len h hs
set_option maxHeartbeats 4000000 in
set_option maxRecDepth 100000 in
theorem all9_walk (s : List UInt8) (sp : Bool) (w : World) (hm : s.length ≤ 9223372036854775807) (tb : Tb9 w) :
    Calls Tryz.prog 4 #[S s, .bool sp] w fun e w' => e = .returned (.bool true) ∧ Ext w w' := by
  have HB := hide (begun9_yes w tb); have hsz := size_S s; by_cases h100 : s.length ≤ 100
  · have h100' : ¬ (100 : Int) < (s.length : Int) := by omega
    have P1 := hide (fun v (hv : Ext w v) => hparse_any s sp v (by omega) (tb.below hv)); have P2 := hide (fun v => rhost_any s sp v (by omega)); have hbl := host_lenO (sp := sp) h100; have I1 := hide (fun v (hv : Ext w v) => hip4_any (nS (hostO sp s)) v hbl (tb.below hv).eight.four); have I2 := hide (fun v => rip4_any (nS (hostO sp s)) v hbl); have J1 := hide (fun v (hv : Ext w v) => hip6_any (nS (hostO sp s)) v hbl (tb.below hv).eight); have J2 := hide (fun v => rip6_any (nS (hostO sp s)) v hbl (host_200 h100)); have he : nE (hostO sp s) = 0 ∨ nE (hostO sp s) = 5 := by unfold nE; split <;> simp
    clear tb hbl; obtain ⟨y0, y1, y2, y3, y4, y5, y6, y7, hV⟩ := V8_any (aO (ip6O (nS (hostO sp s)))); rw [hV] at J1 J2; clear hV; generalize (ip6O (nS (hostO sp s))).isSome = b6 at *; generalize (ip4O (nS (hostO sp s))).isSome = b4 at *; generalize numV (ip4O (nS (hostO sp s))) = n4 at *; generalize nS (hostO sp s) = t at *; have HE := hide he; clear he; generalize nE (hostO sp s) = q at *; go_enter Tryz.func4, Tryz.ntmps4; go_wp2_with fail
    refine (unhide HB).mono ?_; rintro e w1 ⟨rfl, hx1⟩; have HX := hide hx1; have G := hide (unhide P1 w1 hx1); clear HB P1 hx1; go_wp2_with fail
    refine (unhide G).mono ?_; rintro e w2 ⟨rfl, hy⟩; have HX2 := hide ((unhide HX).trans hy); have G2 := hide (unhide P2 w2); clear G P2 HX hy; go_wp2_with fail
    refine (unhide G2).mono ?_; rintro e w3 ⟨rfl, hy⟩; have HX3 := hide ((unhide HX2).trans hy); have G3 := hide (unhide I1 w3 (unhide HX3)); clear G2 I1 HX2 hy; go_wp2_with fail
    refine (unhide G3).mono ?_; rintro e w4 ⟨rfl, hy⟩; have HX4 := hide ((unhide HX3).trans hy); have G4 := hide (unhide I2 w4); clear G3 I2 HX3 hy; go_wp2_with fail
    refine (unhide G4).mono ?_; rintro e w5 ⟨rfl, hy⟩; have HX5 := hide ((unhide HX4).trans hy); have G5 := hide (unhide J1 w5 (unhide HX5)); clear G4 J1 HX4 hy; go_wp2_with fail
    refine (unhide G5).mono ?_; rintro e w6 ⟨rfl, hy⟩; have hal := Ext.alloc w6 (.cells #[U y0, U y1, U y2, U y3, U y4, U y5, U y6, U y7] 36); have HN6 := hide (alloc_new w6 (.cells #[U y0, U y1, U y2, U y3, U y4, U y5, U y6, U y7] 36)); have HX6 := hide (((unhide HX5).trans hy).trans hal); have G6 := hide (unhide J2 (w6.alloc (.cells #[U y0, U y1, U y2, U y3, U y4, U y5, U y6, U y7] 36))); clear G5 J2 HX5 hy hal; go_wp2_with fail
    refine (unhide G6).mono ?_; rintro e w7 ⟨rfl, hy⟩; have hal := Ext.alloc w7 (.cells #[U y0, U y1, U y2, U y3, U y4, U y5, U y6, U y7] 36); have hn7 := alloc_new w7 (.cells #[U y0, U y1, U y2, U y3, U y4, U y5, U y6, U y7] 36); have HX7 := hide (((unhide HX6).trans hy).trans hal); obtain ⟨d0, d1, d2, d3, d4, d5, d6, d7⟩ := cells8of (heap_ext (unhide HN6) (hy.trans hal)); obtain ⟨n0, n1, n2, n3, n4', n5, n6, n7⟩ := cells8of hn7; have heq := fun v => eql8 v (y0 : Int) (y1 : Int) (y2 : Int) (y3 : Int) (y4 : Int) (y5 : Int) (y6 : Int) (y7 : Int); clear G6 HX6 HN6 hy hal hn7; rcases unhide HE with h0 | h5
    · subst h0; clear HE
      cases b4 <;> cases b6 <;>
      · go_wp2; go_ret; exact ⟨rfl, unhide HX7⟩
    · subst h5; clear HE; go_wp2; go_ret; exact ⟨rfl, unhide HX7⟩
  · have h100' : (100 : Int) < (s.length : Int) := by omega
    clear tb; go_enter Tryz.func4, Tryz.ntmps4; go_wp2_with fail
    refine (unhide HB).mono ?_; rintro e w1 ⟨rfl, hx1⟩; clear HB; go_wp2; go_ret; exact ⟨rfl, hx1⟩
end Go.Proofs.YtenlampiiodkhaaGreatDoor
