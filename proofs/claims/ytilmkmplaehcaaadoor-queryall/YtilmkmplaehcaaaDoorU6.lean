/-
  What appendCode and Encode of package utf tell.
-/
import Derived.Test.YtilmkmplaehcaaaDoorU5
import Derived.Deep.RegionLaw
namespace Go.Proofs.YtilmkmplaehcaaaDoor
set_option linter.unusedVariables false
open Go.RowKit

/-- append to a row of the call's own, as one step of a statement whose order is left open. -/
theorem step_app {ops : Array Oper} {o : Oper} {a : Act} {w : World} {K : Act → World → Prop} {Q : Exit → Act → World → Prop} {E : Prop} (hgd : o.guard = none) (s x : Operand) (t e : TypeId) (z : Value) (bytes : Nat)
    (hT : Tryd.prog.underlying t = some (.slice e)) (hI : (Tryd.prog.info? e).map (fun i => (i.zero, i.size, i.bytes)) = some (some z, 1, bytes)) (hzs : z.cells.size = 1)
    (ho : o.op = .call { callee := .builtin .append, args := #[s, x], argTypes := #[t, t] })
    (base : Nat) (v : Value) (n : Nat) (xs : List Value) (hs : a.eval s = v) (hown : w.ownsRow base e 1 v n xs)
    (ad : Addr) (m c : Nat) (ys : List Value) (hx : a.eval x = .slice (some ad) m c) (hl : ys.length = m) (hr : RdV w (some ad) c ys) (hone : ∀ u ∈ ys, u.oneCell' = true) (hb : (n + m) * (bytes + 1) ≤ 140737488355328) (hbase : base ≤ w.heap.size)
    (h : ∀ v' w', w'.ownsRow base e 1 v' (n + m) (xs ++ ys) → Below base w w' → K (a.put o.dst v') w') : if Region.wanted o (yielded ops a.tmps) = true then Oper.wp Tryd.prog o a w K Q else E := by
  have hw : Region.wanted o (yielded ops a.tmps) = true := by simp [Region.wanted, hgd]
  rw [if_pos hw]
  obtain ⟨i0, hi, hz0, hz1, hz2⟩ := info_parts hI
  have hb1 : (n + m) * bytes ≤ 140737488355328 := Nat.le_trans (Nat.mul_le_mul_left _ (by omega)) hb
  have hb2 : n + m ≤ 140737488355328 := Nat.le_trans (by rw [Nat.mul_add, Nat.mul_one]; omega) hb
  refine wp_append_own w s x t ho base e i0 z 1 bytes hT hi hz0 hz1 hz2 hzs (by decide) v n xs hs hown ad m c ys hx (by omega) (hr.news ad rfl) hone (by unfold maxLen; omega) hb1 hbase ?_
  intro v' w' h1 h2 _
  exact h v' w' h1 ((Below.refl _ _).grown h2 hbase (fun t ht => (hown.lt t ht).1))

/-- A call that answers one value and turns nothing, as one step of such a statement. -/
theorem step_call {ops : Array Oper} {o : Oper} {a : Act} {w : World} {K : Act → World → Prop} {Q : Exit → Act → World → Prop} {E : Prop} (hgd : o.guard = none) (f : FuncId) (xs : Array Operand) (ats : Array TypeId)
    (hE : ∀ args w, (callFunc f args).run Tryd.prog w = .ok (.enter f args) w) (ho : o.op = .call { callee := .value (.func f), args := xs, argTypes := ats }) (args : Array Value) (hargs : xs.map a.eval = args) (v : Value)
    (hc : Calls Tryd.prog f args w fun e w' => e = .returned v ∧ w' = w) (h : K (a.put o.dst v) w) : if Region.wanted o (yielded ops a.tmps) = true then Oper.wp Tryd.prog o a w K Q else E := by
  have hw : Region.wanted o (yielded ops a.tmps) = true := by simp [Region.wanted, hgd]
  rw [if_pos hw]
  subst hargs
  obtain ⟨dst, op, ty, pos, after, guard⟩ := o
  subst ho
  have hrun : (execOp a.eval { dst := dst, op := .call { callee := .value (.func f), args := xs, argTypes := ats }, type := ty, pos := pos, after := after, guard := guard }).run Tryd.prog w = .ok (.enter f (xs.map a.eval)) w := by
    rw [execOp_call_go]
    have e : #[] ++ xs.map a.eval ++ #[] = xs.map a.eval := by simp
    rw [e]
    exact hE _ w
  unfold Oper.wp
  rw [hrun, Oper.upon_enter]
  refine hc.mono ?_
  rintro e w' ⟨rfl, rfl⟩
  exact h

theorem enters22 (args : Array Value) (w : World) : (callFunc 68 args).run Tryd.prog w = .ok (.enter 68 args) w := run_enter 68 _ Tryd.func68 (by kernel_rfl) (by kernel_rfl) args w

theorem or192 : ∀ y : Fin 32, bits .or .u8 192 (y.val : Int) = 192 + (y.val : Int) := by decide +kernel
theorem or224b : ∀ y : Fin 16, bits .or .u8 224 (y.val : Int) = 224 + (y.val : Int) := by decide +kernel
theorem or240b : ∀ y : Fin 8, bits .or .u8 240 (y.val : Int) = 240 + (y.val : Int) := by decide +kernel
theorem or128b : ∀ y : Fin 64, bits .or .u8 128 (y.val : Int) = 128 + (y.val : Int) := by decide +kernel

set_option maxHeartbeats 800000 in
set_option maxRecDepth 100000 in
theorem app1 (base n x : Nat) (v : Value) (pre : List UInt8) (w : World) (h : ush (x : Int) = 1) (own : w.ownsRow base 5 1 v n (pre.map B)) (hb : base ≤ w.heap.size) (hn : n ≤ 100000000) :
    Calls Tryd.prog 51 #[v, .int .i32 (x : Int)] w fun e w' => ∃ v', e = .returned v' ∧ w'.ownsRow base 5 1 v' (n + 1) (pre.map B ++ (raw 1 x).map B) ∧ Below base w w' := by
  obtain ⟨_, _, _, b1, _⟩ := sh_bound h (by decide)
  have b := b1 rfl
  clear b1
  have hz : sz (x : Int) = 1 := by rw [sz_sh (by omega), h]
  have HS := hide (size_any (x : Int) w)
  rw [hz] at HS
  clear hz h
  rw [raw1 x (by omega)]
  have o0 : ∀ y : Fin 128, bits .or .u8 0 (y.val : Int) = (y.val : Int) := by decide +kernel
  have o0 : bits .or .u8 0 (x : Int) = (x : Int) := by simpa using o0 ⟨x, by omega⟩
  have wr : IntKind.u8.wrap (x : Int) = (x : Int) := by simp [IntKind.wrap, IntKind.bits, IntKind.signed]; omega
  go_enter Tryd.func51, Tryd.ntmps51
  go_wp2_with fail
  refine (unhide HS).mono ?_
  rintro e w1 ⟨rfl, rfl⟩
  clear HS
  go_wp2_with fail
  have own1 := owns_below own (Ext.drew w1)
  clear own
  go_region_law (first
    | refine step_call rfl 68 _ _ enters22 rfl #[.int .i64 1] (by simp [Act.eval, Act.put]) (.int .u8 0) (lead1 _) ?_
    | (refine step_app rfl (.tmp 12) (.tmp 20) 33 5 (.int .u8 0) 1 Tryd.underlying33 uinfoB rfl rfl base v n (pre.map B) ?q1 ?q2 ⟨w1.heap.size, 0, none⟩ 1 1 [.int .u8 (x : Int)] ?q3 rfl ?q4 ?q5 ?q6 ?q7 ?q8
       case q1 => simp [Act.eval]
       case q2 => exact owns_below own1 (Ext.alloc _ _)
       case q3 => simp [Act.eval]
       case q4 => exact RdV.lit w1.drew _ _ _ (show 1 ≤ 9223372036854775807 by omega)
       case q5 => simp [Value.oneCell']
       case q6 => omega
       case q7 => (simp; omega)
       intro v2 w2 own3 hb3))
  have hb4 : Below base w1 w2 := ((Below.refl base w1).drew.alloc hb _).trans hb3
  have hb5 := hb4.size
  clear own1 o0 wr hb3
  go_wp2
  refine wp_loop_rounds 1 ?_
  rw [rounds_succ]
  go_wp2
  go_ret
  exact ⟨_, rfl, by simpa using own3, hb4⟩

set_option maxHeartbeats 800000 in
set_option maxRecDepth 100000 in
theorem app2 (base n x : Nat) (v : Value) (pre : List UInt8) (w : World) (h : ush (x : Int) = 2) (own : w.ownsRow base 5 1 v n (pre.map B)) (hb : base ≤ w.heap.size) (hn : n ≤ 100000000) :
    Calls Tryd.prog 51 #[v, .int .i32 (x : Int)] w fun e w' => ∃ v', e = .returned v' ∧ w'.ownsRow base 5 1 v' (n + 2) (pre.map B ++ (raw 2 x).map B) ∧ Below base w w' := by
  obtain ⟨_, _, _, _, b1, _⟩ := sh_bound h (by decide)
  have b := b1 rfl
  clear b1
  have hz : sz (x : Int) = 2 := by rw [sz_sh (by omega), h]
  have HS := hide (size_any (x : Int) w)
  rw [hz] at HS
  clear hz h
  rw [raw2 x (by omega)]
  have o0 : bits .or .u8 192 ((x : Int) / 64) = 192 + (x : Int) / 64 := by simpa using or192 ⟨x / 64, by omega⟩
  have wr : IntKind.u8.wrap ((x : Int) / 64) = (x : Int) / 64 := by simp [IntKind.wrap, IntKind.bits, IntKind.signed]; omega
  go_enter Tryd.func51, Tryd.ntmps51
  go_wp2_with fail
  refine (unhide HS).mono ?_
  rintro e w1 ⟨rfl, rfl⟩
  clear HS
  go_wp2_with fail
  have own1 := owns_below own (Ext.drew w1)
  clear own
  go_region_law (first
    | refine step_call rfl 68 _ _ enters22 rfl #[.int .i64 2] (by simp [Act.eval, Act.put]) (.int .u8 192) (lead2 _) ?_
    | (refine step_app rfl (.tmp 12) (.tmp 20) 33 5 (.int .u8 0) 1 Tryd.underlying33 uinfoB rfl rfl base v n (pre.map B) ?q1 ?q2 ⟨w1.heap.size, 0, none⟩ 1 1 [.int .u8 (192 + (x : Int) / 64)] ?q3 rfl ?q4 ?q5 ?q6 ?q7 ?q8
       case q1 => simp [Act.eval]
       case q2 => exact owns_below own1 (Ext.alloc _ _)
       case q3 => simp [Act.eval]
       case q4 => exact RdV.lit w1.drew _ _ _ (show 1 ≤ 9223372036854775807 by omega)
       case q5 => simp [Value.oneCell']
       case q6 => omega
       case q7 => (simp; omega)
       intro v2 w2 own3 hb3))
  have hb4 : Below base w1 w2 := ((Below.refl base w1).drew.alloc hb _).trans hb3
  have hb5 := hb4.size
  clear own1 o0 wr hb3
  go_wp2
  refine wp_loop_rounds 2 ?_
  rw [rounds_succ]
  have RL := RdV.lit w2 [.int .u8 (128 + (x : Int) % 64)] 5 (0, 0) (show 1 ≤ 9223372036854775807 by omega)
  have owna := owns_below own3 (Ext.alloc w2 (.cells #[.int .u8 (128 + (x : Int) % 64)] 5 (0, 0)))
  have hbz : Below base w1 (w2.alloc (.cells #[.int .u8 (128 + (x : Int) % 64)] 5 (0, 0))) := hb4.alloc (Nat.le_trans hb hb4.size) _
  clear own3
  go_wp2_with (at_builtin; refine wpList_app rfl (.tmp 26) (.tmp 33) 33 5 (.int .u8 0) 1 Tryd.underlying33 uinfoB rfl rfl base _ _ _ rfl owna _ _ _ [.int .u8 (128 + (x : Int) % 64)] rfl rfl RL (by simp [Value.oneCell']) (by omega) (Nat.le_trans hb hbz.size) ?_)
  intro v3 w3 ownn0 hbb0
  have hbb0 := hbz.trans hbb0
  clear RL owna hbz hb4
  go_wp2_with fail
  rw [rounds_succ]
  go_wp2
  go_ret
  exact ⟨_, rfl, by simpa using ownn0, hbb0⟩

set_option maxHeartbeats 800000 in
set_option maxRecDepth 100000 in
theorem app3 (base n x : Nat) (v : Value) (pre : List UInt8) (w : World) (h : ush (x : Int) = 3) (own : w.ownsRow base 5 1 v n (pre.map B)) (hb : base ≤ w.heap.size) (hn : n ≤ 100000000) :
    Calls Tryd.prog 51 #[v, .int .i32 (x : Int)] w fun e w' => ∃ v', e = .returned v' ∧ w'.ownsRow base 5 1 v' (n + 3) (pre.map B ++ (raw 3 x).map B) ∧ Below base w w' := by
  obtain ⟨_, _, _, _, _, b1, _⟩ := sh_bound h (by decide)
  have b := b1 rfl
  clear b1
  have hz : sz (x : Int) = 3 := by rw [sz_sh (by omega), h]
  have HS := hide (size_any (x : Int) w)
  rw [hz] at HS
  clear hz h
  rw [raw3 x (by omega)]
  have o0 : bits .or .u8 224 ((x : Int) / 4096) = 224 + (x : Int) / 4096 := by simpa using or224b ⟨x / 4096, by omega⟩
  have wr : IntKind.u8.wrap ((x : Int) / 4096) = (x : Int) / 4096 := by simp [IntKind.wrap, IntKind.bits, IntKind.signed]; omega
  go_enter Tryd.func51, Tryd.ntmps51
  go_wp2_with fail
  refine (unhide HS).mono ?_
  rintro e w1 ⟨rfl, rfl⟩
  clear HS
  go_wp2_with fail
  have own1 := owns_below own (Ext.drew w1)
  clear own
  go_region_law (first
    | refine step_call rfl 68 _ _ enters22 rfl #[.int .i64 3] (by simp [Act.eval, Act.put]) (.int .u8 224) (lead3 _) ?_
    | (refine step_app rfl (.tmp 12) (.tmp 20) 33 5 (.int .u8 0) 1 Tryd.underlying33 uinfoB rfl rfl base v n (pre.map B) ?q1 ?q2 ⟨w1.heap.size, 0, none⟩ 1 1 [.int .u8 (224 + (x : Int) / 4096)] ?q3 rfl ?q4 ?q5 ?q6 ?q7 ?q8
       case q1 => simp [Act.eval]
       case q2 => exact owns_below own1 (Ext.alloc _ _)
       case q3 => simp [Act.eval]
       case q4 => exact RdV.lit w1.drew _ _ _ (show 1 ≤ 9223372036854775807 by omega)
       case q5 => simp [Value.oneCell']
       case q6 => omega
       case q7 => (simp; omega)
       intro v2 w2 own3 hb3))
  have hb4 : Below base w1 w2 := ((Below.refl base w1).drew.alloc hb _).trans hb3
  have hb5 := hb4.size
  clear own1 o0 wr hb3
  go_wp2
  refine wp_loop_rounds 3 ?_
  rw [rounds_succ]
  have RL := RdV.lit w2 [.int .u8 (128 + (x : Int) / 64 % 64)] 5 (0, 0) (show 1 ≤ 9223372036854775807 by omega)
  have owna := owns_below own3 (Ext.alloc w2 (.cells #[.int .u8 (128 + (x : Int) / 64 % 64)] 5 (0, 0)))
  have hbz : Below base w1 (w2.alloc (.cells #[.int .u8 (128 + (x : Int) / 64 % 64)] 5 (0, 0))) := hb4.alloc (Nat.le_trans hb hb4.size) _
  clear own3
  go_wp2_with (at_builtin; refine wpList_app rfl (.tmp 26) (.tmp 33) 33 5 (.int .u8 0) 1 Tryd.underlying33 uinfoB rfl rfl base _ _ _ rfl owna _ _ _ [.int .u8 (128 + (x : Int) / 64 % 64)] rfl rfl RL (by simp [Value.oneCell']) (by omega) (Nat.le_trans hb hbz.size) ?_)
  intro v3 w3 ownn0 hbb0
  have hbb0 := hbz.trans hbb0
  clear RL owna hbz hb4
  go_wp2_with fail
  rw [rounds_succ]
  have RL := RdV.lit w3 [.int .u8 (128 + (x : Int) % 64)] 5 (0, 0) (show 1 ≤ 9223372036854775807 by omega)
  have owna := owns_below ownn0 (Ext.alloc w3 (.cells #[.int .u8 (128 + (x : Int) % 64)] 5 (0, 0)))
  have hbz : Below base w1 (w3.alloc (.cells #[.int .u8 (128 + (x : Int) % 64)] 5 (0, 0))) := hbb0.alloc (Nat.le_trans hb hbb0.size) _
  clear ownn0
  go_wp2_with (at_builtin; refine wpList_app rfl (.tmp 26) (.tmp 33) 33 5 (.int .u8 0) 1 Tryd.underlying33 uinfoB rfl rfl base _ _ _ rfl owna _ _ _ [.int .u8 (128 + (x : Int) % 64)] rfl rfl RL (by simp [Value.oneCell']) (by omega) (Nat.le_trans hb hbz.size) ?_)
  intro v4 w4 ownn1 hbb1
  have hbb1 := hbz.trans hbb1
  clear RL owna hbz hbb0
  go_wp2_with fail
  rw [rounds_succ]
  go_wp2
  go_ret
  exact ⟨_, rfl, by simpa using ownn1, hbb1⟩

set_option maxHeartbeats 800000 in
set_option maxRecDepth 100000 in
theorem app4 (base n x : Nat) (v : Value) (pre : List UInt8) (w : World) (h : ush (x : Int) = 4) (own : w.ownsRow base 5 1 v n (pre.map B)) (hb : base ≤ w.heap.size) (hn : n ≤ 100000000) :
    Calls Tryd.prog 51 #[v, .int .i32 (x : Int)] w fun e w' => ∃ v', e = .returned v' ∧ w'.ownsRow base 5 1 v' (n + 4) (pre.map B ++ (raw 4 x).map B) ∧ Below base w w' := by
  obtain ⟨_, bm, _, _, _, _, b1, _⟩ := sh_bound h (by decide)
  have b := b1 rfl
  clear b1
  have hz : sz (x : Int) = 4 := by rw [sz_sh (by omega), h]
  have HS := hide (size_any (x : Int) w)
  rw [hz] at HS
  clear hz h
  rw [raw4 x (by omega)]
  have o0 : bits .or .u8 240 ((x : Int) / 262144) = 240 + (x : Int) / 262144 := by simpa using or240b ⟨x / 262144, by omega⟩
  have wr : IntKind.u8.wrap ((x : Int) / 262144) = (x : Int) / 262144 := by simp [IntKind.wrap, IntKind.bits, IntKind.signed]; omega
  go_enter Tryd.func51, Tryd.ntmps51
  go_wp2_with fail
  refine (unhide HS).mono ?_
  rintro e w1 ⟨rfl, rfl⟩
  clear HS
  go_wp2_with fail
  have own1 := owns_below own (Ext.drew w1)
  clear own
  go_region_law (first
    | refine step_call rfl 68 _ _ enters22 rfl #[.int .i64 4] (by simp [Act.eval, Act.put]) (.int .u8 240) (lead4 _) ?_
    | (refine step_app rfl (.tmp 12) (.tmp 20) 33 5 (.int .u8 0) 1 Tryd.underlying33 uinfoB rfl rfl base v n (pre.map B) ?q1 ?q2 ⟨w1.heap.size, 0, none⟩ 1 1 [.int .u8 (240 + (x : Int) / 262144)] ?q3 rfl ?q4 ?q5 ?q6 ?q7 ?q8
       case q1 => simp [Act.eval]
       case q2 => exact owns_below own1 (Ext.alloc _ _)
       case q3 => simp [Act.eval]
       case q4 => exact RdV.lit w1.drew _ _ _ (show 1 ≤ 9223372036854775807 by omega)
       case q5 => simp [Value.oneCell']
       case q6 => omega
       case q7 => (simp; omega)
       intro v2 w2 own3 hb3))
  have hb4 : Below base w1 w2 := ((Below.refl base w1).drew.alloc hb _).trans hb3
  have hb5 := hb4.size
  clear own1 o0 wr hb3
  go_wp2
  refine wp_loop_rounds 4 ?_
  rw [rounds_succ]
  have RL := RdV.lit w2 [.int .u8 (128 + (x : Int) / 4096 % 64)] 5 (0, 0) (show 1 ≤ 9223372036854775807 by omega)
  have owna := owns_below own3 (Ext.alloc w2 (.cells #[.int .u8 (128 + (x : Int) / 4096 % 64)] 5 (0, 0)))
  have hbz : Below base w1 (w2.alloc (.cells #[.int .u8 (128 + (x : Int) / 4096 % 64)] 5 (0, 0))) := hb4.alloc (Nat.le_trans hb hb4.size) _
  clear own3
  go_wp2_with (at_builtin; refine wpList_app rfl (.tmp 26) (.tmp 33) 33 5 (.int .u8 0) 1 Tryd.underlying33 uinfoB rfl rfl base _ _ _ rfl owna _ _ _ [.int .u8 (128 + (x : Int) / 4096 % 64)] rfl rfl RL (by simp [Value.oneCell']) (by omega) (Nat.le_trans hb hbz.size) ?_)
  intro v3 w3 ownn0 hbb0
  have hbb0 := hbz.trans hbb0
  clear RL owna hbz hb4
  go_wp2_with fail
  rw [rounds_succ]
  have RL := RdV.lit w3 [.int .u8 (128 + (x : Int) / 64 % 64)] 5 (0, 0) (show 1 ≤ 9223372036854775807 by omega)
  have owna := owns_below ownn0 (Ext.alloc w3 (.cells #[.int .u8 (128 + (x : Int) / 64 % 64)] 5 (0, 0)))
  have hbz : Below base w1 (w3.alloc (.cells #[.int .u8 (128 + (x : Int) / 64 % 64)] 5 (0, 0))) := hbb0.alloc (Nat.le_trans hb hbb0.size) _
  clear ownn0
  go_wp2_with (at_builtin; refine wpList_app rfl (.tmp 26) (.tmp 33) 33 5 (.int .u8 0) 1 Tryd.underlying33 uinfoB rfl rfl base _ _ _ rfl owna _ _ _ [.int .u8 (128 + (x : Int) / 64 % 64)] rfl rfl RL (by simp [Value.oneCell']) (by omega) (Nat.le_trans hb hbz.size) ?_)
  intro v4 w4 ownn1 hbb1
  have hbb1 := hbz.trans hbb1
  clear RL owna hbz hbb0
  go_wp2_with fail
  rw [rounds_succ]
  have RL := RdV.lit w4 [.int .u8 (128 + (x : Int) % 64)] 5 (0, 0) (show 1 ≤ 9223372036854775807 by omega)
  have owna := owns_below ownn1 (Ext.alloc w4 (.cells #[.int .u8 (128 + (x : Int) % 64)] 5 (0, 0)))
  have hbz : Below base w1 (w4.alloc (.cells #[.int .u8 (128 + (x : Int) % 64)] 5 (0, 0))) := hbb1.alloc (Nat.le_trans hb hbb1.size) _
  clear ownn1
  go_wp2_with (at_builtin; refine wpList_app rfl (.tmp 26) (.tmp 33) 33 5 (.int .u8 0) 1 Tryd.underlying33 uinfoB rfl rfl base _ _ _ rfl owna _ _ _ [.int .u8 (128 + (x : Int) % 64)] rfl rfl RL (by simp [Value.oneCell']) (by omega) (Nat.le_trans hb hbz.size) ?_)
  intro v5 w5 ownn2 hbb2
  have hbb2 := hbz.trans hbb2
  clear RL owna hbz hbb1
  go_wp2_with fail
  rw [rounds_succ]
  go_wp2
  go_ret
  exact ⟨_, rfl, by simpa using ownn2, hbb2⟩

end Go.Proofs.YtilmkmplaehcaaaDoor
