/-
  Which texts are long addresses: some.
-/
import Derived.Test.YtmohdhffoilndaaDoorI6J
import Derived.Test.YtmohdhffoilndaaDoorI6E2
import Derived.Test.YtmohdhffoilndaaDoorReg2
namespace Go.Proofs.YtmohdhffoilndaaDoor
set_option linter.unusedVariables false
open Go.RowKit

def fromI : List (List UInt8) := [[58, 58], [58, 58, 49], [49, 58, 58], [49, 58, 50, 58, 51, 58, 52, 58, 53, 58, 54, 58, 55, 58, 56], [58, 58, 102, 102, 102, 102, 58, 49, 46, 50, 46, 51, 46, 52], [49, 58, 50, 58, 51, 58, 52, 58, 53, 58, 54, 58, 49, 46, 50, 46, 51, 46, 52], [48, 58, 48, 58, 49, 58, 58], [49, 58, 58, 50, 58, 51, 58, 52, 58, 53, 58, 54, 58, 55], [65, 66, 67, 68, 58, 58], [48, 48, 48, 49, 58, 58, 48], [58, 58, 48, 58, 48]]
def toI : List (List UInt8) := [[58, 58], [58, 58, 49], [49, 58, 58], [49, 58, 50, 58, 51, 58, 52, 58, 53, 58, 54, 58, 55, 58, 56], [58, 58, 102, 102, 102, 102, 58, 49, 48, 50, 58, 51, 48, 52], [49, 58, 50, 58, 51, 58, 52, 58, 53, 58, 54, 58, 49, 48, 50, 58, 51, 48, 52], [48, 58, 48, 58, 49, 58, 58], [49, 58, 48, 58, 50, 58, 51, 58, 52, 58, 53, 58, 54, 58, 55], [97, 98, 99, 100, 58, 58], [49, 58, 58], [58, 58]]
def arrI : List (List Nat) := [[0, 0, 0, 0, 0, 0, 0, 0], [0, 0, 0, 0, 0, 0, 0, 1], [1, 0, 0, 0, 0, 0, 0, 0], [1, 2, 3, 4, 5, 6, 7, 8], [0, 0, 0, 0, 0, 65535, 258, 772], [1, 2, 3, 4, 5, 6, 258, 772], [0, 0, 1, 0, 0, 0, 0, 0], [1, 0, 2, 3, 4, 5, 6, 7], [43981, 0, 0, 0, 0, 0, 0, 0], [1, 0, 0, 0, 0, 0, 0, 0], [0, 0, 0, 0, 0, 0, 0, 0]]
def badI : List (List UInt8) := [[], [58], [58, 58, 58], [49, 58, 58, 50, 58, 58, 51], [49, 58, 50, 58, 51, 58, 52, 58, 53, 58, 54, 58, 55], [49, 58, 50, 58, 51, 58, 52, 58, 53, 58, 54, 58, 55, 58, 56, 58, 57], [49, 50, 51, 52, 53, 58, 58], [103, 58, 58], [49, 58], [58, 49], [49, 58, 50, 58, 51, 58, 52, 58, 53, 58, 54, 58, 55, 58, 58, 56], [58, 58, 49, 46, 50, 46, 51], [58, 58, 49, 46, 50, 46, 51, 46, 50, 53, 54], [58, 58, 48, 49, 46, 50, 46, 51, 46, 52], [58, 58, 49, 46, 50, 46, 51, 46, 52, 58, 53], [49, 46, 50, 46, 51, 46, 52], [58, 58, 49, 46, 50, 46, 51, 46, 52, 46, 53], [49, 58, 50, 58, 51, 58, 52, 58, 53, 58, 54, 58, 55, 58, 49, 46, 50, 46, 51, 46, 52], [49, 46, 50, 46, 51, 46, 52, 58, 58]]
theorem fromI_all : ∀ i : Fin 11, par6 (fromI.getD i.val []) = some (arrI.getD i.val []) ∧ shF (arrI.getD i.val []) = toI.getD i.val [] ∧ (fromI.getD i.val []).length ≤ 100000 ∧ (arrI.getD i.val []).length = 8 ∧ (arrI.getD i.val []).all (fun v => decide (v < 65536)) = true := by decide +kernel
theorem badI_all : ∀ i : Fin 19, par6 (badI.getD i.val []) = none ∧ (badI.getD i.val []).length ≤ 100000 := by decide +kernel
theorem list8q (a : List Nat) (h : a.length = 8) : ∃ x0 x1 x2 x3 x4 x5 x6 x7, a = [x0, x1, x2, x3, x4, x5, x6, x7] := by
  match a, h with
  | [a, b, c, d, e, f, g, i], _ => exact ⟨a, b, c, d, e, f, g, i, rfl⟩
theorem cellq {w : World} {b cap : Nat} {ps : List (List UInt8)} (h : RdV w (some ⟨b, 0, none⟩) cap (ps.map S)) (k : Nat) (hk : k < ps.length) : w.cell? ⟨b, k, none⟩ = some (S (ps.getD k [])) := by
  obtain ⟨b', off', eb, hc⟩ := h.cell k (by simpa using hk)
  simp only [Option.some.injEq, Addr.mk.injEq] at eb
  obtain ⟨rfl, rfl, _⟩ := eb
  rw [Nat.zero_add] at hc
  rw [hc, List.getElem?_map, List.getElem?_eq_getElem hk]
  simp [List.getD, hk]
theorem load_strq {w : World} {p : Addr} {s : ByteArray} (h : w.cell? p = some (.string s)) : (Instr.loadAt 9 (.pointer (some p))).run Tryd.prog w = .ok (.string s) w := by
  have hu := Tryd.underlying9
  simp [Instr.loadAt, Instr.sureAddr, loadVar, isAgg, run_underlying hu, h]
theorem addr_strq (w : World) (g n i : Nat) (hi : i < n) : (Instr.indexAt 36 (.slice (some ⟨g, 0, none⟩) n n) (.int .i64 (i : Int))).run Tryd.prog w = .ok (.pointer (some ⟨g, i, none⟩)) w := by
  have he : Tryd.prog.elem 36 = 9 := by kernel_rfl
  rw [run_indexAt_slice w 36 ⟨g, 0, none⟩ n n .i64 (i : Int) (by rw [he]; exact Tryd.underlying36), if_pos ⟨by omega, by omega⟩, he]
  have hs : (sizeOf 9).run Tryd.prog w = .ok 1 w := by kernel_rfl
  rw [hs]
  simp only [Result.andThen]
  rw [Addr.add_lit]
  simp

section
variable {ops : Array Oper} {Q : Exit → Act → World → Prop} {A : Tmp → Value → World → Prop} {a0 : Act} {w0 : World} {o : Oper} {d : Tmp}

theorem args1q (a : Act) (x : Tmp) : (#[Operand.tmp x] : Array Operand).map a.eval = #[a.tmps.getD x undef] := by simp [Act.eval]
theorem ok_addr2q (hw : Wanted ops A o) (hdst : o.dst = some d) (x y : Tmp) (t : TypeId) (ho : o.op = .indexAddr t (.tmp x) (.tmp y)) (hx1 : (depSlots ops o).contains x = true) (hy1 : (depSlots ops o).contains y = true) (v u v' : Value)
    (hX : ∀ q w, A x q w → q = v) (hY : ∀ q w, A y q w → q = u) (hrun : ∀ w, (Instr.indexAt t v u).run Tryd.prog w = .ok v' w) (hF : ∀ w, A d v' w) : StepOk Tryd.prog ops Q A a0 w0 o :=
  ok_val hw hdst fun a w hx hf hd => ⟨v', w, by
    have e := hX _ _ (hd x hx1)
    have e2 := hY _ _ (hd y hy1)
    simp only [execOp, ho, Act.eval, e, e2]
    simp [hrun], hF w, Ext.refl _⟩
theorem ok_neqq (hw : Wanted ops A o) (hdst : o.dst = some d) (x y : Tmp) (ty ty' : TypeId) (ho : o.op = .binOp .neq ty (.tmp x) (.tmp y) ty') (hx1 : (depSlots ops o).contains x = true) (hy1 : (depSlots ops o).contains y = true)
    (m : List UInt8) (hX : ∀ v w, A x v w → v = S m) (hY : ∀ v w, A y v w → v = S m) (hF : ∀ w, A d (.bool false) w) : StepOk Tryd.prog ops Q A a0 w0 o :=
  ok_val hw hdst fun a w hx hf hd => ⟨.bool false, w, by
    have e1 := hX _ _ (hd x hx1)
    have e2 := hY _ _ (hd y hy1)
    simp only [execOp, ho, Act.eval, e1, e2]
    simp [eqGuard, binOp, Op.stringOp], hF w, Ext.refl _⟩
/-- '!=' of a number and the same number. -/
theorem ok_neq_same (hw : Wanted ops A o) (hdst : o.dst = some d) (x : Tmp) (ty ty' : TypeId) (k : IntKind) (n : Int) (ho : o.op = .binOp .neq ty (.tmp x) (.const (.int k n)) ty') (hx1 : (depSlots ops o).contains x = true)
    (hX : ∀ v w, A x v w → v = .int k n) (hF : ∀ w, A d (.bool false) w) : StepOk Tryd.prog ops Q A a0 w0 o :=
  ok_val hw hdst fun a w hx hf hd => ⟨.bool false, w, by
    have e1 := hX _ _ (hd x hx1)
    simp only [execOp, ho, Act.eval, e1]
    simp [eqGuard, binOp, Op.intCmp], hF w, Ext.refl _⟩
theorem ok_loadq (hw : Wanted ops A o) (hdst : o.dst = some d) (x : Tmp) (t : TypeId) (ho : o.op = .load t (.tmp x)) (hx1 : (depSlots ops o).contains x = true) (v v' : Value)
    (hX : ∀ u w, A x u w → u = v) (hrun : ∀ w, Ext w0 w → (Instr.loadAt t v).run Tryd.prog w = .ok v' w) (hF : ∀ w, A d v' w) : StepOk Tryd.prog ops Q A a0 w0 o :=
  ok_val hw hdst fun a w hx hf hd => ⟨v', w, by
    have e := hX _ _ (hd x hx1)
    simp only [execOp, ho, Act.eval, e]
    simp [hrun w hx], hF w, Ext.refl _⟩
/-- A load of a place that stood there ahead of the statement. -/
theorem ok_loadf (hw : Wanted ops A o) (hdst : o.dst = some d) (x : Tmp) (t : TypeId) (ho : o.op = .load t (.tmp x)) (hs : (dstSlots ops).contains x = false) (v v' : Value)
    (hv : a0.tmps.getD x undef = v) (hrun : ∀ w, Ext w0 w → (Instr.loadAt t v).run Tryd.prog w = .ok v' w) (hF : ∀ w, A d v' w) : StepOk Tryd.prog ops Q A a0 w0 o :=
  ok_val hw hdst fun a w hx hf hd => ⟨v', w, by
    have e : a.tmps.getD x undef = v := by rw [hf x hs, hv]
    simp only [execOp, ho, Act.eval, e]
    simp [hrun w hx], hF w, Ext.refl _⟩
/-- 'c || x', c false. -/
theorem ok_or (hw : Wanted ops A o) (hdst : o.dst = some d) (c x : Tmp) (y : Operand) (ho : o.op = .pick (.tmp c) y (.tmp x)) (hc : (depSlots ops o).contains c = true) (hs : (depSlots ops o).contains x = true)
    (hB : ∀ v w, A c v w → v = .bool false) (hF : ∀ v w, A x v w → A d v w) : StepOk Tryd.prog ops Q A a0 w0 o :=
  ok_val hw hdst fun a w hx hf hd => ⟨a.tmps.getD x undef, w, by
    have e := hB _ _ (hd c hc)
    simp only [execOp, ho, Act.eval, e]
    simp [asBool], hF _ _ (hd x hs), Ext.refl _⟩
end
theorem load_8q {w : World} {g x0 x1 x2 x3 x4 x5 x6 x7 : Nat} (h : w.heap[g]? = some (.cells #[U x0, U x1, U x2, U x3, U x4, U x5, U x6, U x7] 23 (0, 0))) : (Instr.loadAt 23 (.pointer (some ⟨g, 0, none⟩))).run Tryd.prog w = .ok (.agg #[U x0, U x1, U x2, U x3, U x4, U x5, U x6, U x7]) w :=
  load_8 g 0 [x0, x1, x2, x3, x4, x5, x6, x7] fun j v hj => by
    rw [Nat.zero_add]
    have hc : w.cell? ⟨g, j, none⟩ = (#[U x0, U x1, U x2, U x3, U x4, U x5, U x6, U x7] : Array Value)[j]? := by simp [World.cell?, h]
    rw [hc, List.getElem?_toArray]
    exact hj

set_option maxHeartbeats 4000000 in
set_option maxRecDepth 100000 in
theorem forms6_walk (w : World) (tb : Tb8 w) : Calls Tryd.prog 7 #[] w fun e w' => e = .returned (.bool true) ∧ Ext w w' := by
  have HB := hide (begun_yes w tb)
  have TB := hide (fun (w' : World) (hx : Ext w w') => tb.below hx)
  clear tb
  go_enter Tryd.func7, Tryd.ntmps7
  go_wp2_with fail
  refine (unhide HB).mono ?_
  rintro e w1 ⟨rfl, hx1⟩
  clear HB
  have rG : RdV (w1.alloc (.cells (fromI.map S).toArray 9 (0, 0))) (some ⟨w1.heap.size, 0, none⟩) 11 (fromI.map S) := RdV.lit w1 (fromI.map S) 9 (0, 0) (by decide)
  have xG := Ext.alloc w1 (.cells (fromI.map S).toArray 9 (0, 0))
  have sG : (w1.alloc (.cells (fromI.map S).toArray 9 (0, 0))).heap.size = w1.heap.size + 1 := by simp
  have rN := RdV.lit (w1.alloc (.cells (fromI.map S).toArray 9 (0, 0))) (toI.map S) 9 (0, 0) (by decide)
  have xN := Ext.alloc (w1.alloc (.cells (fromI.map S).toArray 9 (0, 0))) (.cells (toI.map S).toArray 9 (0, 0))
  rw [sG] at rN
  have RG := hide (rG.below xN)
  have RN := hide rN
  have HX := hide (hx1.trans (xG.trans xN))
  clear xG xN rG sG rN
  obtain ⟨w2, hw2⟩ : ∃ w2, w2 = (w1.alloc (.cells (fromI.map S).toArray 9 (0, 0))).alloc (.cells (toI.map S).toArray 9 (0, 0)) := ⟨_, rfl⟩
  rw [← hw2] at RG RN HX
  have HW2 := hide hw2
  clear hw2
  obtain ⟨b1, hb1⟩ : ∃ b1, b1 = w1.heap.size := ⟨_, rfl⟩
  rw [← hb1] at RG RN
  have HB1 := hide hb1
  clear hb1
  go_wp2_with fail
  go_loopw [3] (fun i wr => ∃ (k : Nat), k ≤ 11 ∧ i = .int .i64 k ∧ Ext w2 wr) (fun i _ => 11 - (intOf i).toNat)
  case atStart => exact ⟨0, by omega, rfl, by rw [unhide HW2]; exact Ext.refl _⟩
  case round =>
    obtain ⟨k, hk, rfl, hxr⟩ := hrel
    rw [← unhide HB1]
    by_cases hkl : k < 11
    · have hkl' : (k : Int) < 11 := by omega
      obtain ⟨g1, g2, g3, g4, g5⟩ := fromI_all ⟨k, hkl⟩
      simp only at g1 g2 g3 g4 g5
      have c1 := cellq ((unhide RG).below hxr) k hkl
      have C2 : Hid (∀ v, Ext wr v → v.cell? ⟨b1 + 1, k, none⟩ = some (S (toI.getD k []))) := fun v hv => cellq (((unhide RN).below hxr).below hv) k hkl
      have hxw := (unhide HX).trans hxr
      generalize toI.getD k [] = q at *
      generalize fromI.getD k [] = p at *
      generalize arrI.getD k [] = l at *
      obtain ⟨x0, x1, x2, x3, x4, x5, x6, x7, rfl⟩ := list8q l g4
      have H1 : Hid (Calls Tryd.prog 10 #[S p] wr fun e w' => e = .returned (.tuple #[.agg #[U x0, U x1, U x2, U x3, U x4, U x5, U x6, U x7], .int .i64 0]) ∧ Ext wr w') := parse6_lit p _ g1 g3 wr (unhide TB wr hxw)
      have HS : Hid (∀ v, Ext wr v → Calls Tryd.prog 12 #[.agg #[U x0, U x1, U x2, U x3, U x4, U x5, U x6, U x7]] v fun e w' => e = .returned (S q) ∧ Ext v w') := fun v hv => by
        have := show6_any x0 x1 x2 x3 x4 x5 x6 x7 v (small_dec _ g5) (unhide TB v (hxw.trans hv))
        rw [shF_eq _ (small_dec _ g5), g2] at this
        exact this
      have XX := hide hxr
      clear g1 g2 g3 g4 g5 hxw hxr
      go_wp2_with fail
      refine (unhide H1).mono ?_
      rintro e w3 ⟨rfl, hx3⟩
      clear H1 c1
      have hA : (w3.alloc (.cells #[U x0, U x1, U x2, U x3, U x4, U x5, U x6, U x7] 23)).heap[w3.heap.size]? = some (.cells #[U x0, U x1, U x2, U x3, U x4, U x5, U x6, U x7] 23 (0, 0)) := alloc_new _ _
      have hx4 := hx3.trans (Ext.alloc w3 (.cells #[U x0, U x1, U x2, U x3, U x4, U x5, U x6, U x7] 23))
      have HA := hide hA
      have X4 := hide hx4
      clear hA hx4 hx3
      go_wp2_with fail
      refine wp_region_open2 (A := knows [(28, isF (.int .i64 0)), (29, isF (.bool false)), (30, isF (.bool false)), (31, isF (.agg #[U x0, U x1, U x2, U x3, U x4, U x5, U x6, U x7])), (32, isF (S q)), (33, isF (.slice (some ⟨b1 + 1, 0, none⟩) 11 11)), (34, isF (.int .i64 (k : Int))), (35, isF (.pointer (some ⟨b1 + 1, k, none⟩))), (36, isF (S q)), (37, isF (.bool false)), (38, isF (.bool false))]) [28, 29, 30, 31, 32, 33, 34, 35, 36, 37, 38] (by kernel_rfl) (by kernel_rfl) (by kernel_rfl) (knows_mono _) (steps_of ?_) ?_
      · skip
        refine allOps_cons (ok_fixed (.inl rfl) rfl 5 (.int .i64 0) (.inl rfl) (by kernel_rfl) rfl (fun _ _ => rfl)) ?_
        refine allOps_cons (ok_neq_same (.inl rfl) rfl 28 _ _ .i64 0 rfl (by kernel_rfl) (fun _ _ h => h) (fun _ => rfl)) ?_
        refine allOps_cons (ok_move (.inl rfl) rfl 29 (.inl rfl) (by kernel_rfl) (fun _ _ h => h)) ?_
        refine allOps_cons (ok_loadf (.inr ⟨2, false, 30, rfl, by kernel_rfl, by kernel_rfl, fun _ _ h => h⟩) rfl 4 23 rfl (by kernel_rfl) (.pointer (some ⟨w3.heap.size, 0, none⟩)) (.agg #[U x0, U x1, U x2, U x3, U x4, U x5, U x6, U x7]) rfl (fun v hv => load_8q (heap_ext (unhide HA) hv)) (fun _ => rfl)) ?_
        refine allOps_cons (ok_is (.inr ⟨2, false, 30, rfl, by kernel_rfl, by kernel_rfl, fun _ _ h => h⟩) rfl 12 #[.tmp 31] _ (fun args v => run_enter 12 Tryd.f12 Tryd.func12 (by kernel_rfl) (by kernel_rfl) args v) rfl (S q) (fun a v hx hf hd => by
          rw [args1q, show a.tmps.getD 31 undef = .agg #[U x0, U x1, U x2, U x3, U x4, U x5, U x6, U x7] from hd 31 (by kernel_rfl)]
          exact unhide HS v ((unhide X4).trans hx)) (fun _ => rfl)) ?_
        refine allOps_cons (ok_fixed (.inr ⟨2, false, 30, rfl, by kernel_rfl, by kernel_rfl, fun _ _ h => h⟩) rfl 2 (.slice (some ⟨b1 + 1, 0, none⟩) 11 11) (.inl rfl) (by kernel_rfl) rfl (fun _ _ => rfl)) ?_
        refine allOps_cons (ok_fixed (.inr ⟨2, false, 30, rfl, by kernel_rfl, by kernel_rfl, fun _ _ h => h⟩) rfl 3 (.int .i64 (k : Int)) (.inl rfl) (by kernel_rfl) rfl (fun _ _ => rfl)) ?_
        refine allOps_cons (ok_addr2q (.inr ⟨2, false, 30, rfl, by kernel_rfl, by kernel_rfl, fun _ _ h => h⟩) rfl 33 34 _ rfl (by kernel_rfl) (by kernel_rfl) _ _ _ (fun _ _ h => h) (fun _ _ h => h) (fun v => addr_strq v (b1 + 1) 11 k hkl) (fun _ => rfl)) ?_
        refine allOps_cons (ok_loadq (.inr ⟨2, false, 30, rfl, by kernel_rfl, by kernel_rfl, fun _ _ h => h⟩) rfl 35 _ rfl (by kernel_rfl) _ _ (fun _ _ h => h) (fun v hx => load_strq (unhide C2 v ((unhide X4).trans hx))) (fun _ => rfl)) ?_
        refine allOps_cons (ok_neqq (.inr ⟨2, false, 30, rfl, by kernel_rfl, by kernel_rfl, fun _ _ h => h⟩) rfl 32 36 _ _ rfl (by kernel_rfl) (by kernel_rfl) q (fun _ _ h => h) (fun _ _ h => h) (fun _ => rfl)) ?_
        refine allOps_cons (ok_or (.inl rfl) rfl 30 37 _ rfl (by kernel_rfl) (by kernel_rfl) (fun _ _ h => h) (fun _ _ h => h)) ?_
        exact allOps_nil
      · intro vs wz hx hkn
        have h38 : vs 38 = .bool false := hkn 38 rfl
        have X5 := hide ((unhide XX).trans ((unhide X4).trans hx))
        simp only [putAll, h38, Act.put, List.setIfInBounds_toArray, List.set_cons_succ, List.set_cons_zero]
        clear hkn h38 hx HA X4 XX HS C2
        generalize vs 28 = u28
        generalize vs 29 = u29
        generalize vs 30 = u30
        generalize vs 31 = u31
        generalize vs 32 = u32
        generalize vs 33 = u33
        generalize vs 34 = u34
        generalize vs 35 = u35
        generalize vs 36 = u36
        generalize vs 37 = u37
        go_wp2
        exact ⟨⟨k + 1, by omega, by simp, unhide X5⟩, (show 11 - ((k : Int) + 1).toNat < 11 - ((k : Int)).toNat by omega)⟩
    · have hkl' : ¬ (k : Int) < 11 := by omega
      have rB := RdV.lit wr (badI.map S) 9 (0, 0) (by decide)
      have xB := Ext.alloc wr (.cells (badI.map S).toArray 9 (0, 0))
      have HY := hide (((unhide HX).trans hxr).trans xB)
      have RB := hide rB
      clear rB xB hxr
      obtain ⟨w5, hw5⟩ : ∃ w5, w5 = wr.alloc (.cells (badI.map S).toArray 9 (0, 0)) := ⟨_, rfl⟩
      rw [← hw5] at RB HY
      have HW5 := hide hw5
      clear hw5
      obtain ⟨b2, hb2⟩ : ∃ b2, b2 = wr.heap.size := ⟨_, rfl⟩
      rw [← hb2] at RB
      have HB2 := hide hb2
      clear hb2
      go_wp2_with fail
      go_loopw [7] (fun i wq => ∃ (k : Nat), k ≤ 19 ∧ i = .int .i64 k ∧ Ext w5 wq) (fun i _ => 19 - (intOf i).toNat)
      case atStart => exact ⟨0, by omega, rfl, by rw [unhide HW5]; exact Ext.refl _⟩
      case round =>
        obtain ⟨j, hj, rfl, hxq⟩ := hrel
        rw [← unhide HB2]
        by_cases hjl : j < 19
        · have hjl' : (j : Int) < 19 := by omega
          obtain ⟨g1, g3⟩ := badI_all ⟨j, hjl⟩
          simp only at g1 g3
          have c1 := cellq ((unhide RB).below hxq) j hjl
          generalize badI.getD j [] = p at *
          have H1 : Hid (Calls Tryd.prog 10 #[S p] wr fun e w' => e = .returned (.tuple #[.agg #[.int .u16 0, .int .u16 0, .int .u16 0, .int .u16 0, .int .u16 0, .int .u16 0, .int .u16 0, .int .u16 0], .int .i64 5]) ∧ Ext wr w') := parse6_lit p none g1 g3 wr (unhide TB wr ((unhide HY).trans hxq))
          have XX := hide hxq
          have heq := fun v => eql8 v 0 0 0 0 0 0 0 0
          clear g1 g3 hxq
          go_wp2_with fail
          refine (unhide H1).mono ?_
          rintro e w6 ⟨rfl, hx6⟩
          clear H1 c1
          have hA : (w6.alloc (.cells #[.int .u16 0, .int .u16 0, .int .u16 0, .int .u16 0, .int .u16 0, .int .u16 0, .int .u16 0, .int .u16 0] 23)).heap[w6.heap.size]? = some (.cells #[.int .u16 0, .int .u16 0, .int .u16 0, .int .u16 0, .int .u16 0, .int .u16 0, .int .u16 0, .int .u16 0] 23 (0, 0)) := alloc_new _ _
          obtain ⟨d0, d1, d2, d3, d4, d5, d6, d7⟩ := cells8of hA
          have X2 := hide ((unhide XX).trans (hx6.trans (Ext.alloc w6 (.cells #[.int .u16 0, .int .u16 0, .int .u16 0, .int .u16 0, .int .u16 0, .int .u16 0, .int .u16 0, .int .u16 0] 23))))
          clear XX hx6 hA
          go_wp2
          exact ⟨⟨j + 1, by omega, by simp, unhide X2⟩, (show 19 - ((j : Int) + 1).toNat < 19 - ((j : Int)).toNat by omega)⟩
        · have hjl' : ¬ (j : Int) < 19 := by omega
          have HZ := hide ((unhide HY).trans hxq)
          clear hxq
          go_wp2
          go_ret
          exact ⟨rfl, unhide HZ⟩
end Go.Proofs.YtmohdhffoilndaaDoor
