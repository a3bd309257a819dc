/-
  Which texts are long addresses: some.
-/
import Derived.Test.YtfaobhaogenijaaDoorI6J
import Derived.Test.YtfaobhaogenijaaDoorI6E2
import Derived.Test.YtfaobhaogenijaaDoorReg2
namespace Go.Proofs.YtfaobhaogenijaaDoor
set_option linter.unusedVariables false
open Go.RowKit

def fromI : List (List UInt8) := [[58, 58], [58, 58, 49], [49, 58, 58], [49, 58, 50, 58, 51, 58, 52, 58, 53, 58, 54, 58, 55, 58, 56], [58, 58, 102, 102, 102, 102, 58, 49, 46, 50, 46, 51, 46, 52], [49, 58, 50, 58, 51, 58, 52, 58, 53, 58, 54, 58, 49, 46, 50, 46, 51, 46, 52], [48, 58, 48, 58, 49, 58, 58], [49, 58, 58, 50, 58, 51, 58, 52, 58, 53, 58, 54, 58, 55], [65, 66, 67, 68, 58, 58], [48, 48, 48, 49, 58, 58, 48], [58, 58, 48, 58, 48]]
def toI : List (List UInt8) := [[58, 58], [58, 58, 49], [49, 58, 58], [49, 58, 50, 58, 51, 58, 52, 58, 53, 58, 54, 58, 55, 58, 56], [58, 58, 102, 102, 102, 102, 58, 49, 48, 50, 58, 51, 48, 52], [49, 58, 50, 58, 51, 58, 52, 58, 53, 58, 54, 58, 49, 48, 50, 58, 51, 48, 52], [48, 58, 48, 58, 49, 58, 58], [49, 58, 48, 58, 50, 58, 51, 58, 52, 58, 53, 58, 54, 58, 55], [97, 98, 99, 100, 58, 58], [49, 58, 58], [58, 58]]
def arrI : List (List Nat) := [[0, 0, 0, 0, 0, 0, 0, 0], [0, 0, 0, 0, 0, 0, 0, 1], [1, 0, 0, 0, 0, 0, 0, 0], [1, 2, 3, 4, 5, 6, 7, 8], [0, 0, 0, 0, 0, 65535, 258, 772], [1, 2, 3, 4, 5, 6, 258, 772], [0, 0, 1, 0, 0, 0, 0, 0], [1, 0, 2, 3, 4, 5, 6, 7], [43981, 0, 0, 0, 0, 0, 0, 0], [1, 0, 0, 0, 0, 0, 0, 0], [0, 0, 0, 0, 0, 0, 0, 0]]
def badI : List (List UInt8) := [[], [58], [58, 58, 58], [49, 58, 58, 50, 58, 58, 51], [49, 58, 50, 58, 51, 58, 52, 58, 53, 58, 54, 58, 55], [49, 58, 50, 58, 51, 58, 52, 58, 53, 58, 54, 58, 55, 58, 56, 58, 57], [49, 50, 51, 52, 53, 58, 58], [103, 58, 58], [49, 58], [58, 49], [49, 58, 50, 58, 51, 58, 52, 58, 53, 58, 54, 58, 55, 58, 58, 56], [58, 58, 49, 46, 50, 46, 51], [58, 58, 49, 46, 50, 46, 51, 46, 50, 53, 54], [58, 58, 48, 49, 46, 50, 46, 51, 46, 52], [58, 58, 49, 46, 50, 46, 51, 46, 52, 58, 53], [49, 46, 50, 46, 51, 46, 52], [58, 58, 49, 46, 50, 46, 51, 46, 52, 46, 53], [49, 58, 50, 58, 51, 58, 52, 58, 53, 58, 54, 58, 55, 58, 49, 46, 50, 46, 51, 46, 52], [49, 46, 50, 46, 51, 46, 52, 58, 58]]
theorem fromI_all : ∀ i : Fin 11, par6 (fromI.getD i.val []) = some (arrI.getD i.val []) ∧ shF (arrI.getD i.val []) = toI.getD i.val [] ∧ (fromI.getD i.val []).length ≤ 100000 ∧ (arrI.getD i.val []).length = 8 ∧ (arrI.getD i.val []).all (fun v => decide (v < 65536)) = true := by decide +kernel
theorem badI_all : ∀ i : Fin 19, par6 (badI.getD i.val []) = none ∧ (badI.getD i.val []).length ≤ 100000 := by decide +kernel
theorem list8q (a : List Nat) (h : a.length = 8) : ∃ x0 x1 x2 x3 x4 x5 x6 x7, a = [x0, x1, x2, x3, x4, x5, x6, x7] := by
  match a, h with
  | [a, b, c, d, e, f, g, i], _ => exact ⟨a, b, c, d, e, f, g, i, rfl⟩
theorem cellq {w : World} {b cap : Nat} {ps : List (List UInt8)} (h : RdV w (some ⟨b, 0, none⟩) cap (ps.map S)) (k : Nat) (hk : k < ps.length) : w.cell? ⟨b, k, none⟩ = some (S (ps.getD k [])) := by
  obtain ⟨b', off', eb, hc⟩ := h.cell k (by simpa using hk)
  simp only [Option.some.injEq, Addr.mk.injEq] at eb
  obtain ⟨rfl, rfl, _⟩ := eb
  rw [Nat.zero_add] at hc
  rw [hc, List.getElem?_map, List.getElem?_eq_getElem hk]
  simp [List.getD, hk]
theorem load_strq {w : World} {p : Addr} {s : ByteArray} (h : w.cell? p = some (.string s)) : (Instr.loadAt 9 (.pointer (some p))).run Tryd.prog w = .ok (.string s) w := by
  have hu := Tryd.underlying9
  simp [Instr.loadAt, Instr.sureAddr, loadVar, isAgg, run_underlying hu, h]
theorem addr_strq (w : World) (g n i : Nat) (hi : i < n) : (Instr.indexAt 45 (.slice (some ⟨g, 0, none⟩) n n) (.int .i64 (i : Int))).run Tryd.prog w = .ok (.pointer (some ⟨g, i, none⟩)) w := by
  have he : Tryd.prog.elem 45 = 9 := by kernel_rfl
  rw [run_indexAt_slice w 45 ⟨g, 0, none⟩ n n .i64 (i : Int) (by rw [he]; exact Tryd.underlying45), if_pos ⟨by omega, by omega⟩, he]
  have hs : (sizeOf 9).run Tryd.prog w = .ok 1 w := by kernel_rfl
  rw [hs]
  simp only [Result.andThen]
  rw [Addr.add_lit]
  simp

section
variable {ops : Array Oper} {Q : Exit → Act → World → Prop} {A : Tmp → Value → World → Prop} {a0 : Act} {w0 : World} {o : Oper} {d : Tmp}

theorem args1q (a : Act) (x : Tmp) : (#[Operand.tmp x] : Array Operand).map a.eval = #[a.tmps.getD x undef] := by simp [Act.eval]
theorem ok_addr2q (hw : Wanted ops A o) (hdst : o.dst = some d) (x y : Tmp) (t : TypeId) (ho : o.op = .indexAddr t (.tmp x) (.tmp y)) (hx1 : (depSlots ops o).contains x = true) (hy1 : (depSlots ops o).contains y = true) (v u v' : Value)
    (hX : ∀ q w, A x q w → q = v) (hY : ∀ q w, A y q w → q = u) (hrun : ∀ w, (Instr.indexAt t v u).run Tryd.prog w = .ok v' w) (hF : ∀ w, A d v' w) : StepOk Tryd.prog ops Q A a0 w0 o :=
  ok_val hw hdst fun a w hx hf hd => ⟨v', w, by
    have e := hX _ _ (hd x hx1)
    have e2 := hY _ _ (hd y hy1)
    simp only [execOp, ho, Act.eval, e, e2]
    simp [hrun], hF w, Ext.refl _⟩
theorem ok_neqq (hw : Wanted ops A o) (hdst : o.dst = some d) (x y : Tmp) (ty ty' : TypeId) (ho : o.op = .binOp .neq ty (.tmp x) (.tmp y) ty') (hx1 : (depSlots ops o).contains x = true) (hy1 : (depSlots ops o).contains y = true)
    (m : List UInt8) (hX : ∀ v w, A x v w → v = S m) (hY : ∀ v w, A y v w → v = S m) (hF : ∀ w, A d (.bool false) w) : StepOk Tryd.prog ops Q A a0 w0 o :=
  ok_val hw hdst fun a w hx hf hd => ⟨.bool false, w, by
    have e1 := hX _ _ (hd x hx1)
    have e2 := hY _ _ (hd y hy1)
    simp only [execOp, ho, Act.eval, e1, e2]
    simp [eqGuard, binOp, Op.stringOp], hF w, Ext.refl _⟩
/-- '!=' of a number and the same number. -/
theorem ok_neq_same (hw : Wanted ops A o) (hdst : o.dst = some d) (x : Tmp) (ty ty' : TypeId) (k : IntKind) (n : Int) (ho : o.op = .binOp .neq ty (.tmp x) (.const (.int k n)) ty') (hx1 : (depSlots ops o).contains x = true)
    (hX : ∀ v w, A x v w → v = .int k n) (hF : ∀ w, A d (.bool false) w) : StepOk Tryd.prog ops Q A a0 w0 o :=
  ok_val hw hdst fun a w hx hf hd => ⟨.bool false, w, by
    have e1 := hX _ _ (hd x hx1)
    simp only [execOp, ho, Act.eval, e1]
    simp [eqGuard, binOp, Op.intCmp], hF w, Ext.refl _⟩
theorem ok_loadq (hw : Wanted ops A o) (hdst : o.dst = some d) (x : Tmp) (t : TypeId) (ho : o.op = .load t (.tmp x)) (hx1 : (depSlots ops o).contains x = true) (v v' : Value)
    (hX : ∀ u w, A x u w → u = v) (hrun : ∀ w, Ext w0 w → (Instr.loadAt t v).run Tryd.prog w = .ok v' w) (hF : ∀ w, A d v' w) : StepOk Tryd.prog ops Q A a0 w0 o :=
  ok_val hw hdst fun a w hx hf hd => ⟨v', w, by
    have e := hX _ _ (hd x hx1)
    simp only [execOp, ho, Act.eval, e]
    simp [hrun w hx], hF w, Ext.refl _⟩
/-- A load of a place that stood there ahead of the statement. -/
theorem ok_loadf (hw : Wanted ops A o) (hdst : o.dst = some d) (x : Tmp) (t : TypeId) (ho : o.op = .load t (.tmp x)) (hs : (dstSlots ops).contains x = false) (v v' : Value)
    (hv : a0.tmps.getD x undef = v) (hrun : ∀ w, Ext w0 w → (Instr.loadAt t v).run Tryd.prog w = .ok v' w) (hF : ∀ w, A d v' w) : StepOk Tryd.prog ops Q A a0 w0 o :=
  ok_val hw hdst fun a w hx hf hd => ⟨v', w, by
    have e : a.tmps.getD x undef = v := by rw [hf x hs, hv]
    simp only [execOp, ho, Act.eval, e]
    simp [hrun w hx], hF w, Ext.refl _⟩
/-- 'c || x', c false. -/
theorem ok_or (hw : Wanted ops A o) (hdst : o.dst = some d) (c x : Tmp) (y : Operand) (ho : o.op = .pick (.tmp c) y (.tmp x)) (hc : (depSlots ops o).contains c = true) (hs : (depSlots ops o).contains x = true)
    (hB : ∀ v w, A c v w → v = .bool false) (hF : ∀ v w, A x v w → A d v w) : StepOk Tryd.prog ops Q A a0 w0 o :=
  ok_val hw hdst fun a w hx hf hd => ⟨a.tmps.getD x undef, w, by
    have e := hB _ _ (hd c hc)
    simp only [execOp, ho, Act.eval, e]
    simp [asBool], hF _ _ (hd x hs), Ext.refl _⟩
end
theorem load_8q {w : World} {g x0 x1 x2 x3 x4 x5 x6 x7 : Nat} (h : w.heap[g]? = some (.cells #[U x0, U x1, U x2, U x3, U x4, U x5, U x6, U x7] 23 (0, 0))) : (Instr.loadAt 23 (.pointer (some ⟨g, 0, none⟩))).run Tryd.prog w = .ok (.agg #[U x0, U x1, U x2, U x3, U x4, U x5, U x6, U x7]) w :=
  load_8 g 0 [x0, x1, x2, x3, x4, x5, x6, x7] fun j v hj => by
    rw [Nat.zero_add]
    have hc : w.cell? ⟨g, j, none⟩ = (#[U x0, U x1, U x2, U x3, U x4, U x5, U x6, U x7] : Array Value)[j]? := by simp [World.cell?, h]
    rw [hc, List.getElem?_toArray]
    exact hj

end Go.Proofs.YtfaobhaogenijaaDoor
