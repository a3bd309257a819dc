/-
  More steps of open-order statements: '==' of one text, one number, with itself; slices that read as texts.
-/
import Derived.Test.YtenlampiiodkhaaGreatDoorPcs
import Derived.Test.YtenlampiiodkhaaGreatDoorReg2
import Derived.Test.YtenlampiiodkhaaGreatDoorOps
namespace Go.Proofs.YtenlampiiodkhaaGreatDoor
set_option linter.unusedVariables false
open Go.RowKit

/-- A slice in memory that reads as these texts. -/
def textsF (ps : List (List UInt8)) : Fact :=
  ⟨fun v w => ∃ g cap, v = .slice (some ⟨g, 0, none⟩) ps.length cap ∧ RdV w (some ⟨g, 0, none⟩) cap (ps.map S), fun _ _ _ ⟨g, cap, h1, h2⟩ hx => ⟨g, cap, h1, h2.below hx⟩⟩
theorem argsT1 (a : Act) (x : Tmp) : (#[Operand.tmp x] : Array Operand).map a.eval = #[a.tmps.getD x undef] := by simp [Act.eval]
theorem argsT2 (a : Act) (x y : Tmp) : (#[Operand.tmp x, Operand.tmp y] : Array Operand).map a.eval = #[a.tmps.getD x undef, a.tmps.getD y undef] := by simp [Act.eval]

section
variable {P : Program} {ops : Array Oper} {Q : Exit → Act → World → Prop} {A : Tmp → Value → World → Prop} {a0 : Act} {w0 : World} {o : Oper} {d : Tmp}
theorem ok_eqN (hw : Wanted ops A o) (hdst : o.dst = some d) (x y : Tmp) (ty ty' : TypeId) (k : IntKind) (n : Int) (ho : o.op = .binOp .eql ty (.tmp x) (.tmp y) ty') (hx1 : (depSlots ops o).contains x = true) (hy1 : (depSlots ops o).contains y = true)
    (hX : ∀ v w, A x v w → v = .int k n) (hY : ∀ v w, A y v w → v = .int k n) (hF : ∀ w, A d (.bool true) w) : StepOk Tryz.prog ops Q A a0 w0 o :=
  ok_val hw hdst fun a w hx hf hd => ⟨.bool true, w, by
    have e1 := hX _ _ (hd x hx1)
    have e2 := hY _ _ (hd y hy1)
    simp only [execOp, ho, Act.eval, e1, e2]
    simp [eqGuard, binOp, Op.intCmp], hF w, Ext.refl _⟩
theorem ok_eqT (hw : Wanted ops A o) (hdst : o.dst = some d) (x y : Tmp) (ty ty' : TypeId) (ho : o.op = .binOp .eql ty (.tmp x) (.tmp y) ty') (hx1 : (depSlots ops o).contains x = true) (hy1 : (depSlots ops o).contains y = true)
    (m : List UInt8) (hX : ∀ v w, A x v w → v = S m) (hY : ∀ v w, A y v w → v = S m) (hF : ∀ w, A d (.bool true) w) : StepOk Tryz.prog ops Q A a0 w0 o :=
  ok_val hw hdst fun a w hx hf hd => ⟨.bool true, w, by
    have e1 := hX _ _ (hd x hx1)
    have e2 := hY _ _ (hd y hy1)
    simp only [execOp, ho, Act.eval, e1, e2]
    simp [eqGuard, binOp, Op.stringOp], hF w, Ext.refl _⟩
/-- string(b) of what reads as bytes. -/
theorem ok_strT (hw : Wanted ops A o) (hdst : o.dst = some d) (x : Tmp) (ho : o.op = .convert 22 9 (.tmp x)) (hx1 : (depSlots ops o).contains x = true) (bs : List UInt8)
    (hX : ∀ v w, A x v w → (cellsF (bs.map B)).holds v w) (hF : ∀ w, A d (S bs) w) : StepOk Tryz.prog ops Q A a0 w0 o :=
  ok_conv hw hdst x ho hx1 bs (fun v w h _ => by
    obtain ⟨ao, cap, e, hr⟩ := hX v w h
    exact ⟨ao, cap, by rw [e, List.length_map], hr⟩) hF
/-- A call that answers a slice of texts. -/
theorem ok_texts (hw : Wanted ops A o) (hdst : o.dst = some d) (f : FuncId) (xs : Array Operand) (ats : Array TypeId) (hE : ∀ args w, (callFunc f args).run P w = .ok (.enter f args) w)
    (ho : o.op = .call { callee := .value (.func f), args := xs, argTypes := ats }) (ps : List (List UInt8))
    (h : ∀ (a : Act) (w : World), Ext w0 w → (∀ t, (dstSlots ops).contains t = false → a.tmps.getD t undef = a0.tmps.getD t undef) → (∀ t, (depSlots ops o).contains t = true → A t (a.tmps.getD t undef) w) → Calls P f (xs.map a.eval) w fun e w' => ∃ g cap, e = .returned (.slice (some ⟨g, 0, none⟩) ps.length cap) ∧ RdV w' (some ⟨g, 0, none⟩) cap (ps.map S) ∧ Ext w w')
    (hF : ∀ v w, (textsF ps).holds v w → A d v w) : StepOk P ops Q A a0 w0 o :=
  ok_call hw hdst f xs ats hE ho fun a w hx hf hd => (h a w hx hf hd).mono fun e w' ⟨g, cap, h1, h2, h3⟩ => ⟨_, h1, hF _ _ ⟨g, cap, rfl, h2⟩, h3⟩
end
end Go.Proofs.YtenlampiiodkhaaGreatDoor
