/-
  What the operations of an open-order statement give: moves, picks, comparisons, string(b), calls.
-/
import Derived.Test.YtilmkmplaehcaaaDoorReg
namespace Go.Proofs.YtilmkmplaehcaaaDoor
set_option linter.unusedVariables false
open Go.RowKit

/-- What is known of a slot: it stays true while nothing old turns. -/
structure Fact where
  holds : Value → World → Prop
  mono : ∀ v w w', holds v w → Ext w w' → holds v w'

def isF (v0 : Value) : Fact := ⟨fun v _ => v = v0, fun _ _ _ h _ => h⟩
def anyF : Fact := ⟨fun _ _ => True, fun _ _ _ h _ => h⟩
def cellsF (vs : List Value) : Fact :=
  ⟨fun v w => ∃ ao cap, v = .slice ao vs.length cap ∧ RdV w ao cap vs, fun _ _ _ ⟨ao, cap, h1, h2⟩ hx => ⟨ao, cap, h1, h2.below hx⟩⟩

def factOf (L : List (Nat × Fact)) (t : Nat) : Fact := (L.lookup t).getD anyF
def knows (L : List (Nat × Fact)) : Tmp → Value → World → Prop := fun t v w => (factOf L t).holds v w
theorem knows_mono (L : List (Nat × Fact)) : ∀ t v w w', knows L t v w → Ext w w' → knows L t v w' := fun t v w w' h hx => (factOf L t).mono v w w' h hx

def AllOps (S : Oper → Prop) : List Oper → Prop
  | [] => True
  | o :: r => S o ∧ AllOps S r

theorem allOps_mem {S : Oper → Prop} {l : List Oper} (h : AllOps S l) : ∀ o ∈ l, S o := by
  induction l with
  | nil => intro o ho; cases ho
  | cons x r ih =>
    intro o ho
    rcases List.mem_cons.1 ho with e | hr
    · rw [e]; exact h.1
    · exact ih h.2 o hr

theorem steps_of {l : List Oper} {S : Oper → Prop} (h : AllOps S l) : ∀ (i : Nat) (o : Oper), l.toArray[i]? = some o → S o := by
  intro i o ho
  refine allOps_mem h o ?_
  rw [List.getElem?_toArray] at ho
  exact List.mem_of_getElem? ho

theorem allOps_nil {S : Oper → Prop} : AllOps S [] := trivial
theorem allOps_cons {S : Oper → Prop} {o : Oper} {r : List Oper} (h : S o) (k : AllOps S r) : AllOps S (o :: r) := ⟨h, k⟩

section
variable {P : Program} {ops : Array Oper} {Q : Exit → Act → World → Prop} {A : Tmp → Value → World → Prop} {a0 : Act} {w0 : World} {o : Oper} {d : Tmp}

def Wanted (ops : Array Oper) (A : Tmp → Value → World → Prop) (o : Oper) : Prop :=
  o.guard = none ∨ ∃ j b t, o.guard = some (j, b) ∧ (ops[j]?).bind (·.dst) = some t ∧ (depSlots ops o).contains t = true ∧ ∀ v w, A t v w → v = .bool b

theorem wanted_of (h : Wanted ops A o) {a : Act} {w : World} (hd : ∀ t, (depSlots ops o).contains t = true → A t (a.tmps.getD t undef) w) : Region.wanted o (yielded ops a.tmps) = true := by
  rcases h with h | ⟨j, b, t, h1, h2, h3, h4⟩
  · simp [Region.wanted, h]
  · have e := h4 _ _ (hd t h3)
    have e2 : a.tmps[t]? = some (.bool b) := by
      rw [Array.getD_eq_getD_getElem?] at e
      cases hx : a.tmps[t]? with
      | none => rw [hx] at e; simp [undef] at e
      | some v => rw [hx] at e; simpa using e
    simp [Region.wanted, h1, yielded, h2, e2]

theorem ok_val (hw : Wanted ops A o) (hdst : o.dst = some d)
    (h : ∀ (a : Act) (w : World), Ext w0 w → (∀ t, (dstSlots ops).contains t = false → a.tmps.getD t undef = a0.tmps.getD t undef) → (∀ t, (depSlots ops o).contains t = true → A t (a.tmps.getD t undef) w) →
      ∃ v w', (execOp a.eval o).run P w = .ok (.value v) w' ∧ A d v w' ∧ Ext w w') : StepOk P ops Q A a0 w0 o := by
  intro a w hx hf hd K hK
  rw [if_pos (wanted_of hw hd)]
  obtain ⟨v, w', h1, h2, h3⟩ := h a w hx hf hd
  unfold Oper.wp
  rw [h1]
  exact hK v w' (fun d' hd' => by rw [hdst] at hd'; cases hd'; exact h2) h3

/-- A call of a function that has a body enters it. -/
theorem run_enter (f : FuncId) (fn : Func) (hf : P.funcs[f]? = some fn) (hn : (fn.name == "runtime.NumGoroutine") = false) (hb : fn.body.isNone = false) (args : Array Value) (w : World) :
    (callFunc f args).run P w = .ok (.enter f args) w := by
  have hb' : fn.body ≠ none := by intro e; rw [e] at hb; cases hb
  have hn' : fn.name ≠ "runtime.NumGoroutine" := by simpa using hn
  simp [callFunc, hf, hn', hb']

theorem ok_call (hw : Wanted ops A o) (hdst : o.dst = some d) (f : FuncId) (xs : Array Operand) (ats : Array TypeId) (hE : ∀ args w, (callFunc f args).run P w = .ok (.enter f args) w)
    (ho : o.op = .call { callee := .value (.func f), args := xs, argTypes := ats })
    (h : ∀ (a : Act) (w : World), Ext w0 w → (∀ t, (dstSlots ops).contains t = false → a.tmps.getD t undef = a0.tmps.getD t undef) → (∀ t, (depSlots ops o).contains t = true → A t (a.tmps.getD t undef) w) →
      Calls P f (xs.map a.eval) w fun e w' => ∃ v, e = .returned v ∧ A d v w' ∧ Ext w w') : StepOk P ops Q A a0 w0 o := by
  intro a w hx hf hd K hK
  rw [if_pos (wanted_of hw hd)]
  have hc := h a w hx hf hd
  obtain ⟨dst, op, ty, pos, after, guard⟩ := o
  subst ho
  have hrun : (execOp a.eval { dst := dst, op := .call { callee := .value (.func f), args := xs, argTypes := ats }, type := ty, pos := pos, after := after, guard := guard }).run P w = .ok (.enter f (xs.map a.eval)) w := by
    rw [execOp_call_go]
    have e : #[] ++ xs.map a.eval ++ #[] = xs.map a.eval := by simp
    rw [e]
    exact hE _ w
  unfold Oper.wp
  rw [hrun, Oper.upon_enter]
  refine hc.mono ?_
  rintro e w' ⟨v, rfl, h2, h3⟩
  exact hK v w' (fun d' hd' => by simp only at hdst hd'; rw [hdst] at hd'; cases hd'; exact h2) h3

/-- A move of what this statement made. -/
theorem ok_move (hw : Wanted ops A o) (hdst : o.dst = some d) (x : Tmp) (ho : o.op = .move (.tmp x) ∨ o.op = .assign (.tmp x)) (hs : (depSlots ops o).contains x = true)
    (hF : ∀ v w, A x v w → A d v w) : StepOk P ops Q A a0 w0 o :=
  ok_val hw hdst fun a w hx hf hd => ⟨a.tmps.getD x undef, w, by rcases ho with ho | ho <;> simp [execOp, ho, Act.eval], hF _ _ (hd x hs), Ext.refl _⟩

/-- A move of what stood there ahead of it. -/
theorem ok_fixed (hw : Wanted ops A o) (hdst : o.dst = some d) (x : Tmp) (v0 : Value) (ho : o.op = .move (.tmp x) ∨ o.op = .assign (.tmp x)) (hs : (dstSlots ops).contains x = false)
    (hv : a0.tmps.getD x undef = v0) (hF : ∀ w, Ext w0 w → A d v0 w) : StepOk P ops Q A a0 w0 o :=
  ok_val hw hdst fun a w hx hf hd => ⟨a.tmps.getD x undef, w, by rcases ho with ho | ho <;> simp [execOp, ho, Act.eval], by rw [hf x hs, hv]; exact hF w hx, Ext.refl _⟩

/-- 'c && x', c true. -/
theorem ok_pick (hw : Wanted ops A o) (hdst : o.dst = some d) (c x : Tmp) (y : Operand) (ho : o.op = .pick (.tmp c) (.tmp x) y) (hc : (depSlots ops o).contains c = true) (hs : (depSlots ops o).contains x = true)
    (hB : ∀ v w, A c v w → v = .bool true) (hF : ∀ v w, A x v w → A d v w) : StepOk P ops Q A a0 w0 o :=
  ok_val hw hdst fun a w hx hf hd => ⟨a.tmps.getD x undef, w, by
    have e := hB _ _ (hd c hc)
    simp only [execOp, ho, Act.eval, e]
    simp [asBool], hF _ _ (hd x hs), Ext.refl _⟩

/-- '==' of two numbers. -/
theorem ok_eql_int (hw : Wanted ops A o) (hdst : o.dst = some d) (x y : Tmp) (ty ty' : TypeId) (ho : o.op = .binOp .eql ty (.tmp x) (.tmp y) ty') (hx1 : (depSlots ops o).contains x = true) (hy1 : (depSlots ops o).contains y = true)
    (k : IntKind) (m n : Int) (hX : ∀ v w, A x v w → v = .int k m) (hY : ∀ v w, A y v w → v = .int k n) (hF : ∀ w, A d (.bool (m == n)) w) : StepOk P ops Q A a0 w0 o :=
  ok_val hw hdst fun a w hx hf hd => ⟨.bool (m == n), w, by
    have e1 := hX _ _ (hd x hx1)
    have e2 := hY _ _ (hd y hy1)
    simp only [execOp, ho, Act.eval, e1, e2]
    simp [eqGuard, binOp, Op.intCmp], hF w, Ext.refl _⟩

/-- '==' of two texts. -/
theorem ok_eql_str (hw : Wanted ops A o) (hdst : o.dst = some d) (x y : Tmp) (ty ty' : TypeId) (ho : o.op = .binOp .eql ty (.tmp x) (.tmp y) ty') (hx1 : (depSlots ops o).contains x = true) (hy1 : (depSlots ops o).contains y = true)
    (m n : ByteArray) (hX : ∀ v w, A x v w → v = .string m) (hY : ∀ v w, A y v w → v = .string n) (hF : ∀ w, A d (.bool (m.toList == n.toList)) w) : StepOk P ops Q A a0 w0 o :=
  ok_val hw hdst fun a w hx hf hd => ⟨.bool (m.toList == n.toList), w, by
    have e1 := hX _ _ (hd x hx1)
    have e2 := hY _ _ (hd y hy1)
    simp only [execOp, ho, Act.eval, e1, e2]
    simp [eqGuard, binOp, Op.stringOp], hF w, Ext.refl _⟩

/-- string(b). -/
theorem oconv_str (w : World) (ao : Option Addr) (n cap : Nat) (bs : List UInt8) (hl : bs.length = n) (h : RdV w ao cap (bs.map B)) :
    (convert 33 9 (.slice ao n cap)).run Tryd.prog w = .ok (.string ⟨bs.toArray⟩) w := by
  subst hl
  cases ao with
  | none =>
    have h0 := h.nil rfl
    have hle := h.le
    have hy : bs = [] := List.eq_nil_of_length_eq_zero (by simp at hle; omega)
    subst hy
    rw [run_convert_bytes_string w 33 9 5 none _ cap Tryd.underlying33 Tryd.underlying5 Tryd.underlying9]
    simp [Conv.bytesToString, Sem.run_pure]
    rfl
  | some a =>
    refine run_convert_bytes_back w 33 9 5 a cap bs Tryd.underlying33 Tryd.underlying5 Tryd.underlying9 fun j hj => ?_
    have := h.news a rfl j (B bs[j]) (by simp [hj])
    exact this

theorem ok_conv (hw : Wanted ops A o) (hdst : o.dst = some d) (x : Tmp) (ho : o.op = .convert 33 9 (.tmp x)) (hx1 : (depSlots ops o).contains x = true) (bs : List UInt8)
    (hX : ∀ v w, A x v w → Ext w0 w → ∃ ao cap, v = .slice ao bs.length cap ∧ RdV w ao cap (bs.map B)) (hF : ∀ w, A d (.string ⟨bs.toArray⟩) w) : StepOk Tryd.prog ops Q A a0 w0 o :=
  ok_val hw hdst fun a w hx hf hd => by
    obtain ⟨ao, cap, e, hr⟩ := hX _ _ (hd x hx1) hx
    refine ⟨.string ⟨bs.toArray⟩, w, ?_, hF w, Ext.refl _⟩
    simp only [execOp, ho, Act.eval, e]
    simp [oconv_str w ao bs.length cap bs rfl hr]

/-- '==' of two truths. -/
theorem ok_eql_bool (hw : Wanted ops A o) (hdst : o.dst = some d) (x y : Tmp) (ty ty' : TypeId) (ho : o.op = .binOp .eql ty (.tmp x) (.tmp y) ty') (hx1 : (depSlots ops o).contains x = true) (hy1 : (depSlots ops o).contains y = true)
    (m n : Bool) (hu : P.underlying ty = some .bool) (hX : ∀ v w, A x v w → v = .bool m) (hY : ∀ v w, A y v w → v = .bool n) (hF : ∀ w, A d (.bool (m == n)) w) : StepOk P ops Q A a0 w0 o :=
  ok_val hw hdst fun a w hx hf hd => ⟨.bool (m == n), w, by
    have e1 := hX _ _ (hd x hx1)
    have e2 := hY _ _ (hd y hy1)
    simp only [execOp, ho, Act.eval, e1, e2]
    simp [eqGuard, run_eql_bool w ty m n hu], hF w, Ext.refl _⟩

/-- What an answer of a call is to a slot. -/
theorem ok_gives (hw : Wanted ops A o) (hdst : o.dst = some d) (f : FuncId) (xs : Array Operand) (ats : Array TypeId) (hE : ∀ args w, (callFunc f args).run P w = .ok (.enter f args) w)
    (ho : o.op = .call { callee := .value (.func f), args := xs, argTypes := ats }) (vs : List Value)
    (h : ∀ (a : Act) (w : World), Ext w0 w → (∀ t, (dstSlots ops).contains t = false → a.tmps.getD t undef = a0.tmps.getD t undef) → (∀ t, (depSlots ops o).contains t = true → A t (a.tmps.getD t undef) w) → Calls P f (xs.map a.eval) w (Gives w vs))
    (hF : ∀ v w, (cellsF vs).holds v w → A d v w) : StepOk P ops Q A a0 w0 o :=
  ok_call hw hdst f xs ats hE ho fun a w hx hf hd => (h a w hx hf hd).mono fun e w' ⟨ao, cap, h1, h2, h3⟩ => ⟨_, h1, hF _ _ ⟨ao, cap, rfl, h2⟩, h3⟩

/-- A call that answers one value. -/
theorem ok_is (hw : Wanted ops A o) (hdst : o.dst = some d) (f : FuncId) (xs : Array Operand) (ats : Array TypeId) (hE : ∀ args w, (callFunc f args).run P w = .ok (.enter f args) w)
    (ho : o.op = .call { callee := .value (.func f), args := xs, argTypes := ats }) (v : Value)
    (h : ∀ (a : Act) (w : World), Ext w0 w → (∀ t, (dstSlots ops).contains t = false → a.tmps.getD t undef = a0.tmps.getD t undef) → (∀ t, (depSlots ops o).contains t = true → A t (a.tmps.getD t undef) w) → Calls P f (xs.map a.eval) w fun e w' => e = .returned v ∧ Ext w w')
    (hF : ∀ w, A d v w) : StepOk P ops Q A a0 w0 o :=
  ok_call hw hdst f xs ats hE ho fun a w hx hf hd => (h a w hx hf hd).mono fun e w' ⟨h1, h3⟩ => ⟨_, h1, hF w', h3⟩
end
end Go.Proofs.YtilmkmplaehcaaaDoor
