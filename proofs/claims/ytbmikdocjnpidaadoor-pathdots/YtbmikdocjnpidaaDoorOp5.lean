/-
  More steps of open-order statements: rows that a statement makes itself, []byte(s), slices of one.
-/
import Derived.Test.YtbmikdocjnpidaaDoorPthE
import Derived.Test.YtbmikdocjnpidaaDoorOps
import Derived.Test.YtbmikdocjnpidaaDoorReg5
import Derived.Test.YtbmikdocjnpidaaDoorPctQ
import Derived.ArgAppend
namespace Go.Proofs.YtbmikdocjnpidaaDoor
set_option linter.unusedVariables false
open Go.RowKit

/-- A row of the statement's own. -/
def ownF (base : Nat) (vs : List Value) : Fact := ⟨fun v w => w.ownsRow base 9 1 v vs.length vs, fun _ _ _ h hx => owns_below h hx⟩
/-- An empty one, not nil. -/
def emptyF (base : Nat) : Fact := ⟨fun v w => (∃ b, v = .slice (some ⟨b, 0, none⟩) 0 0) ∧ w.ownsRow base 9 1 v 0 [], fun _ _ _ h hx => ⟨h.1, owns_below h.2 hx⟩⟩

theorem run_emptyS (w : World) : (Instr.buildSlice 22 0 #[]).run Tryd.prog w = .ok (.slice (some ⟨w.heap.size, 0, none⟩) 0 0) (w.alloc (.cells #[] 9)) := by kernel_rfl
theorem run_oneS (s : ByteArray) (w : World) : (Instr.buildSlice 22 1 #[(0, .string s)]).run Tryd.prog w = .ok (.slice (some ⟨w.heap.size, 0, none⟩) 1 1) (w.alloc (.cells #[.string s] 9)) := by kernel_rfl

theorem run_appNone (w : World) (b : Nat) (ad : Addr) (cap : Nat) (ty : TypeId) : (Builtin.append_ #[22, 22] ty #[.slice (some ⟨b, 0, none⟩) 0 0, .slice (some ad) 0 cap]).run Tryd.prog w = .ok (.slice (some ⟨b, 0, none⟩) 0 0) w := by
  obtain ⟨i0, hi, hz0, hz1, hz2⟩ := info_parts infoSt
  simp [Builtin.append_, run_underlying Tryd.underlying22, sizeOf, typeInfo, hi, Builtin.lenOf, Builtin.firstCells, loadCells, loadCellsFrom, storeCells]

section
variable {ops : Array Oper} {Q : Exit → Act → World → Prop} {A : Tmp → Value → World → Prop} {a0 : Act} {w0 : World} {o : Oper} {d : Tmp}

theorem ok_emptyS (hw : Wanted ops A o) (hdst : o.dst = some d) (ho : o.op = .buildSlice 22 0 #[]) (base : Nat) (hb : base ≤ w0.heap.size)
    (hF : ∀ v w, (emptyF base).holds v w → A d v w) : StepOk Tryd.prog ops Q A a0 w0 o :=
  ok_val hw hdst fun a w hx hf hd => ⟨.slice (some ⟨w.heap.size, 0, none⟩) 0 0, w.alloc (.cells #[] 9), by
    simp only [execOp, ho]
    simp [run_emptyS], hF _ _ ⟨⟨_, rfl⟩, owns_mono (empty_own w 9) (Nat.le_trans hb hx.size)⟩, Ext.alloc w _⟩
theorem ok_oneS (hw : Wanted ops A o) (hdst : o.dst = some d) (x : Tmp) (ho : o.op = .buildSlice 22 1 #[(0, .tmp x)]) (hx1 : (depSlots ops o).contains x = true) (s : List UInt8)
    (hX : ∀ v w, A x v w → v = S s) (hF : ∀ v w, (cellsF [S s]).holds v w → A d v w) : StepOk Tryd.prog ops Q A a0 w0 o :=
  ok_val hw hdst fun a w hx hf hd => ⟨.slice (some ⟨w.heap.size, 0, none⟩) 1 1, w.alloc (.cells #[S s] 9), by
    have e0 := hX _ _ (hd x hx1)
    have hr := run_oneS ⟨s.toArray⟩ w
    rw [Array.getD_eq_getD_getElem?] at e0
    simp only [execOp, ho]
    simp [Act.eval, e0, hr], hF _ _ ⟨some ⟨w.heap.size, 0, none⟩, 1, rfl, RdV.lit w [S s] 9 (0, 0) (by simp)⟩, Ext.alloc w _⟩
theorem ok_convB (hw : Wanted ops A o) (hdst : o.dst = some d) (x : Tmp) (ho : o.op = .convert 9 40 (.tmp x)) (hx1 : (depSlots ops o).contains x = true) (bs : List UInt8) (hm : bs.length ≤ 1000000)
    (hX : ∀ v w, A x v w → v = S bs) (hF : ∀ v w, (cellsF (bs.map B)).holds v w → A d v w) : StepOk Tryd.prog ops Q A a0 w0 o :=
  ok_val hw hdst fun a w hx hf hd => by
    obtain ⟨c, w', h1, h2, h3, _⟩ := conv_bytes w bs hm
    refine ⟨.slice (some ⟨w.heap.size, 0, none⟩) bs.length c, w', ?_, hF _ _ ⟨_, c, by rw [List.length_map], h2⟩, h3⟩
    have e := hX _ _ (hd x hx1)
    simp only [execOp, ho, Act.eval, e]
    simp [h1]
theorem ok_addrS (hw : Wanted ops A o) (hdst : o.dst = some d) (x y : Tmp) (t : TypeId) (ho : o.op = .indexAddr t (.tmp x) (.tmp y)) (hx1 : (depSlots ops o).contains x = true) (hy1 : (depSlots ops o).contains y = true) (v u v' : Value)
    (hX : ∀ q w, A x q w → q = v) (hY : ∀ q w, A y q w → q = u) (hrun : ∀ w, (Instr.indexAt t v u).run Tryd.prog w = .ok v' w) (hF : ∀ w, A d v' w) : StepOk Tryd.prog ops Q A a0 w0 o :=
  ok_val hw hdst fun a w hx hf hd => ⟨v', w, by
    have e := hX _ _ (hd x hx1)
    have e2 := hY _ _ (hd y hy1)
    simp only [execOp, ho, Act.eval, e, e2]
    simp [hrun], hF w, Ext.refl _⟩
theorem ok_loadS (hw : Wanted ops A o) (hdst : o.dst = some d) (x : Tmp) (t : TypeId) (ho : o.op = .load t (.tmp x)) (hx1 : (depSlots ops o).contains x = true) (v v' : Value)
    (hX : ∀ u w, A x u w → u = v) (hrun : ∀ w, Ext w0 w → (Instr.loadAt t v).run Tryd.prog w = .ok v' w) (hF : ∀ w, A d v' w) : StepOk Tryd.prog ops Q A a0 w0 o :=
  ok_val hw hdst fun a w hx hf hd => ⟨v', w, by
    have e := hX _ _ (hd x hx1)
    simp only [execOp, ho, Act.eval, e]
    simp [hrun w hx], hF w, Ext.refl _⟩
/-- append([]string{}, l...). -/
theorem ok_appE (hw : Wanted ops A o) (hdst : o.dst = some d) (x y : Tmp) (ho : o.op = .call { callee := .builtin .append, args := #[.tmp x, .tmp y], argTypes := #[22, 22] })
    (hx1 : (depSlots ops o).contains x = true) (hy1 : (depSlots ops o).contains y = true) (base : Nat) (hb : base ≤ w0.heap.size) (vs : List Value) (hn : vs.length ≤ 1000000) (hone : ∀ u ∈ vs, u.oneCell' = true)
    (hX : ∀ v w, A x v w → (emptyF base).holds v w) (hY : ∀ v w, A y v w → (cellsF vs).holds v w) (hF : ∀ v w, (ownF base vs).holds v w → A d v w) : StepOk Tryd.prog ops Q A a0 w0 o :=
  ok_val hw hdst fun a w hx hf hd => by
    obtain ⟨⟨b, e1⟩, hown⟩ := hX _ _ (hd x hx1)
    obtain ⟨ao, cap, e2, hr⟩ := hY _ _ (hd y hy1)
    rw [e1] at hown
    obtain ⟨i0, hi, hz0, hz1, hz2⟩ := info_parts infoSt
    have hle := hr.le
    by_cases h0 : vs.length = 0
    · have hv : vs = [] := List.eq_nil_of_length_eq_zero h0
      subst hv
      refine ⟨.slice (some ⟨b, 0, none⟩) 0 0, w, ?_, hF _ _ hown, Ext.refl _⟩
      cases ao with
      | none =>
        have hc := hr.nil rfl
        subst hc
        have hrun := run_append_owned_none (P := Tryd.prog) (w := w) base 22 o.type 9 i0 1 Tryd.underlying22 hi _ 0 [] hown
        simp only [execOp, ho]
        simp [resolve, invoke, builtin, Act.eval, e1, e2, hrun, Result.andThen]
      | some ad =>
        have hrun := run_appNone w b ad cap o.type
        simp only [execOp, ho]
        simp [resolve, invoke, builtin, Act.eval, e1, e2, hrun, Result.andThen]
    · cases ao with
      | none =>
        have hc := hr.nil rfl
        omega
      | some ad =>
        obtain ⟨v', w', hrun, h1, h2⟩ := run_append_arg_grows (P := Tryd.prog) w 22 o.type 9 i0 (.string ⟨#[]⟩) 1 16 Tryd.underlying22 hi hz0 hz1 hz2 rfl (by decide) ⟨b, 0, none⟩ 0 0 [] rfl (by simp) ad vs.length cap vs (by omega) (hr.news ad rfl) (by omega) (by unfold maxLen; omega) (by omega)
        rw [Nat.zero_add, List.nil_append] at h1
        refine ⟨v', w', ?_, hF _ _ (owns_mono h1 (Nat.le_trans hb hx.size)), (Below.refl _ _).grown h2 (Nat.le_refl _) (fun t ht => by cases ht)⟩
        simp only [execOp, ho]
        simp [resolve, invoke, builtin, Act.eval, e1, e2, hrun, Result.andThen]
end
end Go.Proofs.YtbmikdocjnpidaaDoor
