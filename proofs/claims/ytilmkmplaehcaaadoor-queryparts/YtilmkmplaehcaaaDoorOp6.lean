/-
  Steps of open-order statements over texts and pairs: len, min, s[:x], s[x:], a pair, a slice of one pair, a text that lies in memory.
-/
import Derived.Test.YtilmkmplaehcaaaDoorQryA
import Derived.Test.YtilmkmplaehcaaaDoorOps
import Derived.Test.YtilmkmplaehcaaaDoorReg5
namespace Go.Proofs.YtilmkmplaehcaaaDoor
set_option linter.unusedVariables false
open Go.RowKit

/-- A slice that reads as these pairs. -/
def pairsF (l : List Pr) : Fact := ⟨fun v w => ∃ ao cap, v = .slice ao l.length cap ∧ RdP w ao cap l, fun _ _ _ ⟨ao, cap, h1, h2⟩ hx => ⟨ao, cap, h1, h2.below hx⟩⟩
theorem run_buildP (a b : ByteArray) (w : World) : (Instr.build 25 #[(0, .string a), (1, .string b)]).run Tryd.prog w = .ok (.agg #[.string a, .string b]) w := by kernel_rfl
theorem run_oneP (a b : ByteArray) (w : World) : (Instr.buildSlice 22 1 #[(0, .agg #[.string a, .string b])]).run Tryd.prog w = .ok (.slice (some ⟨w.heap.size, 0, none⟩) 1 1) (w.alloc (.cells #[.string a, .string b] 25)) := by kernel_rfl
theorem run_takeS (w : World) (l : List UInt8) (k : Nat) (h : k ≤ l.length) : (Instr.slice 9 (S l) none (some (.int .i64 (k : Int))) none).run Tryd.prog w = .ok (S (l.take k)) w := by
  rw [run_slice_string_h w 9 ⟨l.toArray⟩ Tryd.underlying9 .i64 (k : Int) (by omega) (by rw [size_S]; omega)]
  have e : (⟨l.toArray⟩ : ByteArray).extract 0 ((k : Int).toNat) = ⟨(l.take k).toArray⟩ := by
    apply ByteArray.ext
    simp
  rw [e]

section
variable {ops : Array Oper} {Q : Exit → Act → World → Prop} {A : Tmp → Value → World → Prop} {a0 : Act} {w0 : World} {o : Oper} {d : Tmp}

/-- len(s) -/
theorem ok_lenS (hw : Wanted ops A o) (hdst : o.dst = some d) (x : Tmp) (ho : o.op = .call { callee := .builtin .len, args := #[.tmp x], argTypes := #[9] }) (hx1 : (depSlots ops o).contains x = true) (m : List UInt8)
    (hX : ∀ v w, A x v w → v = S m) (hF : ∀ w, A d (.int .i64 (m.length : Int)) w) : StepOk Tryd.prog ops Q A a0 w0 o :=
  ok_val hw hdst fun a w hx hf hd => ⟨.int .i64 (m.length : Int), w, by
    have e1 := hX _ _ (hd x hx1)
    have hz := size_S m
    rw [Array.getD_eq_getD_getElem?] at e1
    simp only [execOp, ho]
    have hr := run_len_string w 9 o.type ⟨m.toArray⟩ Tryd.underlying9
    rw [hz] at hr
    simp [resolve, invoke, builtin, Act.eval, e1, Result.andThen, hr]
    rfl, hF w, Ext.refl _⟩
/-- min(x, y) -/
theorem ok_minI (hw : Wanted ops A o) (hdst : o.dst = some d) (x y : Tmp) (ats : Array TypeId) (ho : o.op = .call { callee := .builtin .min, args := #[.tmp x, .tmp y], argTypes := ats }) (hx1 : (depSlots ops o).contains x = true) (hy1 : (depSlots ops o).contains y = true) (m n k : Int) (hk : (if n < m then n else m) = k)
    (hX : ∀ v w, A x v w → v = .int .i64 m) (hY : ∀ v w, A y v w → v = .int .i64 n) (hF : ∀ w, A d (.int .i64 k) w) : StepOk Tryd.prog ops Q A a0 w0 o :=
  ok_val hw hdst fun a w hx hf hd => ⟨.int .i64 k, w, by
    have e1 := hX _ _ (hd x hx1)
    have e2 := hY _ _ (hd y hy1)
    rw [Array.getD_eq_getD_getElem?] at e1 e2
    simp only [execOp, ho]
    have hr := run_min_int2 (P := Tryd.prog) w ats o.type .i64 .i64 m n
    rw [hk] at hr
    simp [resolve, invoke, builtin, Act.eval, e1, e2, Result.andThen, hr], hF w, Ext.refl _⟩
/-- s[:y] -/
theorem ok_takeS (hw : Wanted ops A o) (hdst : o.dst = some d) (x y : Tmp) (ho : o.op = .slice 9 (.tmp x) none (some (.tmp y)) none) (hx1 : (depSlots ops o).contains x = true) (hy1 : (depSlots ops o).contains y = true) (m : List UInt8) (k : Nat) (hk : k ≤ m.length)
    (hX : ∀ v w, A x v w → v = S m) (hY : ∀ v w, A y v w → v = .int .i64 (k : Int)) (hF : ∀ w, A d (S (m.take k)) w) : StepOk Tryd.prog ops Q A a0 w0 o :=
  ok_val hw hdst fun a w hx hf hd => ⟨S (m.take k), w, by
    have e1 := hX _ _ (hd x hx1)
    have e2 := hY _ _ (hd y hy1)
    have hr := run_takeS w m k hk
    rw [← run_sliceAt_string w 9 _ _ _ _ Tryd.underlying9] at hr
    have e3 : a.eval (.tmp y) = .int .i64 (k : Int) := by simp only [Act.eval, e2]
    simp only [execOp, ho, Act.eval, e1]
    simp [e3, hr], hF w, Ext.refl _⟩
/-- s[y:] -/
theorem ok_dropS (hw : Wanted ops A o) (hdst : o.dst = some d) (x y : Tmp) (ho : o.op = .slice 9 (.tmp x) (some (.tmp y)) none none) (hx1 : (depSlots ops o).contains x = true) (hy1 : (depSlots ops o).contains y = true) (m : List UInt8) (k : Nat) (hk : k ≤ m.length)
    (hX : ∀ v w, A x v w → v = S m) (hY : ∀ v w, A y v w → v = .int .i64 (k : Int)) (hF : ∀ w, A d (S (m.drop k)) w) : StepOk Tryd.prog ops Q A a0 w0 o :=
  ok_val hw hdst fun a w hx hf hd => ⟨S (m.drop k), w, by
    have e1 := hX _ _ (hd x hx1)
    have e2 := hY _ _ (hd y hy1)
    have hr := run_drop w m k hk
    rw [← run_sliceAt_string w 9 _ _ _ _ Tryd.underlying9] at hr
    have e3 : a.eval (.tmp y) = .int .i64 (k : Int) := by simp only [Act.eval, e2]
    simp only [execOp, ho, Act.eval, e1]
    simp [e3, hr], hF w, Ext.refl _⟩
/-- x + 1 -/
theorem ok_incS (hw : Wanted ops A o) (hdst : o.dst = some d) (x : Tmp) (ty ty' : TypeId) (m : Int) (hm : IntKind.i64.wrap (m + 1) = m + 1) (ho : o.op = .binOp .add ty (.tmp x) (.const (.int .i64 1)) ty') (hx1 : (depSlots ops o).contains x = true)
    (hX : ∀ v w, A x v w → v = .int .i64 m) (hF : ∀ w, A d (.int .i64 (m + 1)) w) : StepOk Tryd.prog ops Q A a0 w0 o :=
  ok_val hw hdst fun a w hx hf hd => ⟨.int .i64 (m + 1), w, by
    have e1 := hX _ _ (hd x hx1)
    simp only [execOp, ho, Act.eval, e1]
    simp [eqGuard, binOp, Op.intArith, hm], hF w, Ext.refl _⟩
theorem ok_addrQ (hw : Wanted ops A o) (hdst : o.dst = some d) (x y : Tmp) (t : TypeId) (ho : o.op = .indexAddr t (.tmp x) (.tmp y)) (hx1 : (depSlots ops o).contains x = true) (hy1 : (depSlots ops o).contains y = true) (v u v' : Value)
    (hX : ∀ q w, A x q w → q = v) (hY : ∀ q w, A y q w → q = u) (hrun : ∀ w, (Instr.indexAt t v u).run Tryd.prog w = .ok v' w) (hF : ∀ w, A d v' w) : StepOk Tryd.prog ops Q A a0 w0 o :=
  ok_val hw hdst fun a w hx hf hd => ⟨v', w, by
    have e := hX _ _ (hd x hx1)
    have e2 := hY _ _ (hd y hy1)
    simp only [execOp, ho, Act.eval, e, e2]
    simp [hrun], hF w, Ext.refl _⟩
theorem ok_loadQ (hw : Wanted ops A o) (hdst : o.dst = some d) (x : Tmp) (t : TypeId) (ho : o.op = .load t (.tmp x)) (hx1 : (depSlots ops o).contains x = true) (v v' : Value)
    (hX : ∀ u w, A x u w → u = v) (hrun : ∀ w, Ext w0 w → (Instr.loadAt t v).run Tryd.prog w = .ok v' w) (hF : ∀ w, A d v' w) : StepOk Tryd.prog ops Q A a0 w0 o :=
  ok_val hw hdst fun a w hx hf hd => ⟨v', w, by
    have e := hX _ _ (hd x hx1)
    simp only [execOp, ho, Act.eval, e]
    simp [hrun w hx], hF w, Ext.refl _⟩
/-- &p.Name, &p.Value -/
theorem ok_fieldQ (hw : Wanted ops A o) (hdst : o.dst = some d) (x : Tmp) (t : TypeId) (f : Nat) (ho : o.op = .fieldAddr t (.tmp x) f) (hx1 : (depSlots ops o).contains x = true) (v v' : Value)
    (hX : ∀ u w, A x u w → u = v) (hrun : ∀ w, (Instr.fieldAt t v f).run Tryd.prog w = .ok v' w) (hF : ∀ w, A d v' w) : StepOk Tryd.prog ops Q A a0 w0 o :=
  ok_val hw hdst fun a w hx hf hd => ⟨v', w, by
    have e := hX _ _ (hd x hx1)
    simp only [execOp, ho, Act.eval, e]
    simp [hrun w], hF w, Ext.refl _⟩
/-- A pair of two texts. -/
theorem ok_buildP (hw : Wanted ops A o) (hdst : o.dst = some d) (x y : Tmp) (ho : o.op = .build 25 #[(0, .tmp x), (1, .tmp y)]) (hx1 : (depSlots ops o).contains x = true) (hy1 : (depSlots ops o).contains y = true) (p : Pr)
    (hX : ∀ v w, A x v w → v = S p.1) (hY : ∀ v w, A y v w → v = S p.2) (hF : ∀ w, A d (.agg #[S p.1, S p.2]) w) : StepOk Tryd.prog ops Q A a0 w0 o :=
  ok_val hw hdst fun a w hx hf hd => ⟨.agg #[S p.1, S p.2], w, by
    have e1 := hX _ _ (hd x hx1)
    have e2 := hY _ _ (hd y hy1)
    have hr := run_buildP ⟨p.1.toArray⟩ ⟨p.2.toArray⟩ w
    rw [Array.getD_eq_getD_getElem?] at e1 e2
    simp only [execOp, ho]
    simp [Act.eval, e1, e2, hr], hF w, Ext.refl _⟩
/-- A slice of one pair. -/
theorem ok_oneP (hw : Wanted ops A o) (hdst : o.dst = some d) (x : Tmp) (ho : o.op = .buildSlice 22 1 #[(0, .tmp x)]) (hx1 : (depSlots ops o).contains x = true) (p : Pr)
    (hX : ∀ v w, A x v w → v = .agg #[S p.1, S p.2]) (hF : ∀ v w, (pairsF [p]).holds v w → A d v w) : StepOk Tryd.prog ops Q A a0 w0 o :=
  ok_val hw hdst fun a w hx hf hd => ⟨.slice (some ⟨w.heap.size, 0, none⟩) 1 1, w.alloc (.cells #[S p.1, S p.2] 25), by
    have e0 := hX _ _ (hd x hx1)
    have hr := run_oneP ⟨p.1.toArray⟩ ⟨p.2.toArray⟩ w
    rw [Array.getD_eq_getD_getElem?] at e0
    simp only [execOp, ho]
    simp [Act.eval, e0, hr], hF _ _ ⟨some ⟨w.heap.size, 0, none⟩, 1, rfl, RdP.lit w p (0, 0)⟩, Ext.alloc w _⟩
/-- x + y, of texts -/
theorem ok_catS (hw : Wanted ops A o) (hdst : o.dst = some d) (x y : Tmp) (ty ty' : TypeId) (ho : o.op = .binOp .add ty (.tmp x) (.tmp y) ty') (hx1 : (depSlots ops o).contains x = true) (hy1 : (depSlots ops o).contains y = true)
    (m n : List UInt8) (hl : m.length + n.length ≤ 1000000000) (hX : ∀ v w, A x v w → v = S m) (hY : ∀ v w, A y v w → v = S n) (hF : ∀ w, A d (S (m ++ n)) w) : StepOk Tryd.prog ops Q A a0 w0 o :=
  ok_val hw hdst fun a w hx hf hd => ⟨S (m ++ n), w, by
    have e1 := hX _ _ (hd x hx1)
    have e2 := hY _ _ (hd y hy1)
    have hc : (⟨m.toArray⟩ : ByteArray) ++ (⟨n.toArray⟩ : ByteArray) = ⟨(m ++ n).toArray⟩ := by
      apply ByteArray.ext
      simp
    have h1 := size_S m
    have h2 := size_S n
    simp only [execOp, ho, Act.eval, e1, e2]
    simp [eqGuard, binOp, Op.stringOp, hc, h1, h2, S]
    try omega, hF w, Ext.refl _⟩
/-- x + a constant -/
theorem ok_catC (hw : Wanted ops A o) (hdst : o.dst = some d) (x : Tmp) (n : List UInt8) (ty ty' : TypeId) (ho : o.op = .binOp .add ty (.tmp x) (.const (S n)) ty') (hx1 : (depSlots ops o).contains x = true)
    (m : List UInt8) (hl : m.length + n.length ≤ 1000000000) (hX : ∀ v w, A x v w → v = S m) (hF : ∀ w, A d (S (m ++ n)) w) : StepOk Tryd.prog ops Q A a0 w0 o :=
  ok_val hw hdst fun a w hx hf hd => ⟨S (m ++ n), w, by
    have e1 := hX _ _ (hd x hx1)
    have hc : (⟨m.toArray⟩ : ByteArray) ++ (⟨n.toArray⟩ : ByteArray) = ⟨(m ++ n).toArray⟩ := by
      apply ByteArray.ext
      simp
    have h1 := size_S m
    have h2 := size_S n
    simp only [execOp, ho, Act.eval, e1]
    simp [eqGuard, binOp, Op.stringOp, hc, h1, h2, S]
    try omega, hF w, Ext.refl _⟩
theorem run_field0 (w : World) (b o : Nat) : (Instr.fieldAt 25 (.pointer (some ⟨b, o, none⟩)) 0).run Tryd.prog w = .ok (.pointer (some ⟨b, o, none⟩)) w := by
  have hu := Tryd.underlying25
  simp [Instr.fieldAt, Instr.sureAddr, run_underlying hu, fieldPlace, Addr.add_lit]
theorem run_field1 (w : World) (b o : Nat) : (Instr.fieldAt 25 (.pointer (some ⟨b, o, none⟩)) 1).run Tryd.prog w = .ok (.pointer (some ⟨b, o + 1, none⟩)) w := by
  have hu := Tryd.underlying25
  simp [Instr.fieldAt, Instr.sureAddr, run_underlying hu, fieldPlace, Addr.add_lit]
end
end Go.Proofs.YtilmkmplaehcaaaDoor
