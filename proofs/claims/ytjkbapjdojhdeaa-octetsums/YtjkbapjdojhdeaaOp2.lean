/-
  Cuts of byte slices and lists of byte slices, as operations.
-/
import Derived.Test.YtjkbapjdojhdeaaOps
import Derived.Test.YtjkbapjdojhdeaaPlain
namespace Go.Proofs.Ytjkbapjdojhdeaa
set_option linter.unusedVariables false
open Go.RowKit

theorem run_to (w : World) (ao : Option Addr) (l cap X : Nat) (h : X ≤ cap) :
    (Instr.sliceAt 22 (.slice ao l cap) none (some (.int .i64 (X : Int))) none).run Try.prog w = .ok (.slice ao X cap) w := by
  have i1 : (0 : Int) ≤ (X : Int) := by omega
  have i2 : (X : Int) ≤ (cap : Int) := by omega
  go_simp
theorem run_from (w : World) (ao : Option Addr) (l cap X : Nat) (h : X ≤ l) (hl : l ≤ cap) :
    (Instr.sliceAt 22 (.slice ao l cap) (some (.int .i64 (X : Int))) none none).run Try.prog w = .ok (.slice (if cap = X then ao else ao.map (·.add X)) (l - X) (cap - X)) w := by
  have i1 : (0 : Int) ≤ (X : Int) := by omega
  have i2 : (X : Int) ≤ (l : Int) := by omega
  go_simp
theorem run_mid (w : World) (ao : Option Addr) (l cap X Y : Nat) (h : X ≤ Y) (hl : Y ≤ cap) :
    (Instr.sliceAt 22 (.slice ao l cap) (some (.int .i64 (X : Int))) (some (.int .i64 (Y : Int))) none).run Try.prog w = .ok (.slice (if cap = X then ao else ao.map (·.add X)) (Y - X) (cap - X)) w := by
  have i1 : (0 : Int) ≤ (X : Int) := by omega
  have i2 : (X : Int) ≤ (Y : Int) := by omega
  have i3 : (Y : Int) ≤ (cap : Int) := by omega
  go_simp

theorem run_build1 (w : World) (a : Option Addr) (l c : Nat) : (Instr.buildSlice 49 1 #[(0, .slice a l c)]).run Try.prog w = .ok (.slice (some ⟨w.heap.size, 0, none⟩) 1 1) (w.alloc (.cells #[.slice a l c] 22)) := by
  go_simp
theorem run_build2 (w : World) (a a' : Option Addr) (l c l' c' : Nat) : (Instr.buildSlice 49 2 #[(0, .slice a l c), (1, .slice a' l' c')]).run Try.prog w = .ok (.slice (some ⟨w.heap.size, 0, none⟩) 2 2) (w.alloc (.cells #[.slice a l c, .slice a' l' c'] 22)) := by
  go_simp
theorem run_build3 (w : World) (a a' a'' : Option Addr) (l c l' c' l'' c'' : Nat) : (Instr.buildSlice 49 3 #[(0, .slice a l c), (1, .slice a' l' c'), (2, .slice a'' l'' c'')]).run Try.prog w = .ok (.slice (some ⟨w.heap.size, 0, none⟩) 3 3) (w.alloc (.cells #[.slice a l c, .slice a' l' c', .slice a'' l'' c''] 22)) := by
  go_simp
theorem run_build4 (w : World) (a a' a'' a3 : Option Addr) (l c l' c' l'' c'' l3 c3 : Nat) : (Instr.buildSlice 49 4 #[(0, .slice a l c), (1, .slice a' l' c'), (2, .slice a'' l'' c''), (3, .slice a3 l3 c3)]).run Try.prog w = .ok (.slice (some ⟨w.heap.size, 0, none⟩) 4 4) (w.alloc (.cells #[.slice a l c, .slice a' l' c', .slice a'' l'' c'', .slice a3 l3 c3] 22)) := by
  go_simp

/-- Parts that lie in a block of their own. -/
theorem Lie.made (w : World) (ps : List Part) (h : ∀ p ∈ ps, Rd w p.1 p.2.1 p.2.2) :
    Lie (w.alloc (.cells (ps.map fun p => Value.slice p.1 p.2.2.length p.2.1).toArray 22)) w.heap.size 0 ps := by
  intro i p hp
  refine ⟨?_, (h p (List.mem_of_getElem? hp)).below ((Below.refl _ _).alloc (Nat.le_refl _) _)⟩
  rw [Nat.zero_add, World.cell?_alloc_mark]
  simp [hp]

section
variable {ops : Array Oper} {Q : Exit → Act → World → Prop} {A : Tmp → Value → World → Prop} {a0 : Act} {w0 : World} {o : Oper} {d : Tmp}

/-- An operand that reads as these bytes. -/
def Src (ops : Array Oper) (A : Tmp → Value → World → Prop) (w0 : World) (o : Oper) (x : Operand) (bs : List UInt8) : Prop :=
  ∀ (a : Act) (w : World), Ext w0 w → (∀ t, (depSlots ops o).contains t = true → A t (a.tmps.getD t undef) w) → ∃ ao cap, a.eval x = .slice ao bs.length cap ∧ Rd w ao cap bs

theorem src_nil : Src ops A w0 o (.const (.slice none 0 0)) [] := fun _ w _ _ => ⟨none, 0, rfl, Rd.nothing w⟩

theorem src_slot (x : Tmp) (bs : List UInt8) (n : Nat) (hs : (depSlots ops o).contains x = true) (hF : ∀ v w, A x v w → Ext w0 w → ∃ ao cap, v = .slice ao n cap ∧ Rd w ao cap bs ∧ bs.length = n) : Src ops A w0 o (.tmp x) bs := fun a w hx hd => by
  obtain ⟨ao, cap, e, hr, hn⟩ := hF _ _ (hd x hs) hx
  exact ⟨ao, cap, by rw [hn]; exact e, hr⟩

theorem ok_build1 (hw : Wanted ops A o) (hdst : o.dst = some d) (x : Operand) (ho : o.op = .buildSlice 49 1 #[(0, x)]) (bs : List UInt8) (hX : Src ops A w0 o x bs)
    (hF : ∀ v w, (partsF bs 1).holds v w → A d v w) : StepOk Try.prog ops Q A a0 w0 o :=
  ok_val hw hdst fun a w hx hf hd => by
    obtain ⟨ao, cap, e, hr⟩ := hX a w hx hd
    refine ⟨_, _, ?_, hF _ _ ⟨w.heap.size, [(ao, cap, bs)], rfl, rfl, Lie.made w [(ao, cap, bs)] (by simpa using hr), by simp [cat]⟩, (Below.refl _ _).alloc (Nat.le_refl _) _⟩
    simp only [execOp, ho, List.map_toArray, List.map_cons, List.map_nil, e]
    simp [run_build1]

theorem ok_build2 (hw : Wanted ops A o) (hdst : o.dst = some d) (x y : Operand) (ho : o.op = .buildSlice 49 2 #[(0, x), (1, y)]) (bs cs : List UInt8) (hX : Src ops A w0 o x bs) (hY : Src ops A w0 o y cs)
    (hF : ∀ v w, (partsF (bs ++ cs) 2).holds v w → A d v w) : StepOk Try.prog ops Q A a0 w0 o :=
  ok_val hw hdst fun a w hx hf hd => by
    obtain ⟨a1, c1, e1, r1⟩ := hX a w hx hd
    obtain ⟨a2, c2, e2, r2⟩ := hY a w hx hd
    refine ⟨_, _, ?_, hF _ _ ⟨w.heap.size, [(a1, c1, bs), (a2, c2, cs)], rfl, rfl, Lie.made w [(a1, c1, bs), (a2, c2, cs)] (by simpa using ⟨r1, r2⟩), by simp [cat]⟩, (Below.refl _ _).alloc (Nat.le_refl _) _⟩
    simp only [execOp, ho, List.map_toArray, List.map_cons, List.map_nil, e1, e2]
    simp [run_build2]

theorem ok_build3 (hw : Wanted ops A o) (hdst : o.dst = some d) (x y z : Operand) (ho : o.op = .buildSlice 49 3 #[(0, x), (1, y), (2, z)]) (bs cs ds : List UInt8) (hX : Src ops A w0 o x bs) (hY : Src ops A w0 o y cs) (hZ : Src ops A w0 o z ds)
    (hF : ∀ v w, (partsF (bs ++ cs ++ ds) 3).holds v w → A d v w) : StepOk Try.prog ops Q A a0 w0 o :=
  ok_val hw hdst fun a w hx hf hd => by
    obtain ⟨a1, c1, e1, r1⟩ := hX a w hx hd
    obtain ⟨a2, c2, e2, r2⟩ := hY a w hx hd
    obtain ⟨a3, c3, e3, r3⟩ := hZ a w hx hd
    refine ⟨_, _, ?_, hF _ _ ⟨w.heap.size, [(a1, c1, bs), (a2, c2, cs), (a3, c3, ds)], rfl, rfl, Lie.made w [(a1, c1, bs), (a2, c2, cs), (a3, c3, ds)] (by simpa using ⟨r1, r2, r3⟩), by simp [cat]⟩, (Below.refl _ _).alloc (Nat.le_refl _) _⟩
    simp only [execOp, ho, List.map_toArray, List.map_cons, List.map_nil, e1, e2, e3]
    simp [run_build3]

theorem ok_build4 (hw : Wanted ops A o) (hdst : o.dst = some d) (x y z u : Operand) (ho : o.op = .buildSlice 49 4 #[(0, x), (1, y), (2, z), (3, u)]) (bs cs ds es : List UInt8) (hX : Src ops A w0 o x bs) (hY : Src ops A w0 o y cs) (hZ : Src ops A w0 o z ds) (hU : Src ops A w0 o u es)
    (hF : ∀ v w, (partsF (bs ++ cs ++ ds ++ es) 4).holds v w → A d v w) : StepOk Try.prog ops Q A a0 w0 o :=
  ok_val hw hdst fun a w hx hf hd => by
    obtain ⟨a1, c1, e1, r1⟩ := hX a w hx hd
    obtain ⟨a2, c2, e2, r2⟩ := hY a w hx hd
    obtain ⟨a3, c3, e3, r3⟩ := hZ a w hx hd
    obtain ⟨a4, c4, e4, r4⟩ := hU a w hx hd
    refine ⟨_, _, ?_, hF _ _ ⟨w.heap.size, [(a1, c1, bs), (a2, c2, cs), (a3, c3, ds), (a4, c4, es)], rfl, rfl, Lie.made w [(a1, c1, bs), (a2, c2, cs), (a3, c3, ds), (a4, c4, es)] (by simpa using ⟨r1, r2, r3, r4⟩), by simp [cat]⟩, (Below.refl _ _).alloc (Nat.le_refl _) _⟩
    simp only [execOp, ho, List.map_toArray, List.map_cons, List.map_nil, e1, e2, e3, e4]
    simp [run_build4]

theorem ok_to (hw : Wanted ops A o) (hdst : o.dst = some d) (x h : Tmp) (ho : o.op = .slice 22 (.tmp x) none (some (.tmp h)) none) (hx1 : (depSlots ops o).contains x = true) (hh1 : (depSlots ops o).contains h = true)
    (ao : Option Addr) (l cap X : Nat) (hX : ∀ v w, A x v w → v = .slice ao l cap) (hH : ∀ v w, A h v w → v = .int .i64 (X : Int)) (hle : X ≤ cap) (hF : ∀ w, Ext w0 w → A d (.slice ao X cap) w) : StepOk Try.prog ops Q A a0 w0 o :=
  ok_val hw hdst fun a w hx hf hd => ⟨_, w, by
    have e1 := hX _ _ (hd x hx1)
    have e2 := hH _ _ (hd h hh1)
    simp only [execOp, ho, Act.eval, e1, e2, Option.map_some, Option.map_none]
    simp [run_to w ao l cap X hle], hF w hx, Ext.refl _⟩

theorem ok_from (hw : Wanted ops A o) (hdst : o.dst = some d) (x h : Tmp) (ho : o.op = .slice 22 (.tmp x) (some (.tmp h)) none none) (hx1 : (depSlots ops o).contains x = true) (hh1 : (depSlots ops o).contains h = true)
    (ao : Option Addr) (l cap X : Nat) (hX : ∀ v w, A x v w → v = .slice ao l cap) (hH : ∀ v w, A h v w → v = .int .i64 (X : Int)) (hle : X ≤ l) (hlc : l ≤ cap) (hF : ∀ w, Ext w0 w → A d (.slice (if cap = X then ao else ao.map (·.add X)) (l - X) (cap - X)) w) : StepOk Try.prog ops Q A a0 w0 o :=
  ok_val hw hdst fun a w hx hf hd => ⟨_, w, by
    have e1 := hX _ _ (hd x hx1)
    have e2 := hH _ _ (hd h hh1)
    simp only [execOp, ho, Act.eval, e1, e2, Option.map_some, Option.map_none]
    simp only [Sem.run_bind, run_from w ao l cap X hle hlc, Result.andThen, Sem.run_pure], hF w hx, Ext.refl _⟩

theorem ok_mid (hw : Wanted ops A o) (hdst : o.dst = some d) (x g h : Tmp) (ho : o.op = .slice 22 (.tmp x) (some (.tmp g)) (some (.tmp h)) none) (hx1 : (depSlots ops o).contains x = true) (hg1 : (depSlots ops o).contains g = true) (hh1 : (depSlots ops o).contains h = true)
    (ao : Option Addr) (l cap X Y : Nat) (hX : ∀ v w, A x v w → v = .slice ao l cap) (hG : ∀ v w, A g v w → v = .int .i64 (X : Int)) (hH : ∀ v w, A h v w → v = .int .i64 (Y : Int)) (hle : X ≤ Y) (hlc : Y ≤ cap) (hF : ∀ w, Ext w0 w → A d (.slice (if cap = X then ao else ao.map (·.add X)) (Y - X) (cap - X)) w) : StepOk Try.prog ops Q A a0 w0 o :=
  ok_val hw hdst fun a w hx hf hd => ⟨_, w, by
    have e1 := hX _ _ (hd x hx1)
    have e2 := hG _ _ (hd g hg1)
    have e3 := hH _ _ (hd h hh1)
    simp only [execOp, ho, Act.eval, e1, e2, e3, Option.map_some, Option.map_none]
    simp only [Sem.run_bind, run_mid w ao l cap X Y hle hlc, Result.andThen, Sem.run_pure], hF w hx, Ext.refl _⟩

theorem enter22 : ∀ args w, (callFunc 22 args).run Try.prog w = .ok (.enter 22 args) w := run_enter 22 Try.f22 Try.func22 (by kernel_rfl) (by kernel_rfl)

/-- octet.Sum of parts. -/
theorem ok_sum (hw : Wanted ops A o) (hdst : o.dst = some d) (x : Tmp) (ho : o.op = .call { callee := .value (.func 22), args := #[.tmp x], argTypes := #[49] }) (hx1 : (depSlots ops o).contains x = true) (bs : List UInt8) (n : Nat) (hn : n ≤ 1000)
    (hX : ∀ v w, A x v w → (partsF bs n).holds v w) (hF : ∀ w, A d (.int .u32 (crc bs : Nat)) w) : StepOk Try.prog ops Q A a0 w0 o :=
  ok_call hw hdst 22 _ _ enter22 ho fun a w hx hf hd => by
    obtain ⟨b, ps, e, hl, hL, hc⟩ := hX _ _ (hd x hx1)
    simp only [List.map_toArray, List.map_cons, List.map_nil, Act.eval, e]
    refine (sum_some b 0 n n ps w hl (Nat.le_refl _) (by omega) hL).mono fun e w' h => ⟨_, h.1, ?_, h.2⟩
    rw [hc]
    exact hF w'
end
end Go.Proofs.Ytjkbapjdojhdeaa
