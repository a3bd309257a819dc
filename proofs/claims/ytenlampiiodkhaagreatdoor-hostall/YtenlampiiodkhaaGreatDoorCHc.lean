/-
  U6, U7, U8, RuneP, Op3.
-/
import Derived.Test.YtenlampiiodkhaaGreatDoorBUc
import Derived.Deep.RegionLaw
import Derived.Laws.IdiomStrings
namespace Go.Proofs.YtenlampiiodkhaaGreatDoor
set_option linter.unusedVariables false
open Go.RowKit
theorem step_app {ops : Array Oper} {o : Oper} {a : Act} {w : World} {K : Act → World → Prop} {Q : Exit → Act → World → Prop} {E : Prop} (hgd : o.guard = none) (s x : Operand) (t e : TypeId) (z : Value) (bytes : Nat)
    (hT : Tryz.prog.underlying t = some (.slice e)) (hI : (Tryz.prog.info? e).map (fun i => (i.zero, i.size, i.bytes)) = some (some z, 1, bytes)) (hzs : z.cells.size = 1)
    (ho : o.op = .call { callee := .builtin .append, args := #[s, x], argTypes := #[t, t] })
    (base : Nat) (v : Value) (n : Nat) (xs : List Value) (hs : a.eval s = v) (hown : w.ownsRow base e 1 v n xs)
    (ad : Addr) (m c : Nat) (ys : List Value) (hx : a.eval x = .slice (some ad) m c) (hl : ys.length = m) (hr : RdV w (some ad) c ys) (hone : ∀ u ∈ ys, u.oneCell' = true) (hb : (n + m) * (bytes + 1) ≤ 140737488355328) (hbase : base ≤ w.heap.size)
    (h : ∀ v' w', w'.ownsRow base e 1 v' (n + m) (xs ++ ys) → Below base w w' → K (a.put o.dst v') w') : if Region.wanted o (yielded ops a.tmps) = true then Oper.wp Tryz.prog o a w K Q else E := by
  have hw : Region.wanted o (yielded ops a.tmps) = true := by simp [Region.wanted, hgd]
  rw [if_pos hw]; obtain ⟨i0, hi, hz0, hz1, hz2⟩ := info_parts hI; have hb1 : (n + m) * bytes ≤ 140737488355328 := Nat.le_trans (Nat.mul_le_mul_left _ (by omega)) hb; have hb2 : n + m ≤ 140737488355328 := Nat.le_trans (by rw [Nat.mul_add, Nat.mul_one]; omega) hb; refine wp_append_own w s x t ho base e i0 z 1 bytes hT hi hz0 hz1 hz2 hzs (by decide) v n xs hs hown ad m c ys hx (by omega) (hr.news ad rfl) hone (by unfold maxLen; omega) hb1 hbase ?_; intro v' w' h1 h2 _; exact h v' w' h1 ((Below.refl _ _).grown h2 hbase (fun t ht => (hown.lt t ht).1))
theorem step_call {ops : Array Oper} {o : Oper} {a : Act} {w : World} {K : Act → World → Prop} {Q : Exit → Act → World → Prop} {E : Prop} (hgd : o.guard = none) (f : FuncId) (xs : Array Operand) (ats : Array TypeId)
    (hE : ∀ args w, (callFunc f args).run Tryz.prog w = .ok (.enter f args) w) (ho : o.op = .call { callee := .value (.func f), args := xs, argTypes := ats }) (args : Array Value) (hargs : xs.map a.eval = args) (v : Value)
    (hc : Calls Tryz.prog f args w fun e w' => e = .returned v ∧ w' = w) (h : K (a.put o.dst v) w) : if Region.wanted o (yielded ops a.tmps) = true then Oper.wp Tryz.prog o a w K Q else E := by
  have hw : Region.wanted o (yielded ops a.tmps) = true := by simp [Region.wanted, hgd]
  rw [if_pos hw]; subst hargs; obtain ⟨dst, op, ty, pos, after, guard⟩ := o; subst ho; have hrun : (execOp a.eval { dst := dst, op := .call { callee := .value (.func f), args := xs, argTypes := ats }, type := ty, pos := pos, after := after, guard := guard }).run Tryz.prog w = .ok (.enter f (xs.map a.eval)) w := by
    rw [execOp_call_go]; have e : #[] ++ xs.map a.eval ++ #[] = xs.map a.eval := by simp
    rw [e]; exact hE _ w
  unfold Oper.wp; rw [hrun, Oper.upon_enter]; refine hc.mono ?_; rintro e w' ⟨rfl, rfl⟩; exact h
end Go.Proofs.YtenlampiiodkhaaGreatDoor
namespace Go.Proofs.YtenlampiiodkhaaGreatDoor
set_option linter.unusedVariables false
open Go.RowKit
end Go.Proofs.YtenlampiiodkhaaGreatDoor
namespace Go.Proofs.YtenlampiiodkhaaGreatDoor
set_option linter.unusedVariables false
open Go.RowKit
end Go.Proofs.YtenlampiiodkhaaGreatDoor
namespace Go.Proofs.YtenlampiiodkhaaGreatDoor
set_option linter.unusedVariables false
def front (len : Nat) (g : Nat → Nat) : Nat × Nat :=
  if g 0 < 128 then (g 0, 1)
  else if g 0 / 32 = 6 ∧ 1 < len ∧ g 1 / 64 = 2 then (if 128 ≤ g 0 % 32 * 64 + g 1 % 64 then (g 0 % 32 * 64 + g 1 % 64, 2) else (65533, 1))
  else if g 0 / 16 = 14 ∧ (1 < len ∧ g 1 / 64 = 2) ∧ (2 < len ∧ g 2 / 64 = 2) then
    (if 2048 ≤ g 0 % 16 * 4096 + g 1 % 64 * 64 + g 2 % 64 ∧ Utf8.valid ((g 0 % 16 * 4096 + g 1 % 64 * 64 + g 2 % 64 : Nat) : Int) = true then (g 0 % 16 * 4096 + g 1 % 64 * 64 + g 2 % 64, 3) else (65533, 1))
  else if g 0 / 8 = 30 ∧ (1 < len ∧ g 1 / 64 = 2) ∧ (2 < len ∧ g 2 / 64 = 2) ∧ (3 < len ∧ g 3 / 64 = 2) then
    (if 65536 ≤ g 0 % 8 * 262144 + g 1 % 64 * 4096 + g 2 % 64 * 64 + g 3 % 64 ∧ Utf8.valid ((g 0 % 8 * 262144 + g 1 % 64 * 4096 + g 2 % 64 * 64 + g 3 % 64 : Nat) : Int) = true then (g 0 % 8 * 262144 + g 1 % 64 * 4096 + g 2 % 64 * 64 + g 3 % 64, 4) else (65533, 1))
  else (65533, 1)
end Go.Proofs.YtenlampiiodkhaaGreatDoor
namespace Go.Proofs.YtenlampiiodkhaaGreatDoor
set_option linter.unusedVariables false
open Go.RowKit
section
variable {ops : Array Oper} {Q : Exit → Act → World → Prop} {A : Tmp → Value → World → Prop} {a0 : Act} {w0 : World} {o : Oper} {d : Tmp}
end
end Go.Proofs.YtenlampiiodkhaaGreatDoor
