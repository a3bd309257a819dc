/-
  I6E2, I6Q.
-/
import Derived.Test.YtenlampiiodkhaaGreatDoorBXc
import Derived.Test.YtenlampiiodkhaaGreatDoorBAc
namespace Go.Proofs.YtenlampiiodkhaaGreatDoor
set_option linter.unusedVariables false
open Go.RowKit
theorem size16 (w : World) : (sizeOf 35).run Tryz.prog w = .ok 1 w := by kernel_rfl
theorem part16 (w : World) (cs : Array Value) (i : Nat) (v : Value) (h : cs[i]? = some v) : (part 35 cs i).run Tryz.prog w = .ok v w := by
  have ha : (isAgg 35).run Tryz.prog w = .ok false w := run_isAgg_plain Tryz.underlying35 rfl w; unfold part; simp [Sem.run_bind, ha, h]
theorem eq8 (w : World) (d : Nat) (x0 x1 x2 x3 x4 x5 x6 x7 : Int) : (Op.equalIn (d + 2) 36 (.agg #[.int .u16 x0, .int .u16 x1, .int .u16 x2, .int .u16 x3, .int .u16 x4, .int .u16 x5, .int .u16 x6, .int .u16 x7]) (.agg #[.int .u16 x0, .int .u16 x1, .int .u16 x2, .int .u16 x3, .int .u16 x4, .int .u16 x5, .int .u16 x6, .int .u16 x7])).run Tryz.prog w = .ok true w := by
  have hi : ∀ (a : Int) (w : World), (Op.equalIn (d + 1) 35 (.int .u16 a) (.int .u16 a)).run Tryz.prog w = .ok true w := fun a w => by
    rw [run_equalIn_int w d 35 .u16 .u16 a a Tryz.underlying35]; simp
  have hr : (List.range' 0 8 1) = [0, 1, 2, 3, 4, 5, 6, 7] := rfl; rw [show d + 2 = (d + 1) + 1 from rfl, Op.equalIn]; simp only [Sem.run_bind, run_underlying Tryz.underlying36, Result.andThen_ok, size16, Std.Legacy.Range.forIn_eq_forIn_range', Std.Legacy.Range.size, Nat.mul_one]; rw [show (8 - 0 + 1 - 1) / 1 = 8 from rfl, hr]; simp only [List.forIn_cons, List.forIn_nil, Sem.run_bind, Sem.run_pure, part16 _ #[Value.int IntKind.u16 x0, Value.int IntKind.u16 x1, Value.int IntKind.u16 x2, Value.int IntKind.u16 x3, Value.int IntKind.u16 x4, Value.int IntKind.u16 x5, Value.int IntKind.u16 x6, Value.int IntKind.u16 x7] 0 (.int .u16 x0) rfl,
    part16 _ #[Value.int IntKind.u16 x0, Value.int IntKind.u16 x1, Value.int IntKind.u16 x2, Value.int IntKind.u16 x3, Value.int IntKind.u16 x4, Value.int IntKind.u16 x5, Value.int IntKind.u16 x6, Value.int IntKind.u16 x7] 1 (.int .u16 x1) rfl,
    part16 _ #[Value.int IntKind.u16 x0, Value.int IntKind.u16 x1, Value.int IntKind.u16 x2, Value.int IntKind.u16 x3, Value.int IntKind.u16 x4, Value.int IntKind.u16 x5, Value.int IntKind.u16 x6, Value.int IntKind.u16 x7] 2 (.int .u16 x2) rfl,
    part16 _ #[Value.int IntKind.u16 x0, Value.int IntKind.u16 x1, Value.int IntKind.u16 x2, Value.int IntKind.u16 x3, Value.int IntKind.u16 x4, Value.int IntKind.u16 x5, Value.int IntKind.u16 x6, Value.int IntKind.u16 x7] 3 (.int .u16 x3) rfl,
    part16 _ #[Value.int IntKind.u16 x0, Value.int IntKind.u16 x1, Value.int IntKind.u16 x2, Value.int IntKind.u16 x3, Value.int IntKind.u16 x4, Value.int IntKind.u16 x5, Value.int IntKind.u16 x6, Value.int IntKind.u16 x7] 4 (.int .u16 x4) rfl,
    part16 _ #[Value.int IntKind.u16 x0, Value.int IntKind.u16 x1, Value.int IntKind.u16 x2, Value.int IntKind.u16 x3, Value.int IntKind.u16 x4, Value.int IntKind.u16 x5, Value.int IntKind.u16 x6, Value.int IntKind.u16 x7] 5 (.int .u16 x5) rfl,
    part16 _ #[Value.int IntKind.u16 x0, Value.int IntKind.u16 x1, Value.int IntKind.u16 x2, Value.int IntKind.u16 x3, Value.int IntKind.u16 x4, Value.int IntKind.u16 x5, Value.int IntKind.u16 x6, Value.int IntKind.u16 x7] 6 (.int .u16 x6) rfl,
    part16 _ #[Value.int IntKind.u16 x0, Value.int IntKind.u16 x1, Value.int IntKind.u16 x2, Value.int IntKind.u16 x3, Value.int IntKind.u16 x4, Value.int IntKind.u16 x5, Value.int IntKind.u16 x6, Value.int IntKind.u16 x7] 7 (.int .u16 x7) rfl,
    Result.andThen_ok, hi, Bool.not_true, Bool.false_eq_true, if_false]
theorem eql8 (w : World) (x0 x1 x2 x3 x4 x5 x6 x7 : Int) : (Op.equalIn 10000 36 (.agg #[.int .u16 x0, .int .u16 x1, .int .u16 x2, .int .u16 x3, .int .u16 x4, .int .u16 x5, .int .u16 x6, .int .u16 x7]) (.agg #[.int .u16 x0, .int .u16 x1, .int .u16 x2, .int .u16 x3, .int .u16 x4, .int .u16 x5, .int .u16 x6, .int .u16 x7])).run Tryz.prog w = .ok true w := eq8 w 9998 x0 x1 x2 x3 x4 x5 x6 x7
end Go.Proofs.YtenlampiiodkhaaGreatDoor
namespace Go.Proofs.YtenlampiiodkhaaGreatDoor
set_option linter.unusedVariables false
open Go.RowKit
theorem list8q (a : List Nat) (h : a.length = 8) : ∃ x0 x1 x2 x3 x4 x5 x6 x7, a = [x0, x1, x2, x3, x4, x5, x6, x7] := by
  match a, h with
  | [a, b, c, d, e, f, g, i], _ => exact ⟨a, b, c, d, e, f, g, i, rfl⟩
section
variable {ops : Array Oper} {Q : Exit → Act → World → Prop} {A : Tmp → Value → World → Prop} {a0 : Act} {w0 : World} {o : Oper} {d : Tmp}
end
theorem load_8q {w : World} {g x0 x1 x2 x3 x4 x5 x6 x7 : Nat} (h : w.heap[g]? = some (.cells #[U x0, U x1, U x2, U x3, U x4, U x5, U x6, U x7] 36 (0, 0))) : (Instr.loadAt 36 (.pointer (some ⟨g, 0, none⟩))).run Tryz.prog w = .ok (.agg #[U x0, U x1, U x2, U x3, U x4, U x5, U x6, U x7]) w :=
  load_8 g 0 [x0, x1, x2, x3, x4, x5, x6, x7] fun j v hj => by
    rw [Nat.zero_add]; have hc : w.cell? ⟨g, j, none⟩ = (#[U x0, U x1, U x2, U x3, U x4, U x5, U x6, U x7] : Array Value)[j]? := by simp [World.cell?, h]
    rw [hc, List.getElem?_toArray]; exact hj
end Go.Proofs.YtenlampiiodkhaaGreatDoor
