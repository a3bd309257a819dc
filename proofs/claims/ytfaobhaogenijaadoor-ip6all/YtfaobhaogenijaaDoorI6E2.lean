/-
  Whether eight pieces are the same eight pieces.
-/
import Derived.Test.YtfaobhaogenijaaDoorI6I
namespace Go.Proofs.YtfaobhaogenijaaDoor
set_option linter.unusedVariables false
open Go.RowKit

theorem size16 (w : World) : (sizeOf 22).run Tryd.prog w = .ok 1 w := by kernel_rfl
theorem part16 (w : World) (cs : Array Value) (i : Nat) (v : Value) (h : cs[i]? = some v) : (part 22 cs i).run Tryd.prog w = .ok v w := by
  have ha : (isAgg 22).run Tryd.prog w = .ok false w := run_isAgg_plain Tryd.underlying22 rfl w
  unfold part
  simp [Sem.run_bind, ha, h]
theorem eq8 (w : World) (d : Nat) (x0 x1 x2 x3 x4 x5 x6 x7 : Int) : (Op.equalIn (d + 2) 23 (.agg #[.int .u16 x0, .int .u16 x1, .int .u16 x2, .int .u16 x3, .int .u16 x4, .int .u16 x5, .int .u16 x6, .int .u16 x7]) (.agg #[.int .u16 x0, .int .u16 x1, .int .u16 x2, .int .u16 x3, .int .u16 x4, .int .u16 x5, .int .u16 x6, .int .u16 x7])).run Tryd.prog w = .ok true w := by
  have hi : ∀ (a : Int) (w : World), (Op.equalIn (d + 1) 22 (.int .u16 a) (.int .u16 a)).run Tryd.prog w = .ok true w := fun a w => by
    rw [run_equalIn_int w d 22 .u16 .u16 a a Tryd.underlying22]
    simp
  have hr : (List.range' 0 8 1) = [0, 1, 2, 3, 4, 5, 6, 7] := rfl
  rw [show d + 2 = (d + 1) + 1 from rfl, Op.equalIn]
  simp only [Sem.run_bind, run_underlying Tryd.underlying23, Result.andThen_ok, size16, Std.Legacy.Range.forIn_eq_forIn_range', Std.Legacy.Range.size, Nat.mul_one]
  rw [show (8 - 0 + 1 - 1) / 1 = 8 from rfl, hr]
  simp only [List.forIn_cons, List.forIn_nil, Sem.run_bind, Sem.run_pure, part16 _ #[Value.int IntKind.u16 x0, Value.int IntKind.u16 x1, Value.int IntKind.u16 x2, Value.int IntKind.u16 x3, Value.int IntKind.u16 x4, Value.int IntKind.u16 x5, Value.int IntKind.u16 x6, Value.int IntKind.u16 x7] 0 (.int .u16 x0) rfl,
    part16 _ #[Value.int IntKind.u16 x0, Value.int IntKind.u16 x1, Value.int IntKind.u16 x2, Value.int IntKind.u16 x3, Value.int IntKind.u16 x4, Value.int IntKind.u16 x5, Value.int IntKind.u16 x6, Value.int IntKind.u16 x7] 1 (.int .u16 x1) rfl,
    part16 _ #[Value.int IntKind.u16 x0, Value.int IntKind.u16 x1, Value.int IntKind.u16 x2, Value.int IntKind.u16 x3, Value.int IntKind.u16 x4, Value.int IntKind.u16 x5, Value.int IntKind.u16 x6, Value.int IntKind.u16 x7] 2 (.int .u16 x2) rfl,
    part16 _ #[Value.int IntKind.u16 x0, Value.int IntKind.u16 x1, Value.int IntKind.u16 x2, Value.int IntKind.u16 x3, Value.int IntKind.u16 x4, Value.int IntKind.u16 x5, Value.int IntKind.u16 x6, Value.int IntKind.u16 x7] 3 (.int .u16 x3) rfl,
    part16 _ #[Value.int IntKind.u16 x0, Value.int IntKind.u16 x1, Value.int IntKind.u16 x2, Value.int IntKind.u16 x3, Value.int IntKind.u16 x4, Value.int IntKind.u16 x5, Value.int IntKind.u16 x6, Value.int IntKind.u16 x7] 4 (.int .u16 x4) rfl,
    part16 _ #[Value.int IntKind.u16 x0, Value.int IntKind.u16 x1, Value.int IntKind.u16 x2, Value.int IntKind.u16 x3, Value.int IntKind.u16 x4, Value.int IntKind.u16 x5, Value.int IntKind.u16 x6, Value.int IntKind.u16 x7] 5 (.int .u16 x5) rfl,
    part16 _ #[Value.int IntKind.u16 x0, Value.int IntKind.u16 x1, Value.int IntKind.u16 x2, Value.int IntKind.u16 x3, Value.int IntKind.u16 x4, Value.int IntKind.u16 x5, Value.int IntKind.u16 x6, Value.int IntKind.u16 x7] 6 (.int .u16 x6) rfl,
    part16 _ #[Value.int IntKind.u16 x0, Value.int IntKind.u16 x1, Value.int IntKind.u16 x2, Value.int IntKind.u16 x3, Value.int IntKind.u16 x4, Value.int IntKind.u16 x5, Value.int IntKind.u16 x6, Value.int IntKind.u16 x7] 7 (.int .u16 x7) rfl,
    Result.andThen_ok, hi, Bool.not_true, Bool.false_eq_true, if_false]
/-- v == v, v != v of eight pieces. -/
theorem eql8 (w : World) (x0 x1 x2 x3 x4 x5 x6 x7 : Int) : (Op.equalIn 10000 23 (.agg #[.int .u16 x0, .int .u16 x1, .int .u16 x2, .int .u16 x3, .int .u16 x4, .int .u16 x5, .int .u16 x6, .int .u16 x7]) (.agg #[.int .u16 x0, .int .u16 x1, .int .u16 x2, .int .u16 x3, .int .u16 x4, .int .u16 x5, .int .u16 x6, .int .u16 x7])).run Tryd.prog w = .ok true w := eq8 w 9998 x0 x1 x2 x3 x4 x5 x6 x7
end Go.Proofs.YtfaobhaogenijaaDoor
