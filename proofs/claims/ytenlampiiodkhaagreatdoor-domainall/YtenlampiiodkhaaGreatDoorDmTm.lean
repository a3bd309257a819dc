/-
  Where the listed variables read as they are laid, fold's two tables lie where they belong; and one world that fits.
-/
import Derived.Test.YtenlampiiodkhaaGreatDoorRows
import Derived.Test.YtenlampiiodkhaaGreatDoorDmK0m
import Derived.Test.YtenlampiiodkhaaGreatDoorFrm4
import Derived.MakeChecks
import Derived.Lib.LaidU8
import Derived.ChangeArms
import Derived.LaidMore
import Derived.LaidHandle
import Derived.Lay
namespace Go.Proofs.YtenlampiiodkhaaGreatDoor
set_option linter.unusedVariables false
open Go.RowKit

def laidR : List (String × DataW Unit) := Rows.domainAllRow.laid
theorem gOut : Tryz.prog.globalNamed "shortcut/fold.leftOut" = some 0 := by kernel_rfl
theorem gBig : Tryz.prog.globalNamed "shortcut/fold.large" = some 1 := by kernel_rfl
theorem tOut : (Tryz.prog.globals[0]?).map (·.type) = some 135 := by kernel_rfl
theorem tBig : (Tryz.prog.globals[1]?).map (·.type) = some 138 := by kernel_rfl
theorem cells_int : Tryz.prog.cellsOf 21 = 1 := by kernel_rfl
theorem cells_span : Tryz.prog.cellsOf 134 = 3 := by kernel_rfl
theorem cells_caps : Tryz.prog.cellsOf 137 = 4 := by kernel_rfl

theorem chunk {l zs : List Value} {o n : Nat} (h : (l.drop o).take n = zs) (i : Nat) (hi : i < n) : l[o + i]? = zs[i]? := by
  have := congrArg (·[i]?) h
  simpa [List.getElem?_take, List.getElem?_drop, hi] using this

section
variable {w : World} {fuel : Nat} {p : List MemPlace}
theorem span_cells {cs : List Value} {f l s : Int} (h : DataW.trod (fun _ => ()) Tryz.prog w 0 (fun _ => true) false fuel 134 cs = some (.agg [.lit (.int .i32 f), .lit (.int .i32 l), .lit (.int .i32 s)], p)) : cs = [R f, R l, R s] :=
  Go.Lib.ints_of_struct (zs := [f, l, s]) Tryz.underlying134 (fun j g hj => by
    match j, hj with
    | 0, hj => simp at hj; subst hj; exact ⟨Tryz.underlying21, rfl, cells_int⟩
    | 1, hj => simp at hj; subst hj; exact ⟨Tryz.underlying21, rfl, cells_int⟩
    | 2, hj => simp at hj; subst hj; exact ⟨Tryz.underlying21, rfl, cells_int⟩
    | j + 3, hj => simp at hj) (by rw [cells_span]; rfl) h

set_option maxRecDepth 100000 in
theorem caps_cells {cs : List Value} {f l s m : Int} (h : DataW.trod (fun _ => ()) Tryz.prog w 0 (fun _ => true) false fuel 137 cs = some (.agg [.agg [.lit (.int .i32 f), .lit (.int .i32 l), .lit (.int .i32 s)], .lit (.int .i32 m)], p)) : cs = [R f, R l, R s, R m] := by
  obtain ⟨xs, n, rfl, hx, hl, hxl, hall⟩ := DataW.trod_struct Tryz.underlying137 h
  have h0 : DataW.trod (fun _ => ()) Tryz.prog w 0 (fun _ => true) false n 134 ((cs.drop 0).take (Tryz.prog.cellsOf 134)) = xs[0]? := hall 0 _ rfl
  have h1 : DataW.trod (fun _ => ()) Tryz.prog w 0 (fun _ => true) false n 21 ((cs.drop 3).take (Tryz.prog.cellsOf 21)) = xs[1]? := hall 1 _ rfl
  rw [cells_caps] at hl
  rw [cells_span] at h0
  rw [cells_int] at h1
  have hxs := congrArg Prod.fst hx
  simp only [DataW.agg.injEq] at hxs
  match xs, hxs, h0, h1 with
  | [x0, x1], hxs, h0, h1 =>
    simp only [List.map_cons, List.map_nil, List.cons.injEq, and_true] at hxs
    obtain ⟨a0, b0⟩ := x0
    obtain ⟨a1, b1⟩ := x1
    obtain ⟨rfl, rfl⟩ := hxs
    simp only [List.getElem?_cons_zero, List.getElem?_cons_succ] at h0 h1
    have k0 := span_cells h0
    obtain ⟨z, hz, hz2, _⟩ := DataW.trod_int Tryz.underlying21 h1
    simp only [Prod.mk.injEq, DataW.lit.injEq, Lit.int.injEq, true_and] at hz2
    obtain ⟨rfl, _⟩ := hz2
    match cs, hl, k0, hz with
    | [c0, c1, c2, c3], _, k0, hz =>
      simp at k0 hz
      obtain ⟨rfl, rfl, rfl⟩ := k0
      subst hz
      rfl
end

set_option maxRecDepth 100000 in
theorem tabs_of_laid {W : World} (h : laidMetH Tryz.prog laidR W) : Tabs W := by
  rw [MakeChecks.laidMetH_plain _ _ _ (by kernel_rfl)] at h
  have r1 := Go.Lib.laidMet.reads h (n := "shortcut/fold.leftOut") (List.Mem.head _)
  have r2 := Go.Lib.laidMet.reads h (n := "shortcut/fold.large") (List.Mem.tail _ (List.Mem.head _))
  clear h
  constructor
  · obtain ⟨g, t, cs, fuel, p, hg, hty, hvar, hd⟩ := r1
    obtain rfl := Option.some.inj (gOut.symm.trans hg)
    obtain rfl := Option.some.inj (tOut.symm.trans hty)
    intro j v hv
    have hj : j < 12 := (List.getElem?_eq_some_iff.1 hv).1
    obtain ⟨i, k, rfl, hi, hk⟩ : ∃ i k, j = i * 3 + k ∧ i < 4 ∧ k < 3 := ⟨j / 3, j % 3, by omega, by omega, by omega⟩
    obtain ⟨fuel', d, q, hdi, he⟩ := Go.Lib.array_elem Tryz.underlying135 hd i hi
    rw [cells_span] at he
    have hc : (cs.toList.drop (i * 3)).take 3 = (outT.drop (i * 3)).take 3 := by
      have hi4 : i = 0 ∨ i = 1 ∨ i = 2 ∨ i = 3 := by omega
      rcases hi4 with rfl | rfl | rfl | rfl <;>
      · obtain rfl := Option.some.inj hdi
        exact span_cells he
    rw [World.var?_cell hg hvar, ← Array.getElem?_toList, chunk hc k hk, ← hv]
    exact (chunk (l := outT) (o := i * 3) (n := 3) rfl k hk).symm
  · obtain ⟨g, t, cs, fuel, p, hg, hty, hvar, hd⟩ := r2
    obtain rfl := Option.some.inj (gBig.symm.trans hg)
    obtain rfl := Option.some.inj (tBig.symm.trans hty)
    intro j v hv
    have hj : j < 32 := (List.getElem?_eq_some_iff.1 hv).1
    obtain ⟨i, k, rfl, hi, hk⟩ : ∃ i k, j = i * 4 + k ∧ i < 8 ∧ k < 4 := ⟨j / 4, j % 4, by omega, by omega, by omega⟩
    obtain ⟨fuel', d, q, hdi, he⟩ := Go.Lib.array_elem Tryz.underlying138 hd i hi
    rw [cells_caps] at he
    have hc : (cs.toList.drop (i * 4)).take 4 = (bigT.drop (i * 4)).take 4 := by
      have hi8 : i = 0 ∨ i = 1 ∨ i = 2 ∨ i = 3 ∨ i = 4 ∨ i = 5 ∨ i = 6 ∨ i = 7 := by omega
      rcases hi8 with rfl | rfl | rfl | rfl | rfl | rfl | rfl | rfl <;>
      · obtain rfl := Option.some.inj hdi
        exact caps_cells he
    rw [World.var?_cell hg hvar, ← Array.getElem?_toList, chunk hc k hk, ← hv]
    exact (chunk (l := bigT) (o := i * 4) (n := 4) rfl k hk).symm

theorem tb_of_laid {W : World} (h : laidMetH Tryz.prog laidR W) (hsh : W.ShapedOpen Tryz.prog) : Tb6 W := ⟨tabs_of_laid h, Tryz.laysM146.s1_3 W hsh⟩
theorem world_met (os : Os) (args : Array Value) : laidMetH Tryz.prog laidR ((World.laidAll Tryz.prog os laidR).forCall (fun _ _ => 0) ⟨#[], args, []⟩).memory := by
  rw [MakeChecks.laidMetH_plain _ _ _ (by kernel_rfl)]
  exact laidMet_laidAll _ (by kernel_rfl) (by kernel_rfl)
end Go.Proofs.YtenlampiiodkhaaGreatDoor
