/-
  Frm4, HoL.
-/
import Derived.Test.YtenlampiiodkhaaGreatDoorBAc
import Derived.HandedShaped
import Derived.Handed
import Derived.Test.YtenlampiiodkhaaGreatDoorRows
import Derived.Test.YtenlampiiodkhaaGreatDoorCBc
import Derived.MakeChecks
import Derived.Lib.LaidU8
import Derived.ChangeArms
import Derived.LaidMore
import Derived.LaidHandle
import Derived.Lay
import Derived.Lib.LaidTab
import Derived.Stop.LaidErr
namespace Go.Proofs.YtenlampiiodkhaaGreatDoor
set_option linter.unusedVariables false
open Go.RowKit
theorem handed_and_shaped {H : Type} {enc : TypeId × Value → H} {a : Assume} {C : Checked} {os : Os} {f : FuncId} {fn : Func} {s : ChangeSpec} {conds : List PathCond} {apart fresh handsOn again : Bool} {X : World → Array Value → Prop}
    (hX : ∀ (w w' : World) (args : Array Value), w.heap = w'.heap → X w args → X w' args)
    (own : ownKnob C.prog.godebug = none) (started : os.Started) (noInit : C.prog.inits.idxOf? f = none) (hfn : C.prog.funcs[f]? = some fn)
    (witness : ∃ (w : World) (tape : Tape) (i : Input), w.os = os ∧ (w.forCall tape i).Shaped C.prog ∧ i.vars = [] ∧ Input.okWide C.prog (w.forCall tape i) .any w.heap.size f i ∧
      ((s.pre enc C.prog fn conds apart (w.forCall tape i).memory i.args ∧ X (w.forCall tape i).memory i.args) ∧ sizedMet enc C.prog fn (OpenSpec.ofChange s) apart (w.forCall tape i).memory i.args) ∧ a.holds C.prog (lone (Frame.enter C.prog f i.args .normal) [] (w.forCall tape i)))
    (contract : ∀ (W : World) (base : Nat) (args : Array Value) (ds gs : List (DataW H)) (before : List MemPlace),
      (∀ (j : Nat) t v, fn.params[j]? = some t → args[j]? = some v → Value.okWide C.prog W .any base t v) →
      DataW.Whole enc C.prog fn.params.toList s.vars apart W args.toList ds gs before →
      conds.all (PathCond.test C.prog ⟨fn.params.toList, ds, s.plain.varTypes C.prog, gs⟩) = true →
      (DataW.weightsEach C.prog (fn.params.toList ++ s.plain.varTypes C.prog) (ds ++ gs)).all (· ≤ reachBytes) = true → X W args → W.ShapedOpen C.prog →
      Calls C.prog f args W fun e W' => ∃ v, e = .returned v ∧ s.post enc C.prog fn apart fresh handsOn again W args v W') :
    ReturnsInHanded a C os f .any (fun w args => (s.pre enc C.prog fn conds apart w args ∧ X w args) ∧ sizedMet enc C.prog fn (OpenSpec.ofChange s) apart w args) (s.post enc C.prog fn apart fresh handsOn again) := by
  refine returnsInHanded_of_calls own started noInit witness ?_; intro w tape i _ hsh _ hok hpre hholds; obtain ⟨_, _, _, fn', hfn', _, _, _, _, hval⟩ := hok; have e : fn' = fn := Option.some.inj (hfn'.symm.trans hfn); subst e; obtain ⟨⟨⟨ds, gs, before, hw, hc⟩, hx⟩, hz⟩ := hpre; have hw' := DataW.Whole.of_heap (w' := w.forCall tape i) (by rfl) hw; refine (contract (w.forCall tape i) w.heap.size i.args ds gs before hval hw' hc (hz.weights hw) (hX _ _ _ (by rfl) hx) hsh).mono fun e W' ⟨v, he, hp⟩ => ?_; subst he; exact ChangeSpec.post_blind hp
end Go.Proofs.YtenlampiiodkhaaGreatDoor
namespace Go.Proofs.YtenlampiiodkhaaGreatDoor
set_option linter.unusedVariables false
open Go.RowKit
def laidR : List (String × DataW Unit) := Rows.hostAllRow.laid
theorem gOut : Tryz.prog.globalNamed "shortcut/fold.leftOut" = some 0 := by kernel_rfl
theorem gBig : Tryz.prog.globalNamed "shortcut/fold.large" = some 1 := by kernel_rfl
theorem tOut : (Tryz.prog.globals[0]?).map (·.type) = some 135 := by kernel_rfl
theorem tBig : (Tryz.prog.globals[1]?).map (·.type) = some 138 := by kernel_rfl
theorem cells_int : Tryz.prog.cellsOf 21 = 1 := by kernel_rfl
theorem cells_span : Tryz.prog.cellsOf 134 = 3 := by kernel_rfl
theorem cells_caps : Tryz.prog.cellsOf 137 = 4 := by kernel_rfl
theorem chunk {l zs : List Value} {o n : Nat} (h : (l.drop o).take n = zs) (i : Nat) (hi : i < n) : l[o + i]? = zs[i]? := by
  have := congrArg (·[i]?) h; simpa [List.getElem?_take, List.getElem?_drop, hi] using this
section
variable {w : World} {fuel : Nat} {p : List MemPlace}
theorem span_cells {cs : List Value} {f l s : Int} (h : DataW.trod (fun _ => ()) Tryz.prog w 0 (fun _ => true) false fuel 134 cs = some (.agg [.lit (.int .i32 f), .lit (.int .i32 l), .lit (.int .i32 s)], p)) : cs = [R f, R l, R s] :=
  Go.Lib.ints_of_struct (zs := [f, l, s]) Tryz.underlying134 (fun j g hj => by
    match j, hj with
    | 0, hj => simp at hj; subst hj; exact ⟨Tryz.underlying21, rfl, cells_int⟩
    | 1, hj => simp at hj; subst hj; exact ⟨Tryz.underlying21, rfl, cells_int⟩
    | 2, hj => simp at hj; subst hj; exact ⟨Tryz.underlying21, rfl, cells_int⟩
    | j + 3, hj => simp at hj) (by rw [cells_span]; rfl) h
set_option maxRecDepth 100000 in
theorem caps_cells {cs : List Value} {f l s m : Int} (h : DataW.trod (fun _ => ()) Tryz.prog w 0 (fun _ => true) false fuel 137 cs = some (.agg [.agg [.lit (.int .i32 f), .lit (.int .i32 l), .lit (.int .i32 s)], .lit (.int .i32 m)], p)) : cs = [R f, R l, R s, R m] := by
  obtain ⟨xs, n, rfl, hx, hl, hxl, hall⟩ := DataW.trod_struct Tryz.underlying137 h; have h0 : DataW.trod (fun _ => ()) Tryz.prog w 0 (fun _ => true) false n 134 ((cs.drop 0).take (Tryz.prog.cellsOf 134)) = xs[0]? := hall 0 _ rfl; have h1 : DataW.trod (fun _ => ()) Tryz.prog w 0 (fun _ => true) false n 21 ((cs.drop 3).take (Tryz.prog.cellsOf 21)) = xs[1]? := hall 1 _ rfl; rw [cells_caps] at hl; rw [cells_span] at h0; rw [cells_int] at h1; have hxs := congrArg Prod.fst hx; simp only [DataW.agg.injEq] at hxs
  match xs, hxs, h0, h1 with
  | [x0, x1], hxs, h0, h1 =>
    simp only [List.map_cons, List.map_nil, List.cons.injEq, and_true] at hxs; obtain ⟨a0, b0⟩ := x0; obtain ⟨a1, b1⟩ := x1; obtain ⟨rfl, rfl⟩ := hxs; simp only [List.getElem?_cons_zero, List.getElem?_cons_succ] at h0 h1; have k0 := span_cells h0; obtain ⟨z, hz, hz2, _⟩ := DataW.trod_int Tryz.underlying21 h1; simp only [Prod.mk.injEq, DataW.lit.injEq, Lit.int.injEq, true_and] at hz2; obtain ⟨rfl, _⟩ := hz2
    match cs, hl, k0, hz with
    | [c0, c1, c2, c3], _, k0, hz =>
      simp at k0 hz; obtain ⟨rfl, rfl, rfl⟩ := k0; subst hz; rfl
end
set_option maxRecDepth 100000 in
theorem tabs_of_laid {W : World} (h : laidMetH Tryz.prog laidR W) : Tabs W := by
  rw [MakeChecks.laidMetH_plain _ _ _ (by kernel_rfl)] at h; have r1 := Go.Lib.laidMet.reads h (n := "shortcut/fold.leftOut") (List.Mem.tail _ (List.Mem.tail _ (List.Mem.tail _ (List.Mem.head _)))); have r2 := Go.Lib.laidMet.reads h (n := "shortcut/fold.large") (List.Mem.tail _ (List.Mem.tail _ (List.Mem.tail _ (List.Mem.tail _ (List.Mem.head _))))); clear h; constructor
  · obtain ⟨g, t, cs, fuel, p, hg, hty, hvar, hd⟩ := r1; obtain rfl := Option.some.inj (gOut.symm.trans hg); obtain rfl := Option.some.inj (tOut.symm.trans hty); intro j v hv; have hj : j < 12 := (List.getElem?_eq_some_iff.1 hv).1; obtain ⟨i, k, rfl, hi, hk⟩ : ∃ i k, j = i * 3 + k ∧ i < 4 ∧ k < 3 := ⟨j / 3, j % 3, by omega, by omega, by omega⟩; obtain ⟨fuel', d, q, hdi, he⟩ := Go.Lib.array_elem Tryz.underlying135 hd i hi; rw [cells_span] at he; have hc : (cs.toList.drop (i * 3)).take 3 = (outT.drop (i * 3)).take 3 := by
      have hi4 : i = 0 ∨ i = 1 ∨ i = 2 ∨ i = 3 := by omega
      rcases hi4 with rfl | rfl | rfl | rfl <;>
      · obtain rfl := Option.some.inj hdi; exact span_cells he
    rw [World.var?_cell hg hvar, ← Array.getElem?_toList, chunk hc k hk, ← hv]; exact (chunk (l := outT) (o := i * 3) (n := 3) rfl k hk).symm
  · obtain ⟨g, t, cs, fuel, p, hg, hty, hvar, hd⟩ := r2; obtain rfl := Option.some.inj (gBig.symm.trans hg); obtain rfl := Option.some.inj (tBig.symm.trans hty); intro j v hv; have hj : j < 32 := (List.getElem?_eq_some_iff.1 hv).1; obtain ⟨i, k, rfl, hi, hk⟩ : ∃ i k, j = i * 4 + k ∧ i < 8 ∧ k < 4 := ⟨j / 4, j % 4, by omega, by omega, by omega⟩; obtain ⟨fuel', d, q, hdi, he⟩ := Go.Lib.array_elem Tryz.underlying138 hd i hi; rw [cells_caps] at he; have hc : (cs.toList.drop (i * 4)).take 4 = (bigT.drop (i * 4)).take 4 := by
      have hi8 : i = 0 ∨ i = 1 ∨ i = 2 ∨ i = 3 ∨ i = 4 ∨ i = 5 ∨ i = 6 ∨ i = 7 := by omega
      rcases hi8 with rfl | rfl | rfl | rfl | rfl | rfl | rfl | rfl <;>
      · obtain rfl := Option.some.inj hdi; exact caps_cells he
    rw [World.var?_cell hg hvar, ← Array.getElem?_toList, chunk hc k hk, ← hv]; exact (chunk (l := bigT) (o := i * 4) (n := 4) rfl k hk).symm
theorem tab_of_reads {P : Program} {W : World} {name : String} {k : IntKind} {zs : List Int} {g : Nat} {t e : TypeId} {n : Nat}
    (hg : P.globalNamed name = some g) (hty : (P.globals[g]?).map (·.type) = some t) (ht : P.underlying t = some (.array n e)) (he : P.underlying e = some (.int k)) (hce : P.cellsOf e = 1) (hct : P.cellsOf t = n)
    (h : Lib.VarReads P W name (Lib.tabData k zs)) : Lib.TabIs P W name k zs := by
  obtain ⟨g', t', cs, fuel, p, hg', ht', hvar, hd⟩ := h; obtain rfl := Option.some.inj (hg.symm.trans hg'); obtain rfl := Option.some.inj (hty.symm.trans ht'); unfold Lib.TabIs; rw [hvar, ← Lib.cells_of_tab ht he hce hct hd]
theorem max_cell (w : World) (h : w.ShapedOpen Tryz.prog) : ∃ m, w.cell? ⟨2, 0, none⟩ = some (.int .i64 m) :=
  Go.Proofs.cell_of_shapedOpen_int (zero := #[.int .i64 0]) (t := 3) h (of_decide_eq_true (by kernel_rfl)) (by kernel_rfl) rfl (by kernel_rfl) (by kernel_rfl) Tryz.underlying3
theorem sent_star : "*" ++ "errors.errorString" = "*errors.errorString" := by decide
theorem row_sent (u : TypeId) (h : Tryz.prog.typeName? 3 u = some "*errors.errorString") : u = 227 :=
  typeName_ptr_named (nm := "errors.errorString") (by rw [sent_star]; kernel_rfl) (by kernel_rfl) (by decide) u (by rw [sent_star]; exact h)
def bruT : List Int := [0, 1, 56, 2, 57, 49, 28, 3, 61, 58, 42, 50, 38, 29, 17, 4, 62, 47, 59, 36, 45, 43, 51, 22, 53, 39, 33, 30, 24, 18, 12, 5, 63, 55, 48, 27, 60, 41, 37, 16, 46, 35, 44, 21, 52, 32, 23, 11, 54, 26, 40, 15, 34, 20, 31, 10, 25, 14, 19, 9, 13, 8, 7, 6]
theorem tb8_of_laid {W : World} (h : laidMetH Tryz.prog laidR W) (hsh : W.ShapedOpen Tryz.prog) : Tb8 W := by
  rw [MakeChecks.laidMetH_plain _ _ _ (by kernel_rfl)] at h; have r := Lib.laidMet.reads h (n := "internal/strconv.uint64pow10") (d := Rows.laid_internal_strconv_uint64pow10) (List.Mem.tail _ (List.Mem.tail _ (List.Mem.head _))); have r2 := Lib.laidMet.reads h (n := "math/bits.deBruijn64tab") (d := Rows.laid_math_bits_deBruijn64tab) (List.Mem.tail _ (List.Mem.head _)); have t2 := tab_of_reads (zs := bruT) (show Tryz.prog.globalNamed "math/bits.deBruijn64tab" = some 7 by kernel_rfl) (show (Tryz.prog.globals[7]?).map (·.type) = some 214 by kernel_rfl) Tryz.underlying214 Tryz.underlying5 (by kernel_rfl) (by kernel_rfl) r2; obtain ⟨a, s, hv, _, _, _⟩ := laid_sentinel (W := W) (h.tail.tail.tail.tail.tail.tail.tail) (show Tryz.prog.globalNamed "strconv.ErrSyntax" = some 8 by kernel_rfl) (show (Tryz.prog.globals[8]?).map (·.type) = some 82 by kernel_rfl) Tryz.underlying82 row_sent Tryz.underlying227 Tryz.underlying229 rfl rfl Tryz.underlying9 (by kernel_rfl) (by kernel_rfl); refine ⟨⟨max_cell W hsh, ?_⟩, ?_, ?_⟩
  · exact tab_of_reads (zs := Lib.pow10Tab) (show Tryz.prog.globalNamed "internal/strconv.uint64pow10" = some 3 by kernel_rfl) (show (Tryz.prog.globals[3]?).map (·.type) = some 191 by kernel_rfl) Tryz.underlying191 Tryz.underlying43 (by kernel_rfl) (by kernel_rfl) r
  · have h0 := World.var?_cell (show Tryz.prog.globalNamed "math/bits.deBruijn64tab" = some 7 by kernel_rfl) t2 15; rw [h0]; rfl
  · have h0 := World.var?_cell (show Tryz.prog.globalNamed "strconv.ErrSyntax" = some 8 by kernel_rfl) hv 0; exact ⟨_, _, h0⟩
theorem tb_of_laid {W : World} (h : laidMetH Tryz.prog laidR W) (hsh : W.ShapedOpen Tryz.prog) : Tb9 W := ⟨⟨tabs_of_laid h, (tb8_of_laid h hsh).four.max⟩, tb8_of_laid h hsh⟩
theorem world_met (os : Os) (args : Array Value) : laidMetH Tryz.prog laidR ((World.laidAll Tryz.prog os laidR).forCall (fun _ _ => 0) ⟨#[], args, []⟩).memory := by
  rw [MakeChecks.laidMetH_plain _ _ _ (by kernel_rfl)]; exact laidMet_laidAll _ (by kernel_rfl) (by kernel_rfl)
end Go.Proofs.YtenlampiiodkhaaGreatDoor
