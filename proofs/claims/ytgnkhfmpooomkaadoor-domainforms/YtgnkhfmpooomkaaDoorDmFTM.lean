/-
  Frm4, DmT, DmM in one text.
-/
import Derived.Test.YtgnkhfmpooomkaaDoorGen
import Derived.HandedShaped
import Derived.Handed
import Derived.Test.YtgnkhfmpooomkaaDoorRows
import Derived.Test.YtgnkhfmpooomkaaDoorDmCK
import Derived.MakeChecks
import Derived.Lib.LaidU8
import Derived.ChangeArms
import Derived.LaidMore
import Derived.LaidHandle
import Derived.Lay
import Derived.Test.YtgnkhfmpooomkaaDoorOps
namespace Go.Proofs.YtgnkhfmpooomkaaDoor
set_option linter.unusedVariables false
open Go.RowKit

/-- As the kit's wrap for a row with a further premise on the world, and the world's shape handed on. -/
theorem handed_and_shaped {H : Type} {enc : TypeId × Value → H} {a : Assume} {C : Checked} {os : Os} {f : FuncId} {fn : Func} {s : ChangeSpec} {conds : List PathCond} {apart fresh handsOn again : Bool} {X : World → Array Value → Prop}
    (hX : ∀ (w w' : World) (args : Array Value), w.heap = w'.heap → X w args → X w' args)
    (own : ownKnob C.prog.godebug = none) (started : os.Started) (noInit : C.prog.inits.idxOf? f = none) (hfn : C.prog.funcs[f]? = some fn)
    (witness : ∃ (w : World) (tape : Tape) (i : Input), w.os = os ∧ (w.forCall tape i).Shaped C.prog ∧ i.vars = [] ∧ Input.okWide C.prog (w.forCall tape i) .any w.heap.size f i ∧
      ((s.pre enc C.prog fn conds apart (w.forCall tape i).memory i.args ∧ X (w.forCall tape i).memory i.args) ∧ sizedMet enc C.prog fn (OpenSpec.ofChange s) apart (w.forCall tape i).memory i.args) ∧ a.holds C.prog (lone (Frame.enter C.prog f i.args .normal) [] (w.forCall tape i)))
    (contract : ∀ (W : World) (base : Nat) (args : Array Value) (ds gs : List (DataW H)) (before : List MemPlace),
      (∀ (j : Nat) t v, fn.params[j]? = some t → args[j]? = some v → Value.okWide C.prog W .any base t v) →
      DataW.Whole enc C.prog fn.params.toList s.vars apart W args.toList ds gs before →
      conds.all (PathCond.test C.prog ⟨fn.params.toList, ds, s.plain.varTypes C.prog, gs⟩) = true →
      (DataW.weightsEach C.prog (fn.params.toList ++ s.plain.varTypes C.prog) (ds ++ gs)).all (· ≤ reachBytes) = true → X W args → W.ShapedOpen C.prog →
      Calls C.prog f args W fun e W' => ∃ v, e = .returned v ∧ s.post enc C.prog fn apart fresh handsOn again W args v W') :
    ReturnsInHanded a C os f .any (fun w args => (s.pre enc C.prog fn conds apart w args ∧ X w args) ∧ sizedMet enc C.prog fn (OpenSpec.ofChange s) apart w args) (s.post enc C.prog fn apart fresh handsOn again) := by
  refine returnsInHanded_of_calls own started noInit witness ?_
  intro w tape i _ hsh _ hok hpre hholds
  obtain ⟨_, _, _, fn', hfn', _, _, _, _, hval⟩ := hok
  have e : fn' = fn := Option.some.inj (hfn'.symm.trans hfn)
  subst e
  obtain ⟨⟨⟨ds, gs, before, hw, hc⟩, hx⟩, hz⟩ := hpre
  have hw' := DataW.Whole.of_heap (w' := w.forCall tape i) (by rfl) hw
  refine (contract (w.forCall tape i) w.heap.size i.args ds gs before hval hw' hc (hz.weights hw) (hX _ _ _ (by rfl) hx) hsh).mono fun e W' ⟨v, he, hp⟩ => ?_
  subst he
  exact ChangeSpec.post_blind hp
end Go.Proofs.YtgnkhfmpooomkaaDoor
namespace Go.Proofs.YtgnkhfmpooomkaaDoor
set_option linter.unusedVariables false
open Go.RowKit

def laidR : List (String × DataW Unit) := Rows.domainStaysRow.laid
theorem gOut : Tryd.prog.globalNamed "shortcut/fold.leftOut" = some 0 := by kernel_rfl
theorem gBig : Tryd.prog.globalNamed "shortcut/fold.large" = some 1 := by kernel_rfl
theorem tOut : (Tryd.prog.globals[0]?).map (·.type) = some 78 := by kernel_rfl
theorem tBig : (Tryd.prog.globals[1]?).map (·.type) = some 81 := by kernel_rfl
theorem cells_int : Tryd.prog.cellsOf 21 = 1 := by kernel_rfl
theorem cells_span : Tryd.prog.cellsOf 77 = 3 := by kernel_rfl
theorem cells_caps : Tryd.prog.cellsOf 80 = 4 := by kernel_rfl

theorem chunk {l zs : List Value} {o n : Nat} (h : (l.drop o).take n = zs) (i : Nat) (hi : i < n) : l[o + i]? = zs[i]? := by
  have := congrArg (·[i]?) h
  simpa [List.getElem?_take, List.getElem?_drop, hi] using this

section
variable {w : World} {fuel : Nat} {p : List MemPlace}
theorem span_cells {cs : List Value} {f l s : Int} (h : DataW.trod (fun _ => ()) Tryd.prog w 0 (fun _ => true) false fuel 77 cs = some (.agg [.lit (.int .i32 f), .lit (.int .i32 l), .lit (.int .i32 s)], p)) : cs = [R f, R l, R s] :=
  Go.Lib.ints_of_struct (zs := [f, l, s]) Tryd.underlying77 (fun j g hj => by
    match j, hj with
    | 0, hj => simp at hj; subst hj; exact ⟨Tryd.underlying21, rfl, cells_int⟩
    | 1, hj => simp at hj; subst hj; exact ⟨Tryd.underlying21, rfl, cells_int⟩
    | 2, hj => simp at hj; subst hj; exact ⟨Tryd.underlying21, rfl, cells_int⟩
    | j + 3, hj => simp at hj) (by rw [cells_span]; rfl) h

set_option maxRecDepth 100000 in
theorem caps_cells {cs : List Value} {f l s m : Int} (h : DataW.trod (fun _ => ()) Tryd.prog w 0 (fun _ => true) false fuel 80 cs = some (.agg [.agg [.lit (.int .i32 f), .lit (.int .i32 l), .lit (.int .i32 s)], .lit (.int .i32 m)], p)) : cs = [R f, R l, R s, R m] := by
  obtain ⟨xs, n, rfl, hx, hl, hxl, hall⟩ := DataW.trod_struct Tryd.underlying80 h
  have h0 : DataW.trod (fun _ => ()) Tryd.prog w 0 (fun _ => true) false n 77 ((cs.drop 0).take (Tryd.prog.cellsOf 77)) = xs[0]? := hall 0 _ rfl
  have h1 : DataW.trod (fun _ => ()) Tryd.prog w 0 (fun _ => true) false n 21 ((cs.drop 3).take (Tryd.prog.cellsOf 21)) = xs[1]? := hall 1 _ rfl
  rw [cells_caps] at hl
  rw [cells_span] at h0
  rw [cells_int] at h1
  have hxs := congrArg Prod.fst hx
  simp only [DataW.agg.injEq] at hxs
  match xs, hxs, h0, h1 with
  | [x0, x1], hxs, h0, h1 =>
    simp only [List.map_cons, List.map_nil, List.cons.injEq, and_true] at hxs
    obtain ⟨a0, b0⟩ := x0
    obtain ⟨a1, b1⟩ := x1
    obtain ⟨rfl, rfl⟩ := hxs
    simp only [List.getElem?_cons_zero, List.getElem?_cons_succ] at h0 h1
    have k0 := span_cells h0
    obtain ⟨z, hz, hz2, _⟩ := DataW.trod_int Tryd.underlying21 h1
    simp only [Prod.mk.injEq, DataW.lit.injEq, Lit.int.injEq, true_and] at hz2
    obtain ⟨rfl, _⟩ := hz2
    match cs, hl, k0, hz with
    | [c0, c1, c2, c3], _, k0, hz =>
      simp at k0 hz
      obtain ⟨rfl, rfl, rfl⟩ := k0
      subst hz
      rfl
end

set_option maxRecDepth 100000 in
theorem tabs_of_laid {W : World} (h : laidMetH Tryd.prog laidR W) : Tabs W := by
  rw [MakeChecks.laidMetH_plain _ _ _ (by kernel_rfl)] at h
  have r1 := Go.Lib.laidMet.reads h (n := "shortcut/fold.leftOut") (List.Mem.head _)
  have r2 := Go.Lib.laidMet.reads h (n := "shortcut/fold.large") (List.Mem.tail _ (List.Mem.head _))
  clear h
  constructor
  · obtain ⟨g, t, cs, fuel, p, hg, hty, hvar, hd⟩ := r1
    obtain rfl := Option.some.inj (gOut.symm.trans hg)
    obtain rfl := Option.some.inj (tOut.symm.trans hty)
    intro j v hv
    have hj : j < 12 := (List.getElem?_eq_some_iff.1 hv).1
    obtain ⟨i, k, rfl, hi, hk⟩ : ∃ i k, j = i * 3 + k ∧ i < 4 ∧ k < 3 := ⟨j / 3, j % 3, by omega, by omega, by omega⟩
    obtain ⟨fuel', d, q, hdi, he⟩ := Go.Lib.array_elem Tryd.underlying78 hd i hi
    rw [cells_span] at he
    have hc : (cs.toList.drop (i * 3)).take 3 = (outT.drop (i * 3)).take 3 := by
      have hi4 : i = 0 ∨ i = 1 ∨ i = 2 ∨ i = 3 := by omega
      rcases hi4 with rfl | rfl | rfl | rfl <;>
      · obtain rfl := Option.some.inj hdi
        exact span_cells he
    rw [World.var?_cell hg hvar, ← Array.getElem?_toList, chunk hc k hk, ← hv]
    exact (chunk (l := outT) (o := i * 3) (n := 3) rfl k hk).symm
  · obtain ⟨g, t, cs, fuel, p, hg, hty, hvar, hd⟩ := r2
    obtain rfl := Option.some.inj (gBig.symm.trans hg)
    obtain rfl := Option.some.inj (tBig.symm.trans hty)
    intro j v hv
    have hj : j < 32 := (List.getElem?_eq_some_iff.1 hv).1
    obtain ⟨i, k, rfl, hi, hk⟩ : ∃ i k, j = i * 4 + k ∧ i < 8 ∧ k < 4 := ⟨j / 4, j % 4, by omega, by omega, by omega⟩
    obtain ⟨fuel', d, q, hdi, he⟩ := Go.Lib.array_elem Tryd.underlying81 hd i hi
    rw [cells_caps] at he
    have hc : (cs.toList.drop (i * 4)).take 4 = (bigT.drop (i * 4)).take 4 := by
      have hi8 : i = 0 ∨ i = 1 ∨ i = 2 ∨ i = 3 ∨ i = 4 ∨ i = 5 ∨ i = 6 ∨ i = 7 := by omega
      rcases hi8 with rfl | rfl | rfl | rfl | rfl | rfl | rfl | rfl <;>
      · obtain rfl := Option.some.inj hdi
        exact caps_cells he
    rw [World.var?_cell hg hvar, ← Array.getElem?_toList, chunk hc k hk, ← hv]
    exact (chunk (l := bigT) (o := i * 4) (n := 4) rfl k hk).symm

theorem tb_of_laid {W : World} (h : laidMetH Tryd.prog laidR W) (hsh : W.ShapedOpen Tryd.prog) : Tb6 W := ⟨tabs_of_laid h, Tryd.laysM146.s1_3 W hsh⟩
theorem world_met (os : Os) (args : Array Value) : laidMetH Tryd.prog laidR ((World.laidAll Tryd.prog os laidR).forCall (fun _ _ => 0) ⟨#[], args, []⟩).memory := by
  rw [MakeChecks.laidMetH_plain _ _ _ (by kernel_rfl)]
  exact laidMet_laidAll _ (by kernel_rfl) (by kernel_rfl)
end Go.Proofs.YtgnkhfmpooomkaaDoor
namespace Go.Proofs.YtgnkhfmpooomkaaDoor
set_option linter.unusedVariables false
open Go.RowKit

def fromD : List (List UInt8) := [[97], [65, 46, 66], [97, 46], [120, 110, 45, 45, 116, 100, 97], [88, 78, 45, 45, 84, 68, 65], [195, 188], [195, 156, 46, 120], [97, 227, 128, 130, 98], [239, 188, 161], [97, 194, 173, 98], [49, 46, 50, 46, 51, 46, 52], [97, 95, 98], [45]]
def toD : List (List UInt8) := [[97], [97, 46, 98], [97, 46], [120, 110, 45, 45, 116, 100, 97], [120, 110, 45, 45, 116, 100, 97], [120, 110, 45, 45, 116, 100, 97], [120, 110, 45, 45, 116, 100, 97, 46, 120], [97, 46, 98], [97], [97, 98], [49, 46, 50, 46, 51, 46, 52], [97, 95, 98], [45]]
def badD (Z : List UInt8) : List (List UInt8) := [[], [46], [97, 46, 46, 98], [46, 97], [97, 32, 98], [97, 37, 98], [97, 58, 98], [97, 47, 98], [255], [120, 110, 45, 45], [120, 110, 45, 45, 97, 45], [120, 110, 45, 45, 84, 68, 65, 33], [194, 173], Z, [97, 127], [91, 97, 93]]
theorem from_all : ∀ i : Fin 13, nam (fromD.getD i.val []) = some (toD.getD i.val []) ∧ (fromD.getD i.val []).length ≤ 1000 := by decide +kernel
theorem bad_all : ∀ i : Fin 16, nam ((badD (List.replicate 64 97)).getD i.val []) = none ∧ ((badD (List.replicate 64 97)).getD i.val []).length ≤ 1000 := by decide +kernel
theorem nam_63 : (nam (List.replicate 63 97)).isSome = true := by decide +kernel
theorem cell_of {w : World} {b cap : Nat} {ps : List (List UInt8)} (h : RdV w (some ⟨b, 0, none⟩) cap (ps.map S)) (k : Nat) (hk : k < ps.length) : w.cell? ⟨b, k, none⟩ = some (S (ps.getD k [])) := by
  obtain ⟨b', off', eb, hc⟩ := h.cell k (by simpa using hk)
  simp only [Option.some.injEq, Addr.mk.injEq] at eb
  obtain ⟨rfl, rfl, _⟩ := eb
  rw [Nat.zero_add] at hc
  rw [hc, List.getElem?_map, List.getElem?_eq_getElem hk]
  simp [List.getD, hk]
theorem infoB7 : (Tryd.prog.info? 5).map (fun i => (i.zero, i.size, i.bytes)) = some (some (.int .u8 0), 1, 1) := by kernel_rfl
theorem made_zero : (madeCells (Value.int .u8 0).cells (64 * 1)).toList = (List.replicate 64 (0 : UInt8)).map B := by
  show (madeCells #[.int .u8 0] 64).toList = _
  rw [toList_madeCells_one]
  rfl
def fillA (k : Nat) : List UInt8 := List.replicate k 97 ++ List.replicate (64 - k) 0
theorem fillA_step (k : Nat) (hk : k < 64) : (fillA k).set k 97 = fillA (k + 1) := by
  unfold fillA
  rw [List.set_append_right _ _ (by simp)]
  rw [List.length_replicate, Nat.sub_self]
  obtain ⟨m, hm⟩ : ∃ m, 64 - k = m + 1 := ⟨64 - k - 1, by omega⟩
  rw [hm, show 64 - (k + 1) = m by omega, List.replicate_succ, List.set_cons_zero, List.replicate_succ', List.append_assoc]
  rfl
theorem fillA_len (k : Nat) (hk : k ≤ 64) : (fillA k).length = 64 := by
  unfold fillA
  rw [List.length_append, List.length_replicate, List.length_replicate]
  omega
set_option maxHeartbeats 4000000 in
set_option maxRecDepth 100000 in
theorem forms_walk (w : World) (tb : Tb6 w) : Calls Tryd.prog 5 #[] w fun e w' => e = .returned (.bool true) ∧ Ext w w' := by
  have HB := hide (begun_yes w tb)
  have TB := hide (fun (w' : World) (hx : Ext w w') => tb.below hx)
  clear tb
  go_enter Tryd.func5, Tryd.ntmps5
  go_wp2_with fail
  refine (unhide HB).mono ?_
  rintro e w1 ⟨rfl, hx1⟩
  clear HB
  have rG : RdV (w1.alloc (.cells (fromD.map S).toArray 9 (0, 0))) (some ⟨w1.heap.size, 0, none⟩) 13 (fromD.map S) := RdV.lit w1 (fromD.map S) 9 (0, 0) (by decide)
  have xG := Ext.alloc w1 (.cells (fromD.map S).toArray 9 (0, 0))
  have sG : (w1.alloc (.cells (fromD.map S).toArray 9 (0, 0))).heap.size = w1.heap.size + 1 := by simp
  have rN := RdV.lit (w1.alloc (.cells (fromD.map S).toArray 9 (0, 0))) (toD.map S) 9 (0, 0) (by decide)
  have xN := Ext.alloc (w1.alloc (.cells (fromD.map S).toArray 9 (0, 0))) (.cells (toD.map S).toArray 9 (0, 0))
  rw [sG] at rN
  have RG := hide (rG.below xN)
  have RN := hide rN
  have HX := hide (hx1.trans (xG.trans xN))
  clear xG xN rG sG rN
  obtain ⟨w2, hw2⟩ : ∃ w2, w2 = (w1.alloc (.cells (fromD.map S).toArray 9 (0, 0))).alloc (.cells (toD.map S).toArray 9 (0, 0)) := ⟨_, rfl⟩
  rw [← hw2] at RG RN HX
  have HW2 := hide hw2
  clear hw2
  obtain ⟨b1, hb1⟩ : ∃ b1, b1 = w1.heap.size := ⟨_, rfl⟩
  rw [← hb1] at RG RN
  have HB1 := hide hb1
  clear hb1
  go_wp2_with fail
  go_loopw [3] (fun i wr => ∃ (k : Nat), k ≤ 13 ∧ i = .int .i64 k ∧ Ext w2 wr) (fun i _ => 13 - (intOf i).toNat)
  case atStart => exact ⟨0, by omega, rfl, by rw [unhide HW2]; exact Ext.refl _⟩
  case round =>
    obtain ⟨k, hk, rfl, hxr⟩ := hrel
    rw [← unhide HB1]
    by_cases hkl : k < 13
    · have hkl' : (k : Int) < 13 := by omega
      obtain ⟨g1, g3⟩ := from_all ⟨k, hkl⟩
      simp only at g1 g3
      have c1 := cell_of ((unhide RG).below hxr) k hkl
      have c2 := cell_of ((unhide RN).below hxr) k hkl
      have hxw := (unhide HX).trans hxr
      obtain ⟨c3, w3, hcv, hr3, hx3'⟩ := conv_bytes wr (fromD.getD k []) (by omega)
      have hx3 := hxw.trans hx3'
      have H1 := hide (ascii_lit _ _ g1 _ _ c3 w3 rfl hr3 (unhide TB w3 hx3).tab)
      rw [show nS (some (toD.getD k [])) = toD.getD k [] from rfl, show nE (some (toD.getD k [])) = 0 from rfl] at H1
      have XX := hide (hxr.trans hx3')
      have C2 := hide (fun (v : World) (hx : Ext wr v) => (hx.cell (p := ⟨b1 + 1, k, none⟩) (cell_lt c2)).trans c2)
      have HX3 := hide hx3'
      clear g1 g3 hr3 hx3 hx3' hxw c2 hxr
      generalize fromD.getD k [] = p at *
      generalize toD.getD k [] = q at *
      go_wp2_with fail
      refine (unhide H1).mono ?_
      rintro e w4 ⟨rfl, hx4⟩
      clear H1 c1 hcv
      have c2 := unhide C2 w4 ((unhide HX3).trans hx4)
      have X2 := hide ((unhide XX).trans hx4)
      clear XX hx4 C2 HX3
      go_wp2
      exact ⟨⟨k + 1, by omega, by simp, unhide X2⟩, (show 13 - ((k : Int) + 1).toNat < 13 - ((k : Int)).toNat by omega)⟩
    · have hkl' : ¬ (k : Int) < 13 := by omega
      have hxw := (unhide HX).trans hxr
      obtain ⟨i0, hi, hz0, hz1, hz2⟩ := info_parts infoB7
      obtain ⟨w3, hmk, own3, gr3⟩ := run_make_full (P := Tryd.prog) wr wr.heap.size 22 5 i0 (.int .u8 0) 1 Tryd.underlying22 hi hz0 hz1 .i64 .i64 64 (by rw [hz2]; decide) (by unfold maxLen; omega) (Nat.le_refl _)
      rw [made_zero] at own3
      have hb3 : Below wr.heap.size wr w3 := (Below.refl _ _).grown gr3 (Nat.le_refl _) (fun t ht => by cases ht)
      obtain ⟨b3, hb3'⟩ : ∃ b3, b3 = wr.heap.size := ⟨_, rfl⟩
      rw [← hb3'] at hmk own3 hb3
      have HX0 := hide hxw
      have HB3 := hide hb3
      have OWN3 := hide own3
      have HBB3 := hide hb3'
      clear hb3' own3 hb3 gr3 hi hz0 hz1 hz2 hxw hxr
      rw [show ((64 : Nat) : Int) = 64 from rfl] at hmk
      go_wp2_with fail
      clear hmk
      go_loopw [7] (fun i wq => ∃ (j : Nat), j ≤ 64 ∧ i = .int .i64 j ∧ Hid (wq.ownsRow b3 5 1 (.slice (some ⟨b3, 0, none⟩) 64 64) 64 ((fillA j).map B)) ∧ Hid (Ext w wq)) (fun i _ => 64 - (intOf i).toNat)
      case atStart => exact ⟨0, by omega, rfl, unhide OWN3, (unhide HX0).then (unhide HB3) (by have := (unhide HX0).size; rw [unhide HBB3]; exact this)⟩
      case round =>
        obtain ⟨j, hj, rfl, OJ, XJ⟩ := hrel
        by_cases hjl : j < 64
        · have hjl' : (j : Int) < 64 := by omega
          have own := unhide OJ
          have c1 : wr.cell? ⟨b3, j, none⟩ = some (B ((fillA j).getD j 0)) := by
            rw [own.cellAt j (by omega), getB _ _ (by rw [fillA_len j hj]; exact hjl)]
          have f1 := own.frozenAt j
          obtain ⟨st, sg⟩ := own.stored j (B 97)
          rw [← List.map_set, fillA_step j hjl] at st
          have hlt := (own.lt b3 rfl).2
          have ST := hide st
          have SX : Hid (Ext w (wr.setCell ⟨b3, j, none⟩ (B 97))) := by
            have hle : w.heap.size ≤ b3 := by
              have := (unhide HX0).size
              rw [unhide HBB3]
              exact this
            exact (unhide XJ).then ((Below.refl b3 wr).grown sg (by omega) (fun t ht => by
              simp only [Option.some.injEq] at ht
              omega)) hle
          clear own OJ XJ st sg
          rw [show B 97 = .int .u8 97 from rfl] at ST SX
          go_wp2
          exact ⟨⟨j + 1, by omega, by simp, ST, SX⟩, (show 64 - ((j : Int) + 1).toNat < 64 - ((j : Int)).toNat by omega)⟩
        · have hj64 : j = 64 := by omega
          have hjl' : ¬ (j : Int) < 64 := by omega
          obtain ⟨Z, hZ⟩ : ∃ Z, Z = List.replicate 64 (97 : UInt8) := ⟨_, rfl⟩
          have efz : fillA j = Z := by rw [hZ, hj64]; rfl
          rw [efz] at OJ
          clear hj64
          have hZl : Z.length = 64 := by rw [hZ]; rfl
          have hrZ := RdV.of_owned_at (unhide OJ)
          have hcs := conv_str wr (some ⟨b3, 0, none⟩) 64 64 Z hZl hrZ
          have rB := RdV.lit wr ((badD Z).map S) 9 (0, 0) (by simp [badD])
          have xB := Ext.alloc wr (.cells ((badD Z).map S).toArray 9 (0, 0))
          have HY := hide ((unhide XJ).trans xB)
          have RB := hide rB
          have RZ := hide (hrZ.below xB)
          have HBAD : Hid (∀ i, i < 16 → nam ((badD Z).getD i []) = none ∧ ((badD Z).getD i []).length ≤ 1000) := fun i hi => by
            rw [hZ]
            exact bad_all ⟨i, hi⟩
          have H63 : Hid ((nam (Z.take 63)).isSome = true) := by
            show (nam (Z.take 63)).isSome = true
            rw [hZ]
            exact nam_63
          have HZL := hide hZl
          clear rB xB hrZ OJ XJ hZ efz hZl
          obtain ⟨w5, hw5⟩ : ∃ w5, w5 = wr.alloc (.cells ((badD Z).map S).toArray 9 (0, 0)) := ⟨_, rfl⟩
          rw [← hw5] at RB HY RZ
          have HW5 := hide hw5
          clear hw5
          obtain ⟨b5, hb5⟩ : ∃ b5, b5 = wr.heap.size := ⟨_, rfl⟩
          rw [← hb5] at RB
          have HB5 := hide hb5
          clear hb5
          go_wp2_with fail
          clear hcs
          go_loopw [9] (fun i wq => ∃ (m : Nat), m ≤ 16 ∧ i = .int .i64 m ∧ Ext w5 wq) (fun i _ => 16 - (intOf i).toNat)
          case atStart => exact ⟨0, by omega, rfl, by rw [unhide HW5]; exact Ext.refl _⟩
          case round =>
            obtain ⟨m, hm, rfl, hxq⟩ := hrel
            rw [← unhide HB5]
            have hxw := (unhide HY).trans hxq
            by_cases hml : m < 16
            · have hml' : (m : Int) < 16 := by omega
              obtain ⟨g1, g3⟩ := unhide HBAD m hml
              have c1 := cell_of ((unhide RB).below hxq) m hml
              obtain ⟨c6, w6, hcv, hr6, hx6'⟩ := conv_bytes wr ((badD Z).getD m []) (by omega)
              have hx6 := hxw.trans hx6'
              have H1 := hide (ascii_lit _ _ g1 _ _ c6 w6 rfl hr6 (unhide TB w6 hx6).tab)
              rw [show nS none = [] from rfl, show nE none = 5 from rfl] at H1
              have XX := hide (hxq.trans hx6')
              clear g1 g3 hr6 hx6 hx6' hxw hxq
              generalize (badD Z).getD m [] = p at *
              go_wp2_with fail
              refine (unhide H1).mono ?_
              rintro e w7 ⟨rfl, hx7⟩
              clear H1 c1 hcv
              have X2 := hide ((unhide XX).trans hx7)
              clear XX hx7
              go_wp2
              exact ⟨⟨m + 1, by omega, by simp, unhide X2⟩, (show 16 - ((m : Int) + 1).toNat < 16 - ((m : Int)).toNat by omega)⟩
            · have hml' : ¬ (m : Int) < 16 := by omega
              have hr8 := ((unhide RZ).below hxq).take 63
              rw [← List.map_take] at hr8
              have H1 := hide (ascii_lit (Z.take 63) _ rfl _ 63 64 wr (by rw [List.length_take, unhide HZL]; rfl) hr8 (unhide TB wr hxw).tab)
              have e2 : nE (nam (Z.take 63)) = 0 := by unfold nE; rw [unhide H63]; rfl
              rw [e2] at H1
              have HZ := hide hxw
              clear hr8 hxq hxw e2
              generalize nS (nam (Z.take 63)) = z1 at *
              go_wp2_with fail
              refine (unhide H1).mono ?_
              rintro e w7 ⟨rfl, hx7⟩
              clear H1
              have HZ2 := hide ((unhide HZ).trans hx7)
              clear HZ hx7
              go_wp2
              go_ret
              exact ⟨rfl, unhide HZ2⟩
end Go.Proofs.YtgnkhfmpooomkaaDoor
