/-
  Frm4, DmT, DmN in one text.
-/
import Derived.Test.YtgnkhfmpooomkaaDoorGen
import Derived.HandedShaped
import Derived.Handed
import Derived.Test.YtgnkhfmpooomkaaDoorRows
import Derived.Test.YtgnkhfmpooomkaaDoorDmCK
import Derived.MakeChecks
import Derived.Lib.LaidU8
import Derived.ChangeArms
import Derived.LaidMore
import Derived.LaidHandle
import Derived.Lay
namespace Go.Proofs.YtgnkhfmpooomkaaDoor
set_option linter.unusedVariables false
open Go.RowKit

/-- As the kit's wrap for a row with a further premise on the world, and the world's shape handed on. -/
theorem handed_and_shaped {H : Type} {enc : TypeId × Value → H} {a : Assume} {C : Checked} {os : Os} {f : FuncId} {fn : Func} {s : ChangeSpec} {conds : List PathCond} {apart fresh handsOn again : Bool} {X : World → Array Value → Prop}
    (hX : ∀ (w w' : World) (args : Array Value), w.heap = w'.heap → X w args → X w' args)
    (own : ownKnob C.prog.godebug = none) (started : os.Started) (noInit : C.prog.inits.idxOf? f = none) (hfn : C.prog.funcs[f]? = some fn)
    (witness : ∃ (w : World) (tape : Tape) (i : Input), w.os = os ∧ (w.forCall tape i).Shaped C.prog ∧ i.vars = [] ∧ Input.okWide C.prog (w.forCall tape i) .any w.heap.size f i ∧
      ((s.pre enc C.prog fn conds apart (w.forCall tape i).memory i.args ∧ X (w.forCall tape i).memory i.args) ∧ sizedMet enc C.prog fn (OpenSpec.ofChange s) apart (w.forCall tape i).memory i.args) ∧ a.holds C.prog (lone (Frame.enter C.prog f i.args .normal) [] (w.forCall tape i)))
    (contract : ∀ (W : World) (base : Nat) (args : Array Value) (ds gs : List (DataW H)) (before : List MemPlace),
      (∀ (j : Nat) t v, fn.params[j]? = some t → args[j]? = some v → Value.okWide C.prog W .any base t v) →
      DataW.Whole enc C.prog fn.params.toList s.vars apart W args.toList ds gs before →
      conds.all (PathCond.test C.prog ⟨fn.params.toList, ds, s.plain.varTypes C.prog, gs⟩) = true →
      (DataW.weightsEach C.prog (fn.params.toList ++ s.plain.varTypes C.prog) (ds ++ gs)).all (· ≤ reachBytes) = true → X W args → W.ShapedOpen C.prog →
      Calls C.prog f args W fun e W' => ∃ v, e = .returned v ∧ s.post enc C.prog fn apart fresh handsOn again W args v W') :
    ReturnsInHanded a C os f .any (fun w args => (s.pre enc C.prog fn conds apart w args ∧ X w args) ∧ sizedMet enc C.prog fn (OpenSpec.ofChange s) apart w args) (s.post enc C.prog fn apart fresh handsOn again) := by
  refine returnsInHanded_of_calls own started noInit witness ?_
  intro w tape i _ hsh _ hok hpre hholds
  obtain ⟨_, _, _, fn', hfn', _, _, _, _, hval⟩ := hok
  have e : fn' = fn := Option.some.inj (hfn'.symm.trans hfn)
  subst e
  obtain ⟨⟨⟨ds, gs, before, hw, hc⟩, hx⟩, hz⟩ := hpre
  have hw' := DataW.Whole.of_heap (w' := w.forCall tape i) (by rfl) hw
  refine (contract (w.forCall tape i) w.heap.size i.args ds gs before hval hw' hc (hz.weights hw) (hX _ _ _ (by rfl) hx) hsh).mono fun e W' ⟨v, he, hp⟩ => ?_
  subst he
  exact ChangeSpec.post_blind hp
end Go.Proofs.YtgnkhfmpooomkaaDoor
namespace Go.Proofs.YtgnkhfmpooomkaaDoor
set_option linter.unusedVariables false
open Go.RowKit

def laidR : List (String × DataW Unit) := Rows.domainStaysRow.laid
theorem gOut : Tryd.prog.globalNamed "shortcut/fold.leftOut" = some 0 := by kernel_rfl
theorem gBig : Tryd.prog.globalNamed "shortcut/fold.large" = some 1 := by kernel_rfl
theorem tOut : (Tryd.prog.globals[0]?).map (·.type) = some 78 := by kernel_rfl
theorem tBig : (Tryd.prog.globals[1]?).map (·.type) = some 81 := by kernel_rfl
theorem cells_int : Tryd.prog.cellsOf 21 = 1 := by kernel_rfl
theorem cells_span : Tryd.prog.cellsOf 77 = 3 := by kernel_rfl
theorem cells_caps : Tryd.prog.cellsOf 80 = 4 := by kernel_rfl

theorem chunk {l zs : List Value} {o n : Nat} (h : (l.drop o).take n = zs) (i : Nat) (hi : i < n) : l[o + i]? = zs[i]? := by
  have := congrArg (·[i]?) h
  simpa [List.getElem?_take, List.getElem?_drop, hi] using this

section
variable {w : World} {fuel : Nat} {p : List MemPlace}
theorem span_cells {cs : List Value} {f l s : Int} (h : DataW.trod (fun _ => ()) Tryd.prog w 0 (fun _ => true) false fuel 77 cs = some (.agg [.lit (.int .i32 f), .lit (.int .i32 l), .lit (.int .i32 s)], p)) : cs = [R f, R l, R s] :=
  Go.Lib.ints_of_struct (zs := [f, l, s]) Tryd.underlying77 (fun j g hj => by
    match j, hj with
    | 0, hj => simp at hj; subst hj; exact ⟨Tryd.underlying21, rfl, cells_int⟩
    | 1, hj => simp at hj; subst hj; exact ⟨Tryd.underlying21, rfl, cells_int⟩
    | 2, hj => simp at hj; subst hj; exact ⟨Tryd.underlying21, rfl, cells_int⟩
    | j + 3, hj => simp at hj) (by rw [cells_span]; rfl) h

set_option maxRecDepth 100000 in
theorem caps_cells {cs : List Value} {f l s m : Int} (h : DataW.trod (fun _ => ()) Tryd.prog w 0 (fun _ => true) false fuel 80 cs = some (.agg [.agg [.lit (.int .i32 f), .lit (.int .i32 l), .lit (.int .i32 s)], .lit (.int .i32 m)], p)) : cs = [R f, R l, R s, R m] := by
  obtain ⟨xs, n, rfl, hx, hl, hxl, hall⟩ := DataW.trod_struct Tryd.underlying80 h
  have h0 : DataW.trod (fun _ => ()) Tryd.prog w 0 (fun _ => true) false n 77 ((cs.drop 0).take (Tryd.prog.cellsOf 77)) = xs[0]? := hall 0 _ rfl
  have h1 : DataW.trod (fun _ => ()) Tryd.prog w 0 (fun _ => true) false n 21 ((cs.drop 3).take (Tryd.prog.cellsOf 21)) = xs[1]? := hall 1 _ rfl
  rw [cells_caps] at hl
  rw [cells_span] at h0
  rw [cells_int] at h1
  have hxs := congrArg Prod.fst hx
  simp only [DataW.agg.injEq] at hxs
  match xs, hxs, h0, h1 with
  | [x0, x1], hxs, h0, h1 =>
    simp only [List.map_cons, List.map_nil, List.cons.injEq, and_true] at hxs
    obtain ⟨a0, b0⟩ := x0
    obtain ⟨a1, b1⟩ := x1
    obtain ⟨rfl, rfl⟩ := hxs
    simp only [List.getElem?_cons_zero, List.getElem?_cons_succ] at h0 h1
    have k0 := span_cells h0
    obtain ⟨z, hz, hz2, _⟩ := DataW.trod_int Tryd.underlying21 h1
    simp only [Prod.mk.injEq, DataW.lit.injEq, Lit.int.injEq, true_and] at hz2
    obtain ⟨rfl, _⟩ := hz2
    match cs, hl, k0, hz with
    | [c0, c1, c2, c3], _, k0, hz =>
      simp at k0 hz
      obtain ⟨rfl, rfl, rfl⟩ := k0
      subst hz
      rfl
end

set_option maxRecDepth 100000 in
theorem tabs_of_laid {W : World} (h : laidMetH Tryd.prog laidR W) : Tabs W := by
  rw [MakeChecks.laidMetH_plain _ _ _ (by kernel_rfl)] at h
  have r1 := Go.Lib.laidMet.reads h (n := "shortcut/fold.leftOut") (List.Mem.head _)
  have r2 := Go.Lib.laidMet.reads h (n := "shortcut/fold.large") (List.Mem.tail _ (List.Mem.head _))
  clear h
  constructor
  · obtain ⟨g, t, cs, fuel, p, hg, hty, hvar, hd⟩ := r1
    obtain rfl := Option.some.inj (gOut.symm.trans hg)
    obtain rfl := Option.some.inj (tOut.symm.trans hty)
    intro j v hv
    have hj : j < 12 := (List.getElem?_eq_some_iff.1 hv).1
    obtain ⟨i, k, rfl, hi, hk⟩ : ∃ i k, j = i * 3 + k ∧ i < 4 ∧ k < 3 := ⟨j / 3, j % 3, by omega, by omega, by omega⟩
    obtain ⟨fuel', d, q, hdi, he⟩ := Go.Lib.array_elem Tryd.underlying78 hd i hi
    rw [cells_span] at he
    have hc : (cs.toList.drop (i * 3)).take 3 = (outT.drop (i * 3)).take 3 := by
      have hi4 : i = 0 ∨ i = 1 ∨ i = 2 ∨ i = 3 := by omega
      rcases hi4 with rfl | rfl | rfl | rfl <;>
      · obtain rfl := Option.some.inj hdi
        exact span_cells he
    rw [World.var?_cell hg hvar, ← Array.getElem?_toList, chunk hc k hk, ← hv]
    exact (chunk (l := outT) (o := i * 3) (n := 3) rfl k hk).symm
  · obtain ⟨g, t, cs, fuel, p, hg, hty, hvar, hd⟩ := r2
    obtain rfl := Option.some.inj (gBig.symm.trans hg)
    obtain rfl := Option.some.inj (tBig.symm.trans hty)
    intro j v hv
    have hj : j < 32 := (List.getElem?_eq_some_iff.1 hv).1
    obtain ⟨i, k, rfl, hi, hk⟩ : ∃ i k, j = i * 4 + k ∧ i < 8 ∧ k < 4 := ⟨j / 4, j % 4, by omega, by omega, by omega⟩
    obtain ⟨fuel', d, q, hdi, he⟩ := Go.Lib.array_elem Tryd.underlying81 hd i hi
    rw [cells_caps] at he
    have hc : (cs.toList.drop (i * 4)).take 4 = (bigT.drop (i * 4)).take 4 := by
      have hi8 : i = 0 ∨ i = 1 ∨ i = 2 ∨ i = 3 ∨ i = 4 ∨ i = 5 ∨ i = 6 ∨ i = 7 := by omega
      rcases hi8 with rfl | rfl | rfl | rfl | rfl | rfl | rfl | rfl <;>
      · obtain rfl := Option.some.inj hdi
        exact caps_cells he
    rw [World.var?_cell hg hvar, ← Array.getElem?_toList, chunk hc k hk, ← hv]
    exact (chunk (l := bigT) (o := i * 4) (n := 4) rfl k hk).symm

theorem tb_of_laid {W : World} (h : laidMetH Tryd.prog laidR W) (hsh : W.ShapedOpen Tryd.prog) : Tb6 W := ⟨tabs_of_laid h, Tryd.laysM146.s1_3 W hsh⟩
theorem world_met (os : Os) (args : Array Value) : laidMetH Tryd.prog laidR ((World.laidAll Tryd.prog os laidR).forCall (fun _ _ => 0) ⟨#[], args, []⟩).memory := by
  rw [MakeChecks.laidMetH_plain _ _ _ (by kernel_rfl)]
  exact laidMet_laidAll _ (by kernel_rfl) (by kernel_rfl)
end Go.Proofs.YtgnkhfmpooomkaaDoor
namespace Go.Proofs.YtgnkhfmpooomkaaDoor
set_option linter.unusedVariables false
open Go.RowKit

theorem byteq (a c : UInt8) : ((a.toNat : Int) == (c.toNat : Int)) = (a == c) := by
  rw [Bool.eq_iff_iff]
  simp only [beq_iff_eq]
  constructor
  · intro h
    exact UInt8.toNat_inj.1 (by omega)
  · rintro rfl
    rfl
theorem last_getD {x : List UInt8} (h : x ≠ []) : x.getLast? = some (x.getD (x.length - 1) 0) := by
  have h0 := List.length_pos_iff.2 h
  rw [List.getLast?_eq_getElem?, List.getElem?_eq_getElem (by omega)]
  have : x.length - 1 < x.length := by omega
  simp [List.getD, this]
theorem joinD_snoc : ∀ (ls : List (List UInt8)) (s : List UInt8), joinD (ls ++ [s]) = (if ls = [] then [] else joinD ls ++ [46]) ++ s
  | [], s => by simp [joinD]
  | [x], s => by simp [joinD]
  | x :: x' :: t, s => by
    have ih := joinD_snoc (x' :: t) s
    rw [if_neg (by simp)] at ih ⊢
    show x ++ 46 :: joinD ((x' :: t) ++ [s]) = x ++ 46 :: joinD (x' :: t) ++ [46] ++ s
    rw [ih]
    simp
theorem infoB8 : (Tryd.prog.info? 5).map (fun i => (i.zero, i.size, i.bytes)) = some (some (.int .u8 0), 1, 1) := by kernel_rfl
theorem one_S (ps : List (List UInt8)) : ∀ u ∈ ps.map S, u.oneCell' = true := by
  intro u hu
  obtain ⟨x, _, rfl⟩ := List.mem_map.1 hu
  rfl

/-- An operation whose guard is met is done as one without. -/
theorem wpList_want {P : Program} {ops : Array Oper} {Q : Exit → Act → World → Prop} {a : Act} {w : World} {rest : List Oper} {o : Oper} (hw : Region.wanted o (yielded ops a.tmps) = true) (h : wpList P ops Q ({ o with guard := none } :: rest) a w) : wpList P ops Q (o :: rest) a w := by
  rw [wpList] at h ⊢
  rw [if_pos hw]
  have hw2 : Region.wanted { o with guard := none } (yielded ops a.tmps) = true := rfl
  rw [if_pos hw2] at h
  exact h

set_option maxHeartbeats 4000000 in
set_option maxRecDepth 100000 in
/-- The way where both have names. -/
theorem parts_main (ao bo : Option Addr) (la ca lb cb : Nat) (a b x y : List UInt8) (w : World) (hla : a.length = la) (hlb : b.length = lb) (ha : RdV w ao ca (a.map B)) (hb : RdV w bo cb (b.map B)) (h60 : la ≤ 60) (h60b : lb ≤ 60)
    (hna : nam a = some x) (hnb : nam b = some y) (hx : x ≠ []) (hd : x.getLast? ≠ some 46) (hs : x.length + y.length ≤ 250) (tb : Tb6 w) :
    Calls Tryd.prog 6 #[.slice ao la ca, .slice bo lb cb] w fun e w' => e = .returned (.bool true) ∧ Ext w w' := by
  subst hla hlb
  have hle := ha.le
  have hmx := ha.max
  have hle2 := hb.le
  have hmx2 := hb.max
  simp only [List.length_map] at hle hle2
  have HB := hide (begun_yes w tb)
  have TB := hide (fun (w' : World) (hx : Ext w w') => tb.below hx)
  clear tb
  have hnc := nam_parts hna hnb hx hd (by omega) hs
  obtain ⟨hj, hlab⟩ := nam_labels hna
  have hlab2 := hlab hx hd
  rw [cutB_pcs] at hj hlab2
  clear hlab
  have h1 := hide (fun (v : World) (hv : Ext w v) => ascii_lit a _ hna ao a.length ca v rfl (ha.below hv) (unhide TB v hv).tab)
  have h2 := hide (fun (v : World) (hv : Ext w v) => ascii_lit b _ hnb bo b.length cb v rfl (hb.below hv) (unhide TB v hv).tab)
  have h3 := hide (fun (v : World) (ao' : Option Addr) (c' : Nat) (hr : RdV v ao' c' ((a ++ 46 :: b).map B)) (hv : Ext w v) => ascii_lit (a ++ 46 :: b) _ hnc ao' (a.length + 1 + b.length) c' v (by simp; omega) hr (unhide TB v hv).tab)
  rw [show nS (some x) = x from rfl, show nE (some x) = 0 from rfl] at h1
  rw [show nS (some y) = y from rfl, show nE (some y) = 0 from rfl] at h2
  rw [show nS (some (x ++ 46 :: y)) = x ++ 46 :: y from rfl, show nE (some (x ++ 46 :: y)) = 0 from rfl] at h3
  have hx0 : 0 < x.length := List.length_pos_iff.2 hx
  have hszx := size_S x
  have hszy := size_S y
  have hlast := last_getD hx
  have hne46 : (x.getD (x.length - 1) 0 == 46) = false := by
    rw [beq_eq_false_iff_ne]
    intro e
    rw [e] at hlast
    exact hd hlast
  have e46 := byteq (x.getD (x.length - 1) 0) 46
  rw [hne46, show (((46 : UInt8).toNat : Nat) : Int) = 46 from rfl] at e46
  have hix : ∀ v, (Instr.index 9 (S x) (.int .i64 ((x.length : Int) - 1))).run Tryd.prog v = .ok (B (x.getD (x.length - 1) 0)) v := fun v => by
    have := idx_str v x .i64 (x.length - 1) (by omega)
    rw [show ((x.length - 1 : Nat) : Int) = (x.length : Int) - 1 by omega] at this
    exact this
  clear hne46 hlast
  generalize x.getD (x.length - 1) 0 = xl at *
  have c1 : (⟨x.toArray⟩ : ByteArray) ++ (⟨#[46]⟩ : ByteArray) = ⟨(x ++ [46]).toArray⟩ := cat_S x [46]
  have c2 : (⟨(x ++ [46]).toArray⟩ : ByteArray) ++ (⟨y.toArray⟩ : ByteArray) = ⟨(x ++ 46 :: y).toArray⟩ := by
    have := cat_S (x ++ [46]) y
    rw [List.append_assoc, List.singleton_append] at this
    exact this
  have m1 : ¬ 9223372036854775807 < x.length + 1 := by omega
  have hx1l : (x ++ [46]).length ≤ 251 := by simp; omega
  have m2 : ¬ 9223372036854775807 < (x ++ [46]).length + y.length := by omega
  have L1 := hide (fun (v : World) (hv : Ext w v) => labels_any x v (by omega) (unhide TB v hv).max)
  have L2 := hide (fun (v : World) (hv : Ext w v) => labels_any (x ++ 46 :: y) v (by simp; omega) (unhide TB v hv).max)
  have L3 := hide (fun (v : World) (hv : Ext w v) => labels_any y v (by omega) (unhide TB v hv).max)
  have hpx := pcs_count 46 x
  have hpy := pcs_count 46 y
  have hpc1 : Lib.countByte x 46 ≤ x.length := List.count_le_length
  have hpc2 : Lib.countByte y 46 ≤ y.length := List.count_le_length
  have hxy := pcs_app2 46 x y
  rw [hxy] at L2
  have hplx := pcs_len 46 x
  have hpxl : (pcs 46 x).length ≤ 300 := by omega
  have hpyl : (pcs 46 y).length ≤ 300 := by omega
  have hpx0 := List.length_pos_iff.2 (pcs_ne 46 x)
  clear hxy hnc hna hnb hpx hpy hpc1 hpc2 hd
  generalize x ++ 46 :: y = Z at *
  generalize x ++ [46] = X1 at *
  generalize pcs 46 x = ps at *
  generalize pcs 46 y = qs at *
  have hsum : ¬ (250 : Int) < (x.length : Int) + (y.length : Int) := by omega
  have hx0' : ¬ (x.length : Int) = 0 := by omega
  have hx0b : ((x.length : Int) == 0) = false := by simpa using hx0'
  have k60 : ¬ (60 : Int) < (a.length : Int) := by omega
  have k60b : ¬ (60 : Int) < (b.length : Int) := by omega
  go_enter Tryd.func6, Tryd.ntmps6
  go_wp2_with fail
  refine (unhide HB).mono ?_
  rintro e w1 ⟨rfl, hx1⟩
  clear HB
  go_wp2_with fail
  refine (unhide h1 _ hx1).mono ?_
  rintro e w2 ⟨rfl, hy⟩
  have hx2 := hx1.trans hy
  clear h1 hy hx1
  go_wp2_with fail
  refine (unhide h2 _ hx2).mono ?_
  rintro e w3 ⟨rfl, hy⟩
  have hx3 := hx2.trans hy
  clear h2 hy hx2
  -- append(append(append([]byte{}, a...), '.'), b...)
  have own0 := empty_own w3 5
  have xe := Ext.alloc w3 (.cells #[] 5)
  have hx4 := hx3.trans xe
  have ra4 := ha.below hx4
  have hone1 := one_B a
  have hbs4 : w3.heap.size ≤ (w3.alloc (.cells #[] 5)).heap.size := by simp
  go_wp2_with (at_builtin; refine wpList_app rfl (.tmp 64) (.tmp 65) 22 5 (.int .u8 0) 1 Tryd.underlying22 infoB8 rfl rfl w3.heap.size _ _ _ rfl own0 _ _ _ (a.map B) rfl (by simp) ra4 hone1 (by omega) hbs4 ?_)
  intro v5 w5 o5 b5
  have hx5 : Ext w w5 := hx4.then b5 hx3.size
  have hs5 : w3.heap.size ≤ w5.heap.size := Nat.le_trans hbs4 b5.size
  have RL := RdV.lit w5 [B 46] 5 (0, 0) (by simp)
  have own6 := owns_below o5 (Ext.alloc w5 (.cells #[B 46] 5 (0, 0)))
  have hx6 := hx5.trans (Ext.alloc w5 (.cells #[B 46] 5 (0, 0)))
  have hone2 : ∀ u ∈ [B 46], u.oneCell' = true := by simp [Value.oneCell']
  have hbs6 : w3.heap.size ≤ (w5.alloc (.cells #[B 46] 5 (0, 0))).heap.size := by simp; omega
  rw [show B 46 = .int .u8 46 from rfl] at RL own6 hx6 hone2 hbs6
  clear own0 o5 b5 ra4 hone1 hbs4 xe
  go_wp2_with (at_builtin; refine wpList_app rfl (.tmp 66) (.tmp 67) 22 5 (.int .u8 0) 1 Tryd.underlying22 infoB8 rfl rfl w3.heap.size _ _ _ rfl own6 _ _ _ [.int .u8 46] rfl rfl RL hone2 (by omega) hbs6 ?_)
  intro v7 w7 o7 b7
  have hx7 : Ext w w7 := hx6.then b7 hx3.size
  have hs7 : w3.heap.size ≤ w7.heap.size := Nat.le_trans hbs6 b7.size
  have rb7 := hb.below hx7
  have hone3 := one_B b
  clear own6 RL hone2 hbs6 b7 hs5 hx5 hx6 hx4
  go_wp2_with (at_builtin; refine wpList_app rfl (.tmp 68) (.tmp 69) 22 5 (.int .u8 0) 1 Tryd.underlying22 infoB8 rfl rfl w3.heap.size _ _ _ rfl o7 _ _ _ (b.map B) rfl (by simp) rb7 hone3 (by omega) hs7 ?_)
  intro v8 w8 o8 b8
  have hx8 : Ext w w8 := hx7.then b8 hx3.size
  obtain ⟨a8, c8, hv8, hr8, hn8⟩ := RdV.of_owned o8
  have hr8' : RdV w8 a8 c8 ((a ++ 46 :: b).map B) := by
    have e : (a ++ 46 :: b).map B = a.map B ++ .int .u8 46 :: b.map B := by rw [List.map_append, List.map_cons]; rfl
    rw [e]
    exact hr8
  have hv8' : v8 = .slice a8 (a.length + 1 + b.length) c8 := by
    first
    | exact hv8
    | (rw [hv8]; congr 1; omega)
  clear o7 o8 b8 hr8 hv8 hn8 rb7 hone3 hs7 hx7 hx3
  subst hv8'
  have H3 := hide (unhide h3 w8 a8 c8 hr8' hx8)
  clear h3 hr8' ha hb
  go_wp2_with fail
  refine (unhide H3).mono ?_
  rintro e w9 ⟨rfl, hy⟩
  have hx9 := hx8.trans hy
  clear H3 hy hx8
  go_wp2_with fail
  refine (unhide L1 _ hx9).mono ?_
  rintro e wA ⟨gA, cA, rfl, hrA, hy⟩
  have hxA := hx9.trans hy
  clear L1 hy hx9
  have hleA := hrA.le
  have hmxA := hrA.max
  simp only [List.length_map] at hleA
  go_wp2_with fail
  go_loopw [12, 13] (fun sv i wr => ∃ (k : Nat) (s : List UInt8), k ≤ ps.length ∧ i = .int .i64 k ∧ sv = S s ∧ Hid (s = joinD (ps.take k)) ∧ s.length ≤ 300 * k ∧ Ext wA wr) (fun _ i _ => ps.length - (intOf i).toNat)
  case atStart => exact ⟨0, [], by omega, rfl, rfl, hide rfl, by simp, Ext.refl _⟩
  case round =>
    obtain ⟨k, s, hk, rfl, rfl, HS, hsl, hxr⟩ := hrel
    have hxw := hxA.trans hxr
    have hszs := size_S s
    by_cases hkl : k < ps.length
    · have hkl' : (k : Int) < (ps.length : Int) := by omega
      have cc : wr.cell? ⟨gA, k, none⟩ = some (S (ps.getD k [])) := by
        obtain ⟨b', off', eb, hc⟩ := (hrA.below hxr).cell k (by simpa using hkl)
        simp only [Option.some.injEq, Addr.mk.injEq] at eb
        obtain ⟨rfl, rfl, _⟩ := eb
        rw [Nat.zero_add] at hc
        rw [hc, List.getElem?_map, List.getElem?_eq_getElem hkl]
        simp [List.getD, hkl]
      have hmem : ps.getD k [] ∈ ps := by simp [List.getD, hkl]
      have hnk := hlab2 _ hmem
      have hlk := hplx _ hmem
      have HT := hide (take_snoc ps k [] hkl)
      have HJS := hide (joinD_snoc (ps.take k) (ps.getD k []))
      obtain ⟨c3, w3', hcv, hr3, hx3'⟩ := conv_bytes wr (ps.getD k []) (by omega)
      have hx3 := hxw.trans hx3'
      have H1 := hide (ascii_lit _ _ hnk _ _ c3 w3' rfl hr3 (unhide TB w3' hx3).tab)
      rw [show nS (some (ps.getD k [])) = ps.getD k [] from rfl, show nE (some (ps.getD k [])) = 0 from rfl] at H1
      have CC := hide (fun (v : World) (hv : Ext wr v) => (hv.cell (p := ⟨gA, k, none⟩) (cell_lt cc)).trans cc)
      have XX := hide (hxr.trans hx3')
      have X3 := hide hx3'
      clear hnk hr3 hx3 hx3' hxw hmem hxr
      generalize ps.getD k [] = p at *
      have hszp := size_S p
      have hkz : k = 0 ∨ 0 < k := by omega
      rcases hkz with hk0 | hk0
      · have hk0' : ¬ (0 : Int) < (k : Int) := by omega
        have es : s = [] := by rw [unhide HS, hk0]; rfl
        have KK : Hid (∀ v, Ext wA v → (∃ (k' : Nat) (s' : List UInt8), k' ≤ ps.length ∧ Value.int .i64 ((k : Int) + 1) = .int .i64 k' ∧ S p = S s' ∧ Hid (s' = joinD (ps.take k')) ∧ s'.length ≤ 300 * k' ∧ Ext wA v) ∧ ps.length - ((k : Int) + 1).toNat < ps.length - k) := fun v hv =>
          ⟨⟨k + 1, p, by omega, by simp, rfl, by
            show p = joinD (ps.take (k + 1))
            rw [unhide HT, unhide HJS, hk0]
            rfl, by omega, hv⟩, by omega⟩
        have hcat : (⟨s.toArray⟩ : ByteArray) ++ (⟨p.toArray⟩ : ByteArray) = ⟨p.toArray⟩ := by rw [es]; exact cat_S [] p
        have hm : ¬ 9223372036854775807 < s.length + p.length := by omega
        clear HT HJS HS hk0 es
        go_wp2_with fail
        refine (unhide H1).mono ?_
        rintro e w4 ⟨rfl, hx4⟩
        clear H1 cc hcv
        have cc := unhide CC w4 ((unhide X3).trans hx4)
        have kk := hide (unhide KK w4 ((unhide XX).trans hx4))
        clear CC X3 XX KK hx4
        go_wp2
        exact unhide kk
      · have hk0' : (0 : Int) < (k : Int) := by omega
        have hne : ps.take k ≠ [] := by
          intro e
          have := congrArg List.length e
          rw [List.length_take, List.length_nil] at this
          omega
        have KK : Hid (∀ v, Ext wA v → (∃ (k' : Nat) (s' : List UInt8), k' ≤ ps.length ∧ Value.int .i64 ((k : Int) + 1) = .int .i64 k' ∧ S (s ++ [46] ++ p) = S s' ∧ Hid (s' = joinD (ps.take k')) ∧ s'.length ≤ 300 * k' ∧ Ext wA v) ∧ ps.length - ((k : Int) + 1).toNat < ps.length - k) := fun v hv =>
          ⟨⟨k + 1, s ++ [46] ++ p, by omega, by simp, rfl, by
            show s ++ [46] ++ p = joinD (ps.take (k + 1))
            rw [unhide HT, unhide HJS, if_neg hne, unhide HS], by simp; omega, hv⟩, by omega⟩
        have hcat1 : (⟨s.toArray⟩ : ByteArray) ++ (⟨#[46]⟩ : ByteArray) = ⟨(s ++ [46]).toArray⟩ := cat_S s [46]
        have hcat2 := cat_S (s ++ [46]) p
        have hm1 : ¬ 9223372036854775807 < s.length + 1 := by omega
        have hs1 : (s ++ [46]).length ≤ 300 * k + 1 := by simp; omega
        have hm2 : ¬ 9223372036854775807 < (s ++ [46]).length + p.length := by omega
        clear HT HJS HS hne
        generalize s ++ [46] ++ p = Z2 at *
        generalize s ++ [46] = Z1 at *
        go_wp2_with fail
        refine (unhide H1).mono ?_
        rintro e w4 ⟨rfl, hx4⟩
        clear H1 cc hcv
        have cc := unhide CC w4 ((unhide X3).trans hx4)
        have kk := hide (unhide KK w4 ((unhide XX).trans hx4))
        clear CC X3 XX KK hx4
        go_wp2
        exact unhide kk
    · have hkl' : ¬ (k : Int) < (ps.length : Int) := by omega
      have es : s = x := by rw [unhide HS, List.take_of_length_le (by omega), hj]
      subst es
      have hrA2 := hrA.below hxr
      clear HS hj hlab2 hplx hrA
      go_wp2_with fail
      refine (unhide L2 _ hxw).mono ?_
      rintro e wB ⟨gB, cB, rfl, hrB, hyB⟩
      have hxB := hxw.trans hyB
      have hrA3 := hrA2.below hyB
      clear L2 hyB hrA2 hxw
      rw [List.length_append] at *
      have own0 := empty_own wB 9
      have xe := Ext.alloc wB (.cells #[] 9)
      have hxC := hxB.trans xe
      have rA4 := hrA3.below xe
      have hone1 := one_S ps
      have hbsC : wB.heap.size ≤ (wB.alloc (.cells #[] 9)).heap.size := by simp
      go_wp2_with (at_builtin; refine wpList_want rfl ?_; refine wpList_app rfl (.tmp 127) (.tmp 128) 28 9 (.string ⟨#[]⟩) 16 Tryd.underlying28 infoS rfl rfl wB.heap.size _ _ _ rfl own0 _ _ _ (ps.map S) rfl (by simp) rA4 hone1 (by omega) hbsC ?_)
      intro vD wD oD bD
      have hxD : Ext w wD := hxC.then bD hxB.size
      have hsD : wB.heap.size ≤ wD.heap.size := Nat.le_trans hbsC bD.size
      have hBD : Ext wB wD := xe.then bD (Nat.le_refl _)
      clear own0 rA4 hone1 hbsC bD xe hxC hrA3
      go_wp2_with fail
      refine (unhide L3 _ hxD).mono ?_
      rintro e wE ⟨gE, cE, rfl, hrE, hyE⟩
      have hxE := hxD.trans hyE
      have oE := owns_below oD hyE
      have hBE := hBD.trans hyE
      have hsE : wB.heap.size ≤ wE.heap.size := Nat.le_trans hsD hyE.size
      have hone2 := one_S qs
      clear L3 oD hyE hsD hxD hBD
      go_wp2_with (at_builtin; refine wpList_want rfl ?_; refine wpList_app rfl (.tmp 129) (.tmp 131) 28 9 (.string ⟨#[]⟩) 16 Tryd.underlying28 infoS rfl rfl wB.heap.size _ _ _ rfl oE _ _ _ (qs.map S) rfl (by simp) hrE hone2 (by omega) hsE ?_)
      intro vF wF oF bF
      have hxF : Ext w wF := hxE.then bF hxB.size
      have hrF := hrB.below (hBE.then bF (Nat.le_refl _))
      have hpq : [] ++ ps.map S ++ qs.map S = (ps ++ qs).map S := by simp
      obtain ⟨aF, cF, hvF, hr2, hn2⟩ := RdV.of_owned oF
      have hr2' : RdV wF aF cF ((ps ++ qs).map S) := by
        rw [← hpq]
        simpa using hr2
      have hvF' : vF = .slice aF (ps.length + qs.length) cF := by
        first
        | exact hvF
        | (rw [hvF]; congr 1; omega)
      obtain ⟨gF, offF, haF, _⟩ := hr2'.cells (by simp; omega)
      subst haF
      subst hvF'
      have HS := hide (sameT_some gB 0 cB gF offF cF (ps ++ qs) wF (by rw [List.length_append]; omega) hrF hr2')
      rw [List.length_append] at HS
      clear oE hrE hone2 hsE oF bF hrB hBE hrF hpq hr2 hr2' hvF hn2 hxE hxB
      go_wp2_with fail
      refine (unhide HS).mono ?_
      rintro e wG ⟨rfl, hyG⟩
      have hxG := hxF.trans hyG
      clear HS hyG hxF
      go_wp2
      go_ret
      exact ⟨rfl, hxG⟩

set_option maxHeartbeats 4000000 in
set_option maxRecDepth 100000 in
theorem parts_walk (ao bo : Option Addr) (la ca lb cb : Nat) (a b : List UInt8) (w : World) (hla : a.length = la) (hlb : b.length = lb) (ha : RdV w ao ca (a.map B)) (hb : RdV w bo cb (b.map B)) (tb : Tb6 w) :
    Calls Tryd.prog 6 #[.slice ao la ca, .slice bo lb cb] w fun e w' => e = .returned (.bool true) ∧ Ext w w' := by
  have hle := ha.le
  have hmx := ha.max
  have hle2 := hb.le
  have hmx2 := hb.max
  simp only [List.length_map] at hle hle2
  have HB := hide (begun_yes w tb)
  have TB := hide (fun (w' : World) (hx : Ext w w') => tb.below hx)
  by_cases h60 : la ≤ 60
  · have k60 : ¬ (60 : Int) < (la : Int) := by omega
    by_cases h60b : lb ≤ 60
    · have k60b : ¬ (60 : Int) < (lb : Int) := by omega
      have h1 := hide (fun (v : World) (hv : Ext w v) => ascii_any ao la ca a v hla (ha.below hv) (unhide TB v hv).tab)
      have h2 := hide (fun (v : World) (hv : Ext w v) => ascii_any bo lb cb b v hlb (hb.below hv) (unhide TB v hv).tab)
      cases hna : nam a with
      | none =>
        rw [hna, show nS none = [] from rfl, show nE none = 5 from rfl] at h1
        generalize nS (nam b) = z1 at *
        generalize nE (nam b) = z2 at *
        clear ha hb hna tb TB hla hlb
        go_enter Tryd.func6, Tryd.ntmps6
        go_wp2_with fail
        refine (unhide HB).mono ?_
        rintro e w1 ⟨rfl, hx1⟩
        clear HB
        go_wp2_with fail
        refine (unhide h1 _ hx1).mono ?_
        rintro e w2 ⟨rfl, hy⟩
        have hx2 := hx1.trans hy
        clear h1 hy hx1
        go_wp2_with fail
        refine (unhide h2 _ hx2).mono ?_
        rintro e w3 ⟨rfl, hy⟩
        have hx3 := hx2.trans hy
        clear h2 hy hx2
        go_wp2
        go_ret
        exact ⟨rfl, hx3⟩
      | some x =>
        have hna2 := hna
        rw [hna, show nS (some x) = x from rfl, show nE (some x) = 0 from rfl] at h1
        cases hnb : nam b with
        | none =>
          rw [hnb, show nS none = [] from rfl, show nE none = 5 from rfl] at h2
          clear ha hb hna hna2 hnb tb TB hla hlb
          have hszx := size_S x
          go_enter Tryd.func6, Tryd.ntmps6
          go_wp2_with fail
          refine (unhide HB).mono ?_
          rintro e w1 ⟨rfl, hx1⟩
          clear HB
          go_wp2_with fail
          refine (unhide h1 _ hx1).mono ?_
          rintro e w2 ⟨rfl, hy⟩
          have hx2 := hx1.trans hy
          clear h1 hy hx1
          go_wp2_with fail
          refine (unhide h2 _ hx2).mono ?_
          rintro e w3 ⟨rfl, hy⟩
          have hx3 := hx2.trans hy
          clear h2 hy hx2
          go_wp2
          go_ret
          exact ⟨rfl, hx3⟩
        | some y =>
          rw [hnb, show nS (some y) = y from rfl, show nE (some y) = 0 from rfl] at h2
          have hszx := size_S x
          have hszy := size_S y
          obtain ⟨_, _, hxl⟩ := nam_stays hna2
          obtain ⟨_, _, hyl⟩ := nam_stays hnb
          by_cases hx : x = []
          · subst hx
            clear ha hb hna hna2 hnb tb TB hla hlb hxl hyl hszx hszy
            go_enter Tryd.func6, Tryd.ntmps6
            go_wp2_with fail
            refine (unhide HB).mono ?_
            rintro e w1 ⟨rfl, hx1⟩
            clear HB
            go_wp2_with fail
          · have hx0 : 0 < x.length := List.length_pos_iff.2 hx
            have hx0' : ¬ (x.length : Int) = 0 := by omega
            have hx0b : ((x.length : Int) == 0) = false := by simpa using hx0'
            have hlast := last_getD hx
            have e46 := byteq (x.getD (x.length - 1) 0) 46
            rw [show (((46 : UInt8).toNat : Nat) : Int) = 46 from rfl] at e46
            have hix : ∀ v, (Instr.index 9 (S x) (.int .i64 ((x.length : Int) - 1))).run Tryd.prog v = .ok (B (x.getD (x.length - 1) 0)) v := fun v => by
              have := idx_str v x .i64 (x.length - 1) (by omega)
              rw [show ((x.length - 1 : Nat) : Int) = (x.length : Int) - 1 by omega] at this
              exact this
            by_cases hd : x.getLast? = some 46
            · have hxl46 : x.getD (x.length - 1) 0 = 46 := by
                rw [hlast] at hd
                exact Option.some.inj hd
              rw [hxl46] at e46 hix
              clear ha hb hna hna2 hnb tb TB hla hlb hd hlast hxl46 e46
              rw [show B 46 = .int .u8 46 from rfl] at hix
              go_enter Tryd.func6, Tryd.ntmps6
              go_wp2_with fail
              refine (unhide HB).mono ?_
              rintro e w1 ⟨rfl, hx1⟩
              clear HB
              go_wp2_with fail
              refine (unhide h1 _ hx1).mono ?_
              rintro e w2 ⟨rfl, hy⟩
              have hx2 := hx1.trans hy
              clear h1 hy hx1
              go_wp2_with fail
              refine (unhide h2 _ hx2).mono ?_
              rintro e w3 ⟨rfl, hy⟩
              have hx3 := hx2.trans hy
              clear h2 hy hx2
              go_wp2
              go_ret
              exact ⟨rfl, hx3⟩
            · by_cases hs : x.length + y.length ≤ 250
              · exact parts_main ao bo la ca lb cb a b x y w hla hlb ha hb h60 h60b hna2 hnb hx hd hs tb
              · have hne46 : (x.getD (x.length - 1) 0 == 46) = false := by
                  rw [beq_eq_false_iff_ne]
                  intro e
                  rw [e] at hlast
                  exact hd hlast
                rw [hne46] at e46
                have hsum : (250 : Int) < (x.length : Int) + (y.length : Int) := by omega
                clear ha hb hna hna2 hnb tb TB hla hlb hd hlast hne46 hs
                generalize x.getD (x.length - 1) 0 = xl at *
                go_enter Tryd.func6, Tryd.ntmps6
                go_wp2_with fail
                refine (unhide HB).mono ?_
                rintro e w1 ⟨rfl, hx1⟩
                clear HB
                go_wp2_with fail
                refine (unhide h1 _ hx1).mono ?_
                rintro e w2 ⟨rfl, hy⟩
                have hx2 := hx1.trans hy
                clear h1 hy hx1
                go_wp2_with fail
                refine (unhide h2 _ hx2).mono ?_
                rintro e w3 ⟨rfl, hy⟩
                have hx3 := hx2.trans hy
                clear h2 hy hx2
                go_wp2
                go_ret
                exact ⟨rfl, hx3⟩
    · have k60b : (60 : Int) < (lb : Int) := by omega
      clear ha hb tb
      go_enter Tryd.func6, Tryd.ntmps6
      go_wp2_with fail
      refine (unhide HB).mono ?_
      rintro e w1 ⟨rfl, hx1⟩
      clear HB
      go_wp2
      go_ret
      exact ⟨rfl, hx1⟩
  · have k60 : (60 : Int) < (la : Int) := by omega
    clear ha hb tb
    go_enter Tryd.func6, Tryd.ntmps6
    go_wp2_with fail
    refine (unhide HB).mono ?_
    rintro e w1 ⟨rfl, hx1⟩
    clear HB
    go_wp2
    go_ret
    exact ⟨rfl, hx1⟩
end Go.Proofs.YtgnkhfmpooomkaaDoor
