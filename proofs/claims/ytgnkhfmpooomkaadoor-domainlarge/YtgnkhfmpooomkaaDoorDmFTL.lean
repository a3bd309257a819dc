/-
  Frm4, DmT, DmL in one text.
-/
import Derived.Test.YtgnkhfmpooomkaaDoorGen
import Derived.HandedShaped
import Derived.Handed
import Derived.Test.YtgnkhfmpooomkaaDoorRows
import Derived.Test.YtgnkhfmpooomkaaDoorDmCK
import Derived.MakeChecks
import Derived.Lib.LaidU8
import Derived.ChangeArms
import Derived.LaidMore
import Derived.LaidHandle
import Derived.Lay
import Derived.Maps.AppendAt
namespace Go.Proofs.YtgnkhfmpooomkaaDoor
set_option linter.unusedVariables false
open Go.RowKit

/-- As the kit's wrap for a row with a further premise on the world, and the world's shape handed on. -/
theorem handed_and_shaped {H : Type} {enc : TypeId × Value → H} {a : Assume} {C : Checked} {os : Os} {f : FuncId} {fn : Func} {s : ChangeSpec} {conds : List PathCond} {apart fresh handsOn again : Bool} {X : World → Array Value → Prop}
    (hX : ∀ (w w' : World) (args : Array Value), w.heap = w'.heap → X w args → X w' args)
    (own : ownKnob C.prog.godebug = none) (started : os.Started) (noInit : C.prog.inits.idxOf? f = none) (hfn : C.prog.funcs[f]? = some fn)
    (witness : ∃ (w : World) (tape : Tape) (i : Input), w.os = os ∧ (w.forCall tape i).Shaped C.prog ∧ i.vars = [] ∧ Input.okWide C.prog (w.forCall tape i) .any w.heap.size f i ∧
      ((s.pre enc C.prog fn conds apart (w.forCall tape i).memory i.args ∧ X (w.forCall tape i).memory i.args) ∧ sizedMet enc C.prog fn (OpenSpec.ofChange s) apart (w.forCall tape i).memory i.args) ∧ a.holds C.prog (lone (Frame.enter C.prog f i.args .normal) [] (w.forCall tape i)))
    (contract : ∀ (W : World) (base : Nat) (args : Array Value) (ds gs : List (DataW H)) (before : List MemPlace),
      (∀ (j : Nat) t v, fn.params[j]? = some t → args[j]? = some v → Value.okWide C.prog W .any base t v) →
      DataW.Whole enc C.prog fn.params.toList s.vars apart W args.toList ds gs before →
      conds.all (PathCond.test C.prog ⟨fn.params.toList, ds, s.plain.varTypes C.prog, gs⟩) = true →
      (DataW.weightsEach C.prog (fn.params.toList ++ s.plain.varTypes C.prog) (ds ++ gs)).all (· ≤ reachBytes) = true → X W args → W.ShapedOpen C.prog →
      Calls C.prog f args W fun e W' => ∃ v, e = .returned v ∧ s.post enc C.prog fn apart fresh handsOn again W args v W') :
    ReturnsInHanded a C os f .any (fun w args => (s.pre enc C.prog fn conds apart w args ∧ X w args) ∧ sizedMet enc C.prog fn (OpenSpec.ofChange s) apart w args) (s.post enc C.prog fn apart fresh handsOn again) := by
  refine returnsInHanded_of_calls own started noInit witness ?_
  intro w tape i _ hsh _ hok hpre hholds
  obtain ⟨_, _, _, fn', hfn', _, _, _, _, hval⟩ := hok
  have e : fn' = fn := Option.some.inj (hfn'.symm.trans hfn)
  subst e
  obtain ⟨⟨⟨ds, gs, before, hw, hc⟩, hx⟩, hz⟩ := hpre
  have hw' := DataW.Whole.of_heap (w' := w.forCall tape i) (by rfl) hw
  refine (contract (w.forCall tape i) w.heap.size i.args ds gs before hval hw' hc (hz.weights hw) (hX _ _ _ (by rfl) hx) hsh).mono fun e W' ⟨v, he, hp⟩ => ?_
  subst he
  exact ChangeSpec.post_blind hp
end Go.Proofs.YtgnkhfmpooomkaaDoor
namespace Go.Proofs.YtgnkhfmpooomkaaDoor
set_option linter.unusedVariables false
open Go.RowKit

def laidR : List (String × DataW Unit) := Rows.domainStaysRow.laid
theorem gOut : Tryd.prog.globalNamed "shortcut/fold.leftOut" = some 0 := by kernel_rfl
theorem gBig : Tryd.prog.globalNamed "shortcut/fold.large" = some 1 := by kernel_rfl
theorem tOut : (Tryd.prog.globals[0]?).map (·.type) = some 78 := by kernel_rfl
theorem tBig : (Tryd.prog.globals[1]?).map (·.type) = some 81 := by kernel_rfl
theorem cells_int : Tryd.prog.cellsOf 21 = 1 := by kernel_rfl
theorem cells_span : Tryd.prog.cellsOf 77 = 3 := by kernel_rfl
theorem cells_caps : Tryd.prog.cellsOf 80 = 4 := by kernel_rfl

theorem chunk {l zs : List Value} {o n : Nat} (h : (l.drop o).take n = zs) (i : Nat) (hi : i < n) : l[o + i]? = zs[i]? := by
  have := congrArg (·[i]?) h
  simpa [List.getElem?_take, List.getElem?_drop, hi] using this

section
variable {w : World} {fuel : Nat} {p : List MemPlace}
theorem span_cells {cs : List Value} {f l s : Int} (h : DataW.trod (fun _ => ()) Tryd.prog w 0 (fun _ => true) false fuel 77 cs = some (.agg [.lit (.int .i32 f), .lit (.int .i32 l), .lit (.int .i32 s)], p)) : cs = [R f, R l, R s] :=
  Go.Lib.ints_of_struct (zs := [f, l, s]) Tryd.underlying77 (fun j g hj => by
    match j, hj with
    | 0, hj => simp at hj; subst hj; exact ⟨Tryd.underlying21, rfl, cells_int⟩
    | 1, hj => simp at hj; subst hj; exact ⟨Tryd.underlying21, rfl, cells_int⟩
    | 2, hj => simp at hj; subst hj; exact ⟨Tryd.underlying21, rfl, cells_int⟩
    | j + 3, hj => simp at hj) (by rw [cells_span]; rfl) h

set_option maxRecDepth 100000 in
theorem caps_cells {cs : List Value} {f l s m : Int} (h : DataW.trod (fun _ => ()) Tryd.prog w 0 (fun _ => true) false fuel 80 cs = some (.agg [.agg [.lit (.int .i32 f), .lit (.int .i32 l), .lit (.int .i32 s)], .lit (.int .i32 m)], p)) : cs = [R f, R l, R s, R m] := by
  obtain ⟨xs, n, rfl, hx, hl, hxl, hall⟩ := DataW.trod_struct Tryd.underlying80 h
  have h0 : DataW.trod (fun _ => ()) Tryd.prog w 0 (fun _ => true) false n 77 ((cs.drop 0).take (Tryd.prog.cellsOf 77)) = xs[0]? := hall 0 _ rfl
  have h1 : DataW.trod (fun _ => ()) Tryd.prog w 0 (fun _ => true) false n 21 ((cs.drop 3).take (Tryd.prog.cellsOf 21)) = xs[1]? := hall 1 _ rfl
  rw [cells_caps] at hl
  rw [cells_span] at h0
  rw [cells_int] at h1
  have hxs := congrArg Prod.fst hx
  simp only [DataW.agg.injEq] at hxs
  match xs, hxs, h0, h1 with
  | [x0, x1], hxs, h0, h1 =>
    simp only [List.map_cons, List.map_nil, List.cons.injEq, and_true] at hxs
    obtain ⟨a0, b0⟩ := x0
    obtain ⟨a1, b1⟩ := x1
    obtain ⟨rfl, rfl⟩ := hxs
    simp only [List.getElem?_cons_zero, List.getElem?_cons_succ] at h0 h1
    have k0 := span_cells h0
    obtain ⟨z, hz, hz2, _⟩ := DataW.trod_int Tryd.underlying21 h1
    simp only [Prod.mk.injEq, DataW.lit.injEq, Lit.int.injEq, true_and] at hz2
    obtain ⟨rfl, _⟩ := hz2
    match cs, hl, k0, hz with
    | [c0, c1, c2, c3], _, k0, hz =>
      simp at k0 hz
      obtain ⟨rfl, rfl, rfl⟩ := k0
      subst hz
      rfl
end

set_option maxRecDepth 100000 in
theorem tabs_of_laid {W : World} (h : laidMetH Tryd.prog laidR W) : Tabs W := by
  rw [MakeChecks.laidMetH_plain _ _ _ (by kernel_rfl)] at h
  have r1 := Go.Lib.laidMet.reads h (n := "shortcut/fold.leftOut") (List.Mem.head _)
  have r2 := Go.Lib.laidMet.reads h (n := "shortcut/fold.large") (List.Mem.tail _ (List.Mem.head _))
  clear h
  constructor
  · obtain ⟨g, t, cs, fuel, p, hg, hty, hvar, hd⟩ := r1
    obtain rfl := Option.some.inj (gOut.symm.trans hg)
    obtain rfl := Option.some.inj (tOut.symm.trans hty)
    intro j v hv
    have hj : j < 12 := (List.getElem?_eq_some_iff.1 hv).1
    obtain ⟨i, k, rfl, hi, hk⟩ : ∃ i k, j = i * 3 + k ∧ i < 4 ∧ k < 3 := ⟨j / 3, j % 3, by omega, by omega, by omega⟩
    obtain ⟨fuel', d, q, hdi, he⟩ := Go.Lib.array_elem Tryd.underlying78 hd i hi
    rw [cells_span] at he
    have hc : (cs.toList.drop (i * 3)).take 3 = (outT.drop (i * 3)).take 3 := by
      have hi4 : i = 0 ∨ i = 1 ∨ i = 2 ∨ i = 3 := by omega
      rcases hi4 with rfl | rfl | rfl | rfl <;>
      · obtain rfl := Option.some.inj hdi
        exact span_cells he
    rw [World.var?_cell hg hvar, ← Array.getElem?_toList, chunk hc k hk, ← hv]
    exact (chunk (l := outT) (o := i * 3) (n := 3) rfl k hk).symm
  · obtain ⟨g, t, cs, fuel, p, hg, hty, hvar, hd⟩ := r2
    obtain rfl := Option.some.inj (gBig.symm.trans hg)
    obtain rfl := Option.some.inj (tBig.symm.trans hty)
    intro j v hv
    have hj : j < 32 := (List.getElem?_eq_some_iff.1 hv).1
    obtain ⟨i, k, rfl, hi, hk⟩ : ∃ i k, j = i * 4 + k ∧ i < 8 ∧ k < 4 := ⟨j / 4, j % 4, by omega, by omega, by omega⟩
    obtain ⟨fuel', d, q, hdi, he⟩ := Go.Lib.array_elem Tryd.underlying81 hd i hi
    rw [cells_caps] at he
    have hc : (cs.toList.drop (i * 4)).take 4 = (bigT.drop (i * 4)).take 4 := by
      have hi8 : i = 0 ∨ i = 1 ∨ i = 2 ∨ i = 3 ∨ i = 4 ∨ i = 5 ∨ i = 6 ∨ i = 7 := by omega
      rcases hi8 with rfl | rfl | rfl | rfl | rfl | rfl | rfl | rfl <;>
      · obtain rfl := Option.some.inj hdi
        exact caps_cells he
    rw [World.var?_cell hg hvar, ← Array.getElem?_toList, chunk hc k hk, ← hv]
    exact (chunk (l := bigT) (o := i * 4) (n := 4) rfl k hk).symm

theorem tb_of_laid {W : World} (h : laidMetH Tryd.prog laidR W) (hsh : W.ShapedOpen Tryd.prog) : Tb6 W := ⟨tabs_of_laid h, Tryd.laysM146.s1_3 W hsh⟩
theorem world_met (os : Os) (args : Array Value) : laidMetH Tryd.prog laidR ((World.laidAll Tryd.prog os laidR).forCall (fun _ _ => 0) ⟨#[], args, []⟩).memory := by
  rw [MakeChecks.laidMetH_plain _ _ _ (by kernel_rfl)]
  exact laidMet_laidAll _ (by kernel_rfl) (by kernel_rfl)
end Go.Proofs.YtgnkhfmpooomkaaDoor
namespace Go.Proofs.YtgnkhfmpooomkaaDoor
set_option linter.unusedVariables false
open Go.RowKit

def sgnL : List UInt8 := [97, 98, 99, 100, 120, 110, 45, 48, 46, 49]
def sgn (x : UInt8) : UInt8 := sgnL.getD (x.toNat % 10) 0
def bigS (x : UInt8) : UInt8 := if 128 ≤ x.toNat ∧ 97 ≤ (sgn x).toNat ∧ (sgn x).toNat ≤ 122 then sgn x - 32 else sgn x
theorem sgn_facts : ∀ b : Fin 256, (sgn (UInt8.ofNat b.val)).toNat ≤ 127 ∧ (bigS (UInt8.ofNat b.val)).toNat ≤ 127 ∧ mpk ((bigS (UInt8.ofNat b.val)).toNat : Int) = mpk ((sgn (UInt8.ofNat b.val)).toNat : Int) ∧ mpo ((bigS (UInt8.ofNat b.val)).toNat : Int) = mpo ((sgn (UInt8.ofNat b.val)).toNat : Int) ∧ (97 ≤ (sgn (UInt8.ofNat b.val)).toNat → ((sgn (UInt8.ofNat b.val) - 32).toNat : Int) = ((sgn (UInt8.ofNat b.val)).toNat : Int) - 32) := by decide +kernel
theorem sgn_fact (x : UInt8) : (sgn x).toNat ≤ 127 ∧ (bigS x).toNat ≤ 127 ∧ mpk ((bigS x).toNat : Int) = mpk ((sgn x).toNat : Int) ∧ mpo ((bigS x).toNat : Int) = mpo ((sgn x).toNat : Int) ∧ (97 ≤ (sgn x).toNat → ((sgn x - 32).toNat : Int) = ((sgn x).toNat : Int) - 32) := by
  have := sgn_facts ⟨x.toNat, x.toNat_lt⟩
  simpa using this
theorem txt_sgn : ∀ l : List UInt8, txt (asI (l.map bigS)) = txt (asI (l.map sgn))
  | [] => rfl
  | x :: l => by
    obtain ⟨_, _, h1, h2, _⟩ := sgn_fact x
    show txt (((bigS x).toNat : Int) :: asI (l.map bigS)) = txt (((sgn x).toNat : Int) :: asI (l.map sgn))
    rw [txt, txt, h1, h2, txt_sgn l]
theorem nam_sgn (l : List UInt8) : nam (l.map bigS) = nam (l.map sgn) := by
  have e1 : dec (l.map bigS) = asI (l.map bigS) := dec_ascii _ fun b hb => by
    obtain ⟨x, _, rfl⟩ := List.mem_map.1 hb
    exact (sgn_fact x).2.1
  have e2 : dec (l.map sgn) = asI (l.map sgn) := dec_ascii _ fun b hb => by
    obtain ⟨x, _, rfl⟩ := List.mem_map.1 hb
    exact (sgn_fact x).1
  unfold nam
  rw [e1, e2, txt_sgn, List.length_map, List.length_map]
theorem infoB6 : (Tryd.prog.info? 5).map (fun i => (i.zero, i.size, i.bytes)) = some (some (.int .u8 0), 1, 1) := by kernel_rfl

/-- 'append(v, x)' of one byte to a row of the call's own; where the new row lies. -/
theorem wpList_app1 {w : World} {ops : Array Oper} {rest : List Oper} {o : Oper} {a : Act} {Q : Exit → Act → World → Prop} (hgd : o.guard = none) (s x : Operand)
    (ho : o.op = .call { callee := .builtin .append, args := #[s, x], argTypes := #[22, 22] })
    (base : Nat) (v : Value) (n : Nat) (xs : List Value) (hs : a.eval s = v) (hown : w.ownsRow base 5 1 v n xs)
    (g : Nat) (y : Value) (hx : a.eval x = .slice (some ⟨g, 0, none⟩) 1 1) (hc : w.cell? ⟨g, 0, none⟩ = some y) (hone : y.oneCell' = true) (hn : n ≤ 1000) (hbase : base ≤ w.heap.size)
    (h : ∀ v' w', w'.ownsRow base 5 1 v' (n + 1) (xs ++ [y]) → w.grownBy w' v.ownBlock → (v'.ownBlock = v.ownBlock ∨ v'.ownBlock = some w.heap.size) → wpList Tryd.prog ops Q rest (a.put o.dst v') w') : wpList Tryd.prog ops Q (o :: rest) a w := by
  obtain ⟨i0, hi, hz0, hz1, hz2⟩ := info_parts infoB6
  refine wpList_append_own_at w hgd s x 22 ho base 5 i0 (.int .u8 0) 1 1 Tryd.underlying22 hi hz0 hz1 hz2 rfl (by decide) v n xs hs hown ⟨g, 0, none⟩ 1 1 [y] hx rfl (fun j u hj => ?_) (by simp [hone]) (by unfold maxLen; omega) (by omega) hbase ?_
  · match j, hj with
    | 0, hj =>
      simp at hj
      subst hj
      simpa [Addr.add] using hc
  · intro v' w' h1 h2 _ h3
    exact h v' w' h1 h2 h3

/-- Two rows of the call's own in blocks of their own. -/
def Two (w0 w : World) (va vb : Value) (la lb : List UInt8) : Prop :=
  w.ownsRow w0.heap.size 5 1 va la.length (la.map B) ∧ w.ownsRow w0.heap.size 5 1 vb lb.length (lb.map B) ∧ (∀ t, va.ownBlock = some t → vb.ownBlock ≠ some t) ∧ Below w0.heap.size w0 w
theorem owns_grown {w w' : World} {base e n : Nat} {v : Value} {xs : List Value} {row : Option Nat} (h : w.ownsRow base e 1 v n xs) (hg : w.grownBy w' row) (hne : ∀ t, v.ownBlock = some t → row ≠ some t) : w'.ownsRow base e 1 v n xs := by
  refine ⟨h.1, ?_⟩
  rcases h.2 with h2 | ⟨g, cap, cur, rfl, h2, h3, h4⟩
  · exact .inl h2
  · refine .inr ⟨g, cap, cur, rfl, h2, ?_, h4⟩
    have hlt : g < w.heap.size := by
      rcases Nat.lt_or_ge g w.heap.size with h' | h'
      · exact h'
      · simp [Array.getElem?_eq_none h'] at h3
    rw [hg.block g hlt (fun e => hne g rfl e.symm)]
    exact h3
theorem own_lt {w : World} {base e n : Nat} {v : Value} {xs : List Value} (h : w.ownsRow base e 1 v n xs) : ∀ t, v.ownBlock = some t → t < w.heap.size := fun t ht => (h.lt t ht).2
theorem Two.alloc {w0 w : World} {va vb : Value} {la lb : List UInt8} (h : Two w0 w va vb la lb) (o : Obj) : Two w0 (w.alloc o) va vb la lb :=
  ⟨owns_below h.1 (Ext.alloc w o), owns_below h.2.1 (Ext.alloc w o), h.2.2.1, h.2.2.2.trans (Below.mono (Ext.alloc w o) h.2.2.2.size)⟩
theorem Two.appA {w0 w w' : World} {va vb v' : Value} {la lb : List UInt8} {x : UInt8} (h : Two w0 w va vb la lb) (h1 : w'.ownsRow w0.heap.size 5 1 v' (la.length + 1) (la.map B ++ [B x])) (h2 : w.grownBy w' va.ownBlock) (h3 : v'.ownBlock = va.ownBlock ∨ v'.ownBlock = some w.heap.size) : Two w0 w' v' vb (la ++ [x]) lb := by
  refine ⟨?_, owns_grown h.2.1 h2 (fun t ht e => h.2.2.1 t e ht), fun t ht e => ?_, h.2.2.2.trans ((Below.refl _ _).grown h2 h.2.2.2.size (fun t ht => (h.1.lt t ht).1))⟩
  · rw [List.length_append, List.map_append]
    exact h1
  · rcases h3 with h3 | h3
    · rw [h3] at ht
      exact h.2.2.1 t ht e
    · rw [h3] at ht
      simp only [Option.some.injEq] at ht
      have := own_lt h.2.1 t e
      omega
theorem Two.swap {w0 w : World} {va vb : Value} {la lb : List UInt8} (h : Two w0 w va vb la lb) : Two w0 w vb va lb la := ⟨h.2.1, h.1, fun t ht e => h.2.2.1 t e ht, h.2.2.2⟩

set_option maxHeartbeats 4000000 in
set_option maxRecDepth 100000 in
theorem large_walk (ao : Option Addr) (l cap : Nat) (b : List UInt8) (w : World) (hl : b.length = l) (h : RdV w ao cap (b.map B)) (tb : Tb6 w) :
    Calls Tryd.prog 4 #[.slice ao l cap] w fun e w' => e = .returned (.bool true) ∧ Ext w w' := by
  subst hl
  have hle := h.le
  have hmx := h.max
  simp only [List.length_map] at hle
  have HB := hide (begun_yes w tb)
  have TB := hide (fun (w' : World) (hx : Ext w w') => tb.below hx)
  clear tb
  by_cases h40 : b.length ≤ 40
  · have h40' : ¬ 40 < (b.length : Int) := by omega
    have HRD := hide (fun (v : World) (hx : Ext w v) => h.below hx)
    clear h
    go_enter Tryd.func4, Tryd.ntmps4
    go_wp2_with fail
    refine (unhide HB).mono ?_
    rintro e w1 ⟨rfl, hx1⟩
    clear HB
    go_wp2_with fail
    go_loopw [3, 4, 5] (fun va vb i wr => ∃ k : Nat, k ≤ b.length ∧ i = .int .i64 k ∧ Hid (Two w1 wr va vb ((b.take k).map sgn) ((b.take k).map bigS))) (fun _ _ i _ => b.length - (intOf i).toNat)
    case atStart => exact ⟨0, by omega, rfl, ⟨World.ownsRow_nil _ _ _ _, World.ownsRow_nil _ _ _ _, (fun t ht => by cases ht), Below.refl _ _⟩⟩
    case round =>
      obtain ⟨k, hk, rfl, TW⟩ := hrel
      by_cases hkl : k < b.length
      · have hkl' : (k : Int) < (b.length : Int) := by omega
        have hxr : Ext w wr := hx1.trans (unhide TW).2.2.2
        obtain ⟨g, off, hao, hc⟩ := (unhide HRD wr hxr).cells (by simp; omega)
        have c0 : wr.cell? ⟨g, off + k, none⟩ = some (.int .u8 ((b.getD k 0).toNat : Int)) := by
          rw [hc k (by simpa using hkl), getB b k hkl]
        clear hc
        have HT := hide (take_snoc b k 0 hkl)
        have HCC : Hid (∀ v, Ext w v → v.cell? ⟨g, off + k, none⟩ = some (.int .u8 ((b.getD k 0).toNat : Int))) := fun v hv => by
          obtain ⟨g', off', hao', hc'⟩ := (unhide HRD v hv).cells (by simp; omega)
          rw [hao] at hao'
          simp only [Option.some.injEq, Addr.mk.injEq] at hao'
          obtain ⟨rfl, rfl, _⟩ := hao'
          rw [hc' k (by simpa using hkl), getB b k hkl]
        subst hao
        obtain ⟨f1, f2, _, _, f5⟩ := sgn_fact (b.getD k 0)
        have hy := (b.getD k 0).toNat_lt
        obtain ⟨dd, hdd⟩ : ∃ dd, dd = (b.getD k 0).toNat % 10 := ⟨_, rfl⟩
        have hix : ∀ v, (Instr.index 9 (.string ⟨#[97, 98, 99, 100, 120, 110, 45, 48, 46, 49]⟩) (.int .u8 (dd : Int))).run Tryd.prog v = .ok (B (sgn (b.getD k 0))) v := fun v => by
          have := idx_str v sgnL .u8 dd (by show dd < 10; omega)
          rw [show sgnL.getD dd 0 = sgn (b.getD k 0) by rw [hdd]; rfl] at this
          exact this
        have hd10 : dd < 10 := by omega
        have HBG : Hid (bigS (b.getD k 0) = if 128 ≤ (b.getD k 0).toNat ∧ 97 ≤ (sgn (b.getD k 0)).toNat ∧ (sgn (b.getD k 0)).toNat ≤ 122 then sgn (b.getD k 0) - 32 else sgn (b.getD k 0)) := rfl
        generalize b.getD k 0 = y at *
        have hrem : ((y.toNat : Int)) % 10 = (dd : Int) := by omega
        clear hdd
        have HC3 : Hid (∀ v, Below w1.heap.size w1 v → v.cell? ⟨g, off + k, none⟩ = some (.int .u8 (y.toNat : Int))) := fun v hv => unhide HCC v (hx1.trans hv)
        obtain ⟨LA, hLA⟩ : ∃ L, L = (b.take k).map sgn := ⟨_, rfl⟩
        obtain ⟨LB, hLB⟩ : ∃ L, L = (b.take k).map bigS := ⟨_, rfl⟩
        have hla : LA.length ≤ 40 := by rw [hLA, List.length_map, List.length_take]; omega
        have hlb : LB.length ≤ 40 := by rw [hLB, List.length_map, List.length_take]; omega
        have FIN2 : Hid (∀ va' vb' w', Two w1 w' va' vb' (LA ++ [sgn y]) (LB ++ [bigS y]) → (∃ k' : Nat, k' ≤ b.length ∧ Value.int .i64 ((k : Int) + 1) = .int .i64 k' ∧ Hid (Two w1 w' va' vb' ((b.take k').map sgn) ((b.take k').map bigS))) ∧ b.length - ((k : Int) + 1).toNat < b.length - k) := fun va' vb' w' ht => ⟨⟨k + 1, by omega, by simp, by rw [unhide HT, List.map_append, List.map_append, ← hLA, ← hLB]; exact ht⟩, by omega⟩
        rw [← hLA, ← hLB] at TW
        clear hLA hLB HT hxr
        have T2 := (unhide TW).alloc (.cells #[B (sgn y)] 5 (0, 0))
        have own2 := T2.1
        have cc2 : (wr.alloc (.cells #[B (sgn y)] 5 (0, 0))).cell? ⟨wr.heap.size, 0, none⟩ = some (B (sgn y)) := by rw [World.cell?_alloc_mark]; rfl
        have hbase2 := T2.2.2.2.size
        have HT2 := hide T2
        clear T2 TW
        obtain ⟨c, hcd⟩ : ∃ c, c = sgn y := ⟨_, rfl⟩
        rw [← hcd] at hix f1 f5 HBG own2 cc2 FIN2 HT2 hbase2
        clear hcd
        go_wp2_with (at_builtin; refine wpList_app1 rfl (.tmp 28) (.tmp 30) rfl w1.heap.size _ _ _ rfl own2 _ _ rfl cc2 rfl (by omega) hbase2 ?_)
        intro v3 w3 o3 g3 b3
        have T3 := hide ((unhide HT2).appA o3 g3 (by simpa using b3))
        clear own2 cc2 hbase2 o3 g3 b3 HT2
        have c3 : w3.cell? ⟨g, off + k, none⟩ = some (.int .u8 (y.toNat : Int)) := unhide HC3 w3 (unhide T3).2.2.2
        clear c0
        by_cases hbig : 128 ≤ y.toNat ∧ 97 ≤ c.toNat ∧ c.toNat ≤ 122
        · have e1 : (128 : Int) ≤ (y.toNat : Int) := by omega
          have e2 : (97 : Int) ≤ (c.toNat : Int) := by omega
          have e3 : (c.toNat : Int) ≤ 122 := by omega
          have eb : B (bigS y) = .int .u8 ((c.toNat : Int) - 32) := by
            rw [unhide HBG, if_pos hbig, ← f5 hbig.2.1]
          have T4 := (unhide T3).swap.alloc (.cells #[.int .u8 ((c.toNat : Int) - 32)] 5 (0, 0))
          have own4 := T4.1
          have cc4 : (w3.alloc (.cells #[.int .u8 ((c.toNat : Int) - 32)] 5 (0, 0))).cell? ⟨w3.heap.size, 0, none⟩ = some (.int .u8 ((c.toNat : Int) - 32)) := by rw [World.cell?_alloc_mark]; rfl
          have hbase4 := T4.2.2.2.size
          have HT4 := hide T4
          clear T4 T3 HBG f5 hbig
          go_wp2_with (at_builtin; refine wpList_app1 rfl (.tmp 47) (.tmp 49) rfl w1.heap.size _ _ _ rfl own4 _ _ rfl cc4 rfl (by omega) hbase4 ?_)
          intro v5 w5 o5 g5 b5
          rw [← eb] at o5
          have T5 := ((unhide HT4).appA o5 g5 (by simpa using b5)).swap
          have kk := hide (unhide FIN2 _ _ _ T5)
          clear own4 cc4 hbase4 o5 g5 b5 HT4 T5 FIN2 eb c3
          go_wp2
          exact unhide kk
        · have eb : bigS y = c := by rw [unhide HBG, if_neg hbig]
          rw [eb] at FIN2
          have T4 := (unhide T3).swap.alloc (.cells #[B c] 5 (0, 0))
          have own4 := T4.1
          have cc4 : (w3.alloc (.cells #[B c] 5 (0, 0))).cell? ⟨w3.heap.size, 0, none⟩ = some (B c) := by rw [World.cell?_alloc_mark]; rfl
          have hbase4 := T4.2.2.2.size
          have HT4 := hide T4
          clear T4 T3 HBG f5 eb
          have hcases : (¬ (128 : Int) ≤ (y.toNat : Int)) ∨ ((128 : Int) ≤ (y.toNat : Int) ∧ ¬ (97 : Int) ≤ (c.toNat : Int)) ∨ ((128 : Int) ≤ (y.toNat : Int) ∧ (97 : Int) ≤ (c.toNat : Int) ∧ ¬ (c.toNat : Int) ≤ 122) := by omega
          clear hbig
          rcases hcases with e1 | ⟨e1, e2⟩ | ⟨e1, e2, e3⟩
          all_goals
            go_wp2_with (at_builtin; refine wpList_app1 rfl (.tmp 47) (.tmp 49) rfl w1.heap.size _ _ _ rfl own4 _ _ rfl cc4 rfl (by omega) hbase4 ?_)
            intro v5 w5 o5 g5 b5
            have T5 := ((unhide HT4).appA o5 g5 (by simpa using b5)).swap
            have kk := hide (unhide FIN2 _ _ _ T5)
            clear own4 cc4 hbase4 o5 g5 b5 HT4 T5 FIN2 c3
            go_wp2
            exact unhide kk
      · have hkl' : ¬ (k : Int) < (b.length : Int) := by omega
        have e : b.take k = b := List.take_of_length_le (by omega)
        rw [e] at TW
        have hxr : Ext w wr := hx1.trans (unhide TW).2.2.2
        have T := unhide TW
        obtain ⟨a1, c1, rfl, r1, n1⟩ := RdV.of_owned T.1
        obtain ⟨a2, c2, rfl, r2, n2⟩ := RdV.of_owned T.2.1
        have H1 := hide (ascii_lit (b.map sgn) _ rfl a1 b.length c1 wr (by simp) r1 (unhide TB wr hxr).tab)
        have H2 := hide (fun (v : World) (hv : Ext wr v) => ascii_lit (b.map bigS) _ (nam_sgn b) a2 b.length c2 v (by simp) (r2.below hv) (unhide TB v (hxr.trans hv)).tab)
        clear T TW r1 r2 n1 n2 e HRD
        generalize nS (nam (b.map sgn)) = z1 at *
        generalize nE (nam (b.map sgn)) = z2 at *
        go_wp2_with fail
        refine (unhide H1).mono ?_
        rintro e w3 ⟨rfl, hy3⟩
        have hx3 := hxr.trans hy3
        clear H1
        go_wp2_with fail
        refine (unhide H2 _ hy3).mono ?_
        rintro e w4 ⟨rfl, hy4⟩
        have hx4 := hx3.trans hy4
        clear H2 hy3 hy4
        go_wp2
        go_ret
        exact ⟨rfl, hx4⟩
  · have h40' : 40 < (b.length : Int) := by omega
    go_enter Tryd.func4, Tryd.ntmps4
    go_wp2_with fail
    refine (unhide HB).mono ?_
    rintro e w1 ⟨rfl, hx1⟩
    clear HB
    go_wp2
    go_ret
    exact ⟨rfl, hx1⟩
end Go.Proofs.YtgnkhfmpooomkaaDoor
