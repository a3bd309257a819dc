/-
  Gen, Str, Same, Reg, Ops, Reg2.
-/
import Derived.Test.YtenlampiiodkhaaGreatDoorProg
import Derived.KernelRfl
import Derived.WalkKit
import Derived.ProofKit
import Derived.OpenShut
import Derived.Below
import Derived.WalkSpells
import Derived.WalkLawsBesides
import Derived.Laws.AppendOwnNone
import Derived.Deep.QuietTactic
import Derived.BigQuiet
import Derived.Lib.SlBytesConst
import Derived.Lib.Strings
namespace Go.Proofs.YtenlampiiodkhaaGreatDoor
set_option linter.unusedVariables false
open Go.RowKit
theorem hide {p : Prop} (h : p) : Hid p := h
theorem unhide {p : Prop} (h : Hid p) : p := h
theorem ret_int {k : IntKind} {a b : Int} (h : a = b) : Ending.returned (.int k a) = .returned (.int k b) := by rw [h]
def Ext (w w' : World) : Prop := Below w.heap.size w w'
theorem Ext.refl (w : World) : Ext w w := Below.refl _ _
theorem Ext.trans {a b c : World} (h : Ext a b) (k : Ext b c) : Ext a c := Below.trans h (Below.mono k h.size)
theorem Ext.drew (w : World) : Ext w w.drew := (Below.refl _ _).drew
theorem Ext.drewN (w : World) (n : Nat) : Ext w (w.drewN n) := below_drewN (Below.refl _ _) n
theorem Ext.alloc (w : World) (o : Obj) : Ext w (w.alloc o) := (Below.refl _ _).alloc (Nat.le_refl _) _
theorem Ext.then {a b c : World} {B : Nat} (h : Ext a b) (k : Below B b c) (hB : a.heap.size ≤ B) : Ext a c := Below.trans h (Below.mono k hB)
structure RdV (w : World) (ao : Option Addr) (cap : Nat) (vs : List Value) : Prop where
  le : vs.length ≤ cap
  max : cap ≤ 9223372036854775807
  nil : ao = none → cap = 0
  cell : ∀ i, i < vs.length → ∃ b off, ao = some ⟨b, off, none⟩ ∧ w.cell? ⟨b, off + i, none⟩ = vs[i]?
theorem cell_lt {w : World} {a : Addr} {v : Value} (h : w.cell? a = some v) : a.block < w.heap.size := by
  rcases Nat.lt_or_ge a.block w.heap.size with h' | h'
  · exact h'
  · simp [World.cell?, Array.getElem?_eq_none h'] at h
theorem RdV.below {w w' : World} {ao : Option Addr} {cap : Nat} {vs : List Value} (h : RdV w ao cap vs) (hb : Ext w w') : RdV w' ao cap vs := by
  refine ⟨h.le, h.max, h.nil, fun i hi => ?_⟩; obtain ⟨b, off, e, hc⟩ := h.cell i hi; refine ⟨b, off, e, ?_⟩; rw [← hc]; rw [List.getElem?_eq_getElem hi] at hc; exact hb.cell (p := ⟨b, off + i, none⟩) (cell_lt hc)
theorem RdV.lt {w : World} {ao : Option Addr} {cap : Nat} {vs : List Value} (h : RdV w ao cap vs) (hb : 0 < vs.length) : ∃ b off, ao = some ⟨b, off, none⟩ ∧ b < w.heap.size := by
  obtain ⟨b, off, e, hc⟩ := h.cell 0 hb; rw [List.getElem?_eq_getElem hb] at hc; exact ⟨b, off, e, cell_lt (a := ⟨b, off + 0, none⟩) hc⟩
theorem RdV.cells {w : World} {ao : Option Addr} {cap : Nat} {vs : List Value} (h : RdV w ao cap vs) (hb : 0 < vs.length) : ∃ b off, ao = some ⟨b, off, none⟩ ∧ ∀ i, i < vs.length → w.cell? ⟨b, off + i, none⟩ = vs[i]? := by
  obtain ⟨b, off, e, _⟩ := h.cell 0 hb; refine ⟨b, off, e, fun i hi => ?_⟩; obtain ⟨b', off', e', hc⟩ := h.cell i hi; rw [e] at e'; simp only [Option.some.injEq, Addr.mk.injEq] at e'; obtain ⟨rfl, rfl, _⟩ := e'; exact hc
theorem RdV.nothing (w : World) : RdV w none 0 [] := ⟨Nat.le_refl _, by omega, fun _ => rfl, fun i hi => by simp at hi⟩
theorem RdV.take {w : World} {ao : Option Addr} {cap : Nat} {vs : List Value} (h : RdV w ao cap vs) (k : Nat) : RdV w ao cap (vs.take k) := by
  refine ⟨by have := h.le; simp; omega, h.max, h.nil, fun i hi => ?_⟩; have hi' : i < k ∧ i < vs.length := by rw [List.length_take] at hi; omega
  obtain ⟨b, off, e, hc⟩ := h.cell i hi'.2; refine ⟨b, off, e, ?_⟩; rw [hc, List.getElem?_take, if_pos hi'.1]
theorem RdV.drop {w : World} {ao : Option Addr} {cap : Nat} {vs : List Value} (h : RdV w ao cap vs) (k : Nat) (hk : k ≤ cap) : RdV w (if cap = k then ao else ao.map (·.add k)) (cap - k) (vs.drop k) := by
  refine ⟨by have := h.le; simp; omega, by have := h.max; omega, fun e => ?_, fun i hi => ?_⟩
  · by_cases hc : cap = k
    · omega
    · rw [if_neg hc] at e; have := h.nil (by simpa using e); omega
  · have hi' : i + k < vs.length := by simp at hi; omega
    have := h.le; rw [if_neg (by omega)]; obtain ⟨b, off, e, hc⟩ := h.cell (k + i) (by omega); by_cases hk0 : k = 0
    · subst hk0; exact ⟨b, off, by rw [e]; simp [Addr.add], by simpa using hc⟩
    · refine ⟨b, off + k, by rw [e]; simp [Addr.add, hk0], ?_⟩; rw [Nat.add_assoc, hc]; simp
theorem RdV.news {w : World} {ao : Option Addr} {cap : Nat} {vs : List Value} (h : RdV w ao cap vs) : ∀ ad, ao = some ad → ∀ j u, vs[j]? = some u → w.cell? (ad.add j) = some u := by
  intro ad had j u hu; have hj : j < vs.length := (List.getElem?_eq_some_iff.1 hu).1; obtain ⟨b, off, e, hc⟩ := h.cell j hj; rw [had] at e; obtain rfl := Option.some.inj e; rw [Addr.add_lit, hc, hu]
theorem RdV.of_owned {w : World} {base e n : Nat} {v : Value} {vs : List Value} (h : w.ownsRow base e 1 v n vs) : ∃ ao cap, v = .slice ao n cap ∧ RdV w ao cap vs ∧ vs.length = n := by
  have hl : vs.length = n := by have := h.1; omega
  subst hl; rcases h.2 with ⟨rfl, h0⟩ | ⟨g, cap, cur, rfl, _, hb, hl, hm, hs, ht⟩
  · refine ⟨none, 0, by rw [h0], ⟨by omega, by omega, fun _ => rfl, fun i hi => by omega⟩, rfl⟩
  · refine ⟨_, cap, rfl, ⟨hl, by unfold maxLen at hm; omega, fun e => (by cases e), fun i hi => ⟨g, 0, rfl, ?_⟩⟩, rfl⟩; rw [Nat.zero_add, h.cellAt i (by omega)]
theorem RdV.of_owned_at {w : World} {base e n cap : Nat} {ao : Option Addr} {vs : List Value} (h : w.ownsRow base e 1 (.slice ao n cap) n vs) : RdV w ao cap vs := by
  obtain ⟨a, c, e, hr, _⟩ := RdV.of_owned h; simp only [Value.slice.injEq] at e; obtain ⟨rfl, _, rfl⟩ := e; exact hr
theorem RdV.lit (w : World) (vs : List Value) (t : TypeId) (fz : Nat × Nat) (hm : vs.length ≤ 9223372036854775807) : RdV (w.alloc (.cells vs.toArray t fz)) (some ⟨w.heap.size, 0, none⟩) vs.length vs :=
  ⟨Nat.le_refl _, hm, fun e => (by cases e), fun i hi => ⟨w.heap.size, 0, rfl, by rw [Nat.zero_add, World.cell?_alloc_mark]; simp⟩⟩
theorem owns_below {w w' : World} {base e size : Nat} {v : Value} {n : Nat} {xs : List Value} (h : w.ownsRow base e size v n xs) (hb : Ext w w') : w'.ownsRow base e size v n xs := by
  refine ⟨h.1, ?_⟩; rcases h.2 with h | ⟨g, cap, cur, h1, h2, h3, h4⟩
  · exact .inl h
  · refine .inr ⟨g, cap, cur, h1, h2, ?_, h4⟩; rw [hb.block g ?_]
    · exact h3
    · rcases Nat.lt_or_ge g w.heap.size with h' | h'
      · exact h'
      · simp [Array.getElem?_eq_none h'] at h3
theorem owns_mono {w : World} {base base' e size : Nat} {v : Value} {n : Nat} {xs : List Value} (h : w.ownsRow base e size v n xs) (hb : base' ≤ base) : w.ownsRow base' e size v n xs :=
  ⟨h.1, h.2.imp id fun ⟨g, c, cur, e1, e2, e3⟩ => ⟨g, c, cur, e1, Nat.le_trans hb e2, e3⟩⟩
theorem empty_own (w : World) (e : TypeId) : (w.alloc (.cells #[] e)).ownsRow w.heap.size e 1 (.slice (some ⟨w.heap.size, 0, none⟩) 0 0) 0 [] :=
  World.ownsRow_lit w #[] 0 (Nat.le_refl _) (by unfold maxLen; omega) rfl
theorem wpList_app {w : World} {ops : Array Oper} {rest : List Oper} {o : Oper} {a : Act} {Q : Exit → Act → World → Prop} (hgd : o.guard = none) (s x : Operand) (t e : TypeId) (z : Value) (bytes : Nat)
    (hT : Tryz.prog.underlying t = some (.slice e)) (hI : (Tryz.prog.info? e).map (fun i => (i.zero, i.size, i.bytes)) = some (some z, 1, bytes)) (hzs : z.cells.size = 1)
    (ho : o.op = .call { callee := .builtin .append, args := #[s, x], argTypes := #[t, t] })
    (base : Nat) (v : Value) (n : Nat) (xs : List Value) (hs : a.eval s = v) (hown : w.ownsRow base e 1 v n xs)
    (ao : Option Addr) (m c : Nat) (ys : List Value) (hx : a.eval x = .slice ao m c) (hl : ys.length = m) (hr : RdV w ao c ys) (hone : ∀ u ∈ ys, u.oneCell' = true) (hb : (n + m) * (bytes + 1) ≤ 140737488355328) (hbase : base ≤ w.heap.size)
    (h : ∀ v' w', w'.ownsRow base e 1 v' (n + m) (xs ++ ys) → Below base w w' → wpList Tryz.prog ops Q rest (a.put o.dst v') w') : wpList Tryz.prog ops Q (o :: rest) a w := by
  obtain ⟨i0, hi, hz0, hz1, hz2⟩ := info_parts hI; have hb1 : (n + m) * bytes ≤ 140737488355328 := Nat.le_trans (Nat.mul_le_mul_left _ (by omega)) hb; have hb2 : n + m ≤ 140737488355328 := Nat.le_trans (by rw [Nat.mul_add, Nat.mul_one]; omega) hb
  cases ao with
  | some ad =>
    refine wpList_append_own _ hgd s x t ho base e i0 z 1 bytes hT hi hz0 hz1 hz2 hzs (by decide) v n xs hs hown ad m c ys hx (by omega) (hr.news ad rfl) hone (by unfold maxLen; omega) hb1 hbase ?_; intro v' w' h1 h2 _; exact h v' w' h1 ((Below.refl _ _).grown h2 hbase (fun t ht => (hown.lt t ht).1))
  | none =>
    have h0 := hr.nil rfl; have hle := hr.le; have hy : ys = [] := List.eq_nil_of_length_eq_zero (by omega); subst hy; have hm : m = 0 := by simpa using hl.symm
    subst hm; subst h0; refine wpList_append_own_none hgd s x t ho base e i0 1 hT hi v n xs hs hown hx ?_; exact h v w (by simpa using hown) (Below.refl _ _)
def Gives (w : World) (vs : List Value) (e : Ending) (w' : World) : Prop :=
  ∃ ao cap, e = .returned (.slice ao vs.length cap) ∧ RdV w' ao cap vs ∧ Ext w w'
theorem gives_of_owned {w w' : World} {base e n : Nat} {v : Value} {vs : List Value} (h : w'.ownsRow base e 1 v n vs) (hb : Ext w w') : Gives w vs (.returned v) w' := by
  obtain ⟨ao, cap, rfl, hr, hn⟩ := RdV.of_owned h; exact ⟨ao, cap, by rw [hn], hr, hb⟩
abbrev B (x : UInt8) : Value := .int .u8 (x.toNat : Int)
abbrev R (r : Int) : Value := .int .i32 r
theorem one_B (bs : List UInt8) : ∀ u ∈ bs.map B, u.oneCell' = true := by
  intro u hu; obtain ⟨x, _, rfl⟩ := List.mem_map.1 hu; rfl
theorem getB (bs : List UInt8) (i : Nat) (h : i < bs.length) : (bs.map B)[i]? = some (B (bs.getD i 0)) := by simp [List.getD, h]
theorem getR (rs : List Int) (i : Nat) (h : i < rs.length) : (rs.map R)[i]? = some (R (rs.getD i 0)) := by simp [List.getD, h]
theorem take_snoc {α : Type} (bs : List α) (k : Nat) (d : α) (h : k < bs.length) : bs.take (k + 1) = bs.take k ++ [bs.getD k d] := by
  rw [List.take_succ_eq_append_getElem h]; simp [List.getD, h]
end Go.Proofs.YtenlampiiodkhaaGreatDoor
namespace Go.Proofs.YtenlampiiodkhaaGreatDoor
set_option linter.unusedVariables false
open Go.RowKit
abbrev S (bs : List UInt8) : Value := .string ⟨bs.toArray⟩
theorem size_S (bs : List UInt8) : (⟨bs.toArray⟩ : ByteArray).size = bs.length := by simp [ByteArray.size]
theorem at_S (l : List UInt8) (k : Nat) (hk : k < (⟨l.toArray⟩ : ByteArray).size) : (⟨l.toArray⟩ : ByteArray)[k] = l.getD k 0 := by
  have h : k < l.length := by rw [size_S] at hk; exact hk
  have : (⟨l.toArray⟩ : ByteArray)[k] = l[k] := by
    show l.toArray[k]'_ = _; simp
  rw [this]; simp [List.getD, h]
theorem idx_str (w : World) (bs : List UInt8) (kd : IntKind) (k : Nat) (hk : k < bs.length) : (Instr.index 9 (.string ⟨bs.toArray⟩) (.int kd (k : Int))).run Tryz.prog w = .ok (B (bs.getD k 0)) w := by
  rw [run_index_string w 9 ⟨bs.toArray⟩ kd (k : Int) Tryz.underlying9]; rw [dif_pos ⟨by omega, by rw [size_S]; omega⟩]; have e := at_S bs ((k : Int)).toNat (by rw [size_S]; omega); rw [e]; simp
theorem drop_S (l : List UInt8) (k : Nat) : (⟨l.toArray⟩ : ByteArray).extract k (⟨l.toArray⟩ : ByteArray).size = ⟨(l.drop k).toArray⟩ := by
  have h := Lib.extract_data ⟨l.toArray⟩ k (⟨l.toArray⟩ : ByteArray).size; rw [size_S] at *; have h2 : ((⟨l.toArray⟩ : ByteArray).extract k l.length).data = (l.drop k).toArray := by
    apply Array.toList_inj.1; rw [h]; show List.take (l.length - k) (List.drop k l) = _; rw [List.take_of_length_le (by simp)]
  exact ByteArray.ext h2
theorem run_drop (w : World) (l : List UInt8) (k : Nat) (h : k ≤ l.length) : (Instr.slice 9 (S l) (some (.int .i64 (k : Int))) none none).run Tryz.prog w = .ok (S (l.drop k)) w := by
  rw [run_slice_string_l w 9 ⟨l.toArray⟩ Tryz.underlying9 .i64 (k : Int) (by omega) (by rw [size_S]; omega)]; rw [Int.toNat_natCast, drop_S]
def strLen : Value → Nat
  | .string s => s.size
  | _ => 0
end Go.Proofs.YtenlampiiodkhaaGreatDoor
namespace Go.Proofs.YtenlampiiodkhaaGreatDoor
set_option linter.unusedVariables false
open Go.RowKit
theorem infoR : (Tryz.prog.info? 21).map (fun i => (i.zero, i.size, i.bytes)) = some (some (.int .i32 0), 1, 4) := by kernel_rfl
end Go.Proofs.YtenlampiiodkhaaGreatDoor
namespace Go.Proofs.YtenlampiiodkhaaGreatDoor
set_option linter.unusedVariables false
open Go.RowKit
def dstSlots (ops : Array Oper) : List Tmp := ops.toList.filterMap (·.dst)
def depSlots (ops : Array Oper) (o : Oper) : List Tmp := o.after.toList.filterMap fun e => if Region.binds .any e then (ops[e.on]?).bind (·.dst) else none
def fineB (ops : Array Oper) (n : Nat) : Bool :=
  (List.range ops.size).all fun i =>
    match ops[i]? with
    | some o =>
      (match o.dst with | some d => decide (d < n) | none => false) &&
      (o.after.toList.all fun e => decide (e.on < i)) &&
      ((List.range ops.size).all fun j => i == j || (ops[j]?).map (·.dst) != some o.dst)
    | none => true
structure Fine (ops : Array Oper) (n : Nat) : Prop where
  slot : ∀ (i : Nat) (o : Oper), ops[i]? = some o → ∃ d, o.dst = some d ∧ d < n
  low : ∀ (i : Nat) (o : Oper) (e : Edge), ops[i]? = some o → e ∈ o.after → e.on < i
  apart : ∀ (i j : Nat) (o o' : Oper), ops[i]? = some o → ops[j]? = some o' → i ≠ j → o'.dst ≠ o.dst
theorem fine_of (ops : Array Oper) (n : Nat) (h : fineB ops n = true) : Fine ops n := by
  have key : ∀ (i : Nat) (o : Oper), ops[i]? = some o → ((match o.dst with | some d => decide (d < n) | none => false) &&
      (o.after.toList.all fun e => decide (e.on < i)) && ((List.range ops.size).all fun j => i == j || (ops[j]?).map (·.dst) != some o.dst)) = true := by
    intro i o ho; have hi : i < ops.size := (Array.getElem?_eq_some_iff.1 ho).1; have := List.all_eq_true.1 h i (List.mem_range.2 hi); simpa only [ho] using this
  refine ⟨fun i o ho => ?_, fun i o e ho he => ?_, fun i j o o' ho ho' hij => ?_⟩
  · have := key i o ho; simp only [Bool.and_eq_true] at this; obtain ⟨⟨h1, _⟩, _⟩ := this
    cases hd : o.dst with
    | none => rw [hd] at h1; simp at h1
    | some d => rw [hd] at h1; exact ⟨d, rfl, by simpa using h1⟩
  · have := key i o ho; simp only [Bool.and_eq_true] at this; obtain ⟨⟨_, h2⟩, _⟩ := this; have := List.all_eq_true.1 h2 e (by simpa using he); simpa using this
  · have := key i o ho; simp only [Bool.and_eq_true] at this; obtain ⟨_, h3⟩ := this; have hj : j < ops.size := (Array.getElem?_eq_some_iff.1 ho').1; have := List.all_eq_true.1 h3 j (List.mem_range.2 hj); simp only [ho', Option.map_some, Bool.or_eq_true, beq_iff_eq, bne_iff_ne, ne_eq, Option.some.injEq] at this; rcases this with h | h
    · exact absurd h hij
    · exact h
section
variable {P : Program} {ops : Array Oper} {Q : Exit → Act → World → Prop} {A : Tmp → Value → World → Prop} {a0 : Act} {w0 : World}
def StepOk (P : Program) (ops : Array Oper) (Q : Exit → Act → World → Prop) (A : Tmp → Value → World → Prop) (a0 : Act) (w0 : World) (o : Oper) : Prop :=
  ∀ a w, Ext w0 w → (∀ t, (dstSlots ops).contains t = false → a.tmps.getD t undef = a0.tmps.getD t undef) →
    (∀ t, (depSlots ops o).contains t = true → A t (a.tmps.getD t undef) w) →
    ∀ K : Act → World → Prop, (∀ v w', (∀ d, o.dst = some d → A d v w') → Ext w w' → K (a.put o.dst v) w') →
      if Region.wanted o (yielded ops a.tmps) = true then o.wp P a w K Q else K (a.put o.dst undef) w
structure RInv (ops : Array Oper) (A : Tmp → Value → World → Prop) (a0 : Act) (w0 : World) (listed : Array Bool) (a : Act) (w : World) : Prop where
  ext : Ext w0 w
  size : a.tmps.size = a0.tmps.size
  defers : a.defers = a0.defers
  keep : ∀ t, (dstSlots ops).contains t = false → a.tmps.getD t undef = a0.tmps.getD t undef
  holds : ∀ (i : Nat) (o : Oper) (d : Tmp), listed.getD i false = true → ops[i]? = some o → o.dst = some d → A d (a.tmps.getD d undef) w
def left (ops : Array Oper) (listed : Array Bool) : Nat := (List.range ops.size).countP fun j => !listed.getD j true
theorem getD_lt {listed : Array Bool} {i : Nat} (h : i < listed.size) (b c : Bool) : listed.getD i b = listed.getD i c := by
  simp [Array.getD, h]
theorem countP_lt {l : List Nat} {p q : Nat → Bool} (h : ∀ x, p x = true → q x = true) (i : Nat) (hi : i ∈ l) (hq : q i = true) (hp : p i = false) : l.countP p < l.countP q := by
  induction l with
  | nil => cases hi
  | cons x r ih =>
    have hle : r.countP p ≤ r.countP q := List.countP_mono_left fun y _ => h y; rw [List.countP_cons, List.countP_cons]; rcases List.mem_cons.1 hi with rfl | hr
    · simp [hp, hq]; omega
    · have := ih hr
      cases hpx : p x
      · simp; omega
      · simp [h x hpx]; omega
theorem all_of_ready {n : Nat} (fine : Fine ops n) {listed : Array Bool} (hs : listed.size = ops.size) (hr : Region.ready .any ops listed = []) : ∀ i, i < ops.size → listed.getD i false = true := by
  intro i
  induction i using Nat.strongRecOn with
  | _ i ih =>
    intro hi
    cases hl : listed.getD i false with
    | true => rfl
    | false =>
      exfalso; have : i ∈ Region.ready .any ops listed := by
        rw [mem_ready]; refine ⟨by rw [getD_lt (by omega) true false]; exact hl, ops[i], Array.getElem?_eq_getElem hi, fun e he _ => ?_⟩; have hlow := fine.low i ops[i] e (Array.getElem?_eq_getElem hi) he; exact ih e.on hlow (by omega)
      rw [hr] at this
      cases this
theorem dst_contains {i : Nat} {o : Oper} {d : Tmp} (ho : ops[i]? = some o) (hd : o.dst = some d) : (dstSlots ops).contains d = true := by
  rw [List.contains_iff_mem]; unfold dstSlots; rw [List.mem_filterMap]; refine ⟨o, ?_, hd⟩; obtain ⟨h, e⟩ := Array.getElem?_eq_some_iff.1 ho; rw [← e]; simp
theorem any_of_steps (fine : Fine ops a0.tmps.size) (hA : ∀ t v w w', A t v w → Ext w w' → A t v w')
    (steps : ∀ (i : Nat) (o : Oper), ops[i]? = some o → StepOk P ops Q A a0 w0 o)
    (hend : ∀ a w, Ext w0 w → a.tmps.size = a0.tmps.size → a.defers = a0.defers → (∀ t, (dstSlots ops).contains t = false → a.tmps.getD t undef = a0.tmps.getD t undef) →
      (∀ t, (dstSlots ops).contains t = true → A t (a.tmps.getD t undef) w) → Q .normal a w) :
    ∀ fuel listed a w, RInv ops A a0 w0 listed a w → listed.size = ops.size → left ops listed ≤ fuel → wpAny P .any ops Q fuel listed a w := by
  have fin : ∀ listed a w, RInv ops A a0 w0 listed a w → (∀ i, i < ops.size → listed.getD i false = true) → Q .normal a w := by
    intro listed a w inv hall; refine hend a w inv.ext inv.size inv.defers inv.keep fun t ht => ?_; rw [List.contains_iff_mem] at ht; unfold dstSlots at ht; obtain ⟨o, ho, hd⟩ := List.mem_filterMap.1 ht; obtain ⟨i, hi, e⟩ := List.mem_iff_getElem.1 ho; have hi' : i < ops.size := by simpa using hi
    exact inv.holds i o t (hall i hi') (by rw [Array.getElem?_eq_getElem hi']; simpa using e) hd
  intro fuel
  induction fuel with
  | zero =>
    intro listed a w inv hs hl; have hall : ∀ i, i < ops.size → listed.getD i false = true := by
      intro i hi; have h0 : left ops listed = 0 := by omega
      have := List.countP_eq_zero.1 h0 i (List.mem_range.2 hi); rw [getD_lt (by omega) false true]; simpa using this
    refine ⟨?_, fin listed a w inv hall⟩
    cases hr : Region.ready .any ops listed with
    | nil => rfl
    | cons x xs =>
      exfalso; have hx : x ∈ Region.ready .any ops listed := by rw [hr]; simp
      obtain ⟨h1, o, ho, _⟩ := mem_ready.1 hx; have hi : x < ops.size := (Array.getElem?_eq_some_iff.1 ho).1; rw [getD_lt (by omega) true false, hall x hi] at h1
      cases h1
  | succ fuel ih =>
    intro listed a w inv hs hl; refine ⟨fun hr => fin listed a w inv (all_of_ready fine hs hr), fun i hi => ?_⟩; obtain ⟨h1, o, ho, hpre⟩ := mem_ready.1 hi; have hi' : i < ops.size := (Array.getElem?_eq_some_iff.1 ho).1; obtain ⟨d, hd, hdn⟩ := fine.slot i o ho; have key := steps i o ho a w inv.ext inv.keep (fun t ht => by
      rw [List.contains_iff_mem] at ht; unfold depSlots at ht; obtain ⟨e, he, hb⟩ := List.mem_filterMap.1 ht; by_cases hbin : Region.binds .any e = true
      · rw [if_pos hbin] at hb; obtain ⟨oj, hoj, hdj⟩ := Option.bind_eq_some_iff.1 hb; exact inv.holds e.on oj t (hpre e (by simpa using he) hbin) hoj hdj
      · rw [if_neg hbin] at hb
        cases hb) (wpAny P .any ops Q fuel (listed.setIfInBounds i true)) (fun v w' hv hext => by
      refine ih _ _ _ ?_ (by simpa using hs) ?_
      · refine ⟨inv.ext.trans hext, ?_, ?_, fun t ht => ?_, fun j oj dj hj hoj hdj => ?_⟩
        · rw [hd]; simpa [Act.put] using inv.size
        · rw [hd]; exact inv.defers
        · have htd : t ≠ d := by
            intro e; rw [e, dst_contains ho hd] at ht
            cases ht
          rw [hd, ← inv.keep t ht]; simp [Act.put, Array.getElem?_setIfInBounds_ne (Ne.symm htd)]
        · by_cases hij : i = j
          · subst hij; rw [ho] at hoj
            cases hoj
            rw [hd] at hdj
            cases hdj
            rw [hd]; have : (a.put (some d) v).tmps.getD d undef = v := by
              have hlt : d < a.tmps.size := by rw [inv.size]; exact hdn
              simp [Act.put, hlt]
            rw [this]; exact hv d hd
          · have hne : dj ≠ d := by
              intro e; exact fine.apart i j o oj ho hoj hij (by rw [hd, hdj, e])
            have hj' : listed.getD j false = true := by rw [getD_set_ne false hij] at hj; exact hj
            have := inv.holds j oj dj hj' hoj hdj; rw [hd]; have e2 : (a.put (some d) v).tmps.getD dj undef = a.tmps.getD dj undef := by
              simp [Act.put, Array.getElem?_setIfInBounds_ne (Ne.symm hne)]
            rw [e2]; exact hA _ _ _ _ this hext
      · have hlt : left ops (listed.setIfInBounds i true) < left ops listed := by
          refine countP_lt (fun x hx => ?_) i (List.mem_range.2 hi') (by simp [h1]) ?_
          · by_cases hxi : i = x
            · subst hxi; simp [h1]
            · rw [getD_set_ne true hxi] at hx; exact hx
          · have : (listed.setIfInBounds i true).getD i true = true := by
              simp [show i < listed.size by omega]
            simp [this]
        omega)
    unfold wpOp; simp only [ho]
    split
    · rename_i hw; rw [if_pos hw] at key; exact .inl key
    · rename_i hw; rw [if_neg hw] at key; exact key
theorem wp_region_open {id : Nat} (hm : P.follows .mixedOrders = true) (fine : fineB ops a0.tmps.size = true) (hA : ∀ t v w w', A t v w → Ext w w' → A t v w')
    (steps : ∀ (i : Nat) (o : Oper), ops[i]? = some o → StepOk P ops Q A a0 w0 o)
    (hend : ∀ a w, Ext w0 w → a.tmps.size = a0.tmps.size → a.defers = a0.defers → (∀ t, (dstSlots ops).contains t = false → a.tmps.getD t undef = a0.tmps.getD t undef) →
      (∀ t, (dstSlots ops).contains t = true → A t (a.tmps.getD t undef) w) → Q .normal a w) : (Code.region id ops true).wp P Q a0 w0 := by
  refine wp_region_any hm (any_of_steps (fine_of _ _ fine) hA steps hend ops.size _ a0 _ ⟨Ext.drew w0, rfl, rfl, fun _ _ => rfl, fun i o d hi ho _ => ?_⟩ (by simp) ?_)
  · have : i < ops.size := (Array.getElem?_eq_some_iff.1 ho).1; simp [this] at hi
  · unfold left; exact Nat.le_trans (List.countP_le_length) (by simp)
end
end Go.Proofs.YtenlampiiodkhaaGreatDoor
namespace Go.Proofs.YtenlampiiodkhaaGreatDoor
set_option linter.unusedVariables false
open Go.RowKit
structure Fact where
  holds : Value → World → Prop
  mono : ∀ v w w', holds v w → Ext w w' → holds v w'
def isF (v0 : Value) : Fact := ⟨fun v _ => v = v0, fun _ _ _ h _ => h⟩
def anyF : Fact := ⟨fun _ _ => True, fun _ _ _ h _ => h⟩
def factOf (L : List (Nat × Fact)) (t : Nat) : Fact := (L.lookup t).getD anyF
def knows (L : List (Nat × Fact)) : Tmp → Value → World → Prop := fun t v w => (factOf L t).holds v w
theorem knows_mono (L : List (Nat × Fact)) : ∀ t v w w', knows L t v w → Ext w w' → knows L t v w' := fun t v w w' h hx => (factOf L t).mono v w w' h hx
def AllOps (S : Oper → Prop) : List Oper → Prop
  | [] => True
  | o :: r => S o ∧ AllOps S r
theorem allOps_mem {S : Oper → Prop} {l : List Oper} (h : AllOps S l) : ∀ o ∈ l, S o := by
  induction l with
  | nil => intro o ho; cases ho
  | cons x r ih =>
    intro o ho; rcases List.mem_cons.1 ho with e | hr
    · rw [e]; exact h.1
    · exact ih h.2 o hr
theorem steps_of {l : List Oper} {S : Oper → Prop} (h : AllOps S l) : ∀ (i : Nat) (o : Oper), l.toArray[i]? = some o → S o := by
  intro i o ho; refine allOps_mem h o ?_; rw [List.getElem?_toArray] at ho; exact List.mem_of_getElem? ho
theorem allOps_nil {S : Oper → Prop} : AllOps S [] := trivial
theorem allOps_cons {S : Oper → Prop} {o : Oper} {r : List Oper} (h : S o) (k : AllOps S r) : AllOps S (o :: r) := ⟨h, k⟩
section
variable {P : Program} {ops : Array Oper} {Q : Exit → Act → World → Prop} {A : Tmp → Value → World → Prop} {a0 : Act} {w0 : World} {o : Oper} {d : Tmp}
def Wanted (ops : Array Oper) (A : Tmp → Value → World → Prop) (o : Oper) : Prop :=
  o.guard = none ∨ ∃ j b t, o.guard = some (j, b) ∧ (ops[j]?).bind (·.dst) = some t ∧ (depSlots ops o).contains t = true ∧ ∀ v w, A t v w → v = .bool b
theorem wanted_of (h : Wanted ops A o) {a : Act} {w : World} (hd : ∀ t, (depSlots ops o).contains t = true → A t (a.tmps.getD t undef) w) : Region.wanted o (yielded ops a.tmps) = true := by
  rcases h with h | ⟨j, b, t, h1, h2, h3, h4⟩
  · simp [Region.wanted, h]
  · have e := h4 _ _ (hd t h3); have e2 : a.tmps[t]? = some (.bool b) := by
      rw [Array.getD_eq_getD_getElem?] at e
      cases hx : a.tmps[t]? with
      | none => rw [hx] at e; simp [undef] at e
      | some v => rw [hx] at e; simpa using e
    simp [Region.wanted, h1, yielded, h2, e2]
theorem ok_val (hw : Wanted ops A o) (hdst : o.dst = some d)
    (h : ∀ (a : Act) (w : World), Ext w0 w → (∀ t, (dstSlots ops).contains t = false → a.tmps.getD t undef = a0.tmps.getD t undef) → (∀ t, (depSlots ops o).contains t = true → A t (a.tmps.getD t undef) w) →
      ∃ v w', (execOp a.eval o).run P w = .ok (.value v) w' ∧ A d v w' ∧ Ext w w') : StepOk P ops Q A a0 w0 o := by
  intro a w hx hf hd K hK; rw [if_pos (wanted_of hw hd)]; obtain ⟨v, w', h1, h2, h3⟩ := h a w hx hf hd; unfold Oper.wp; rw [h1]; exact hK v w' (fun d' hd' => by rw [hdst] at hd'; cases hd'; exact h2) h3
theorem run_enter (f : FuncId) (fn : Func) (hf : P.funcs[f]? = some fn) (hn : (fn.name == "runtime.NumGoroutine") = false) (hb : fn.body.isNone = false) (args : Array Value) (w : World) :
    (callFunc f args).run P w = .ok (.enter f args) w := by
  have hb' : fn.body ≠ none := by intro e; rw [e] at hb; cases hb
  have hn' : fn.name ≠ "runtime.NumGoroutine" := by simpa using hn
  simp [callFunc, hf, hn', hb']
theorem ok_call (hw : Wanted ops A o) (hdst : o.dst = some d) (f : FuncId) (xs : Array Operand) (ats : Array TypeId) (hE : ∀ args w, (callFunc f args).run P w = .ok (.enter f args) w)
    (ho : o.op = .call { callee := .value (.func f), args := xs, argTypes := ats })
    (h : ∀ (a : Act) (w : World), Ext w0 w → (∀ t, (dstSlots ops).contains t = false → a.tmps.getD t undef = a0.tmps.getD t undef) → (∀ t, (depSlots ops o).contains t = true → A t (a.tmps.getD t undef) w) →
      Calls P f (xs.map a.eval) w fun e w' => ∃ v, e = .returned v ∧ A d v w' ∧ Ext w w') : StepOk P ops Q A a0 w0 o := by
  intro a w hx hf hd K hK; rw [if_pos (wanted_of hw hd)]; have hc := h a w hx hf hd; obtain ⟨dst, op, ty, pos, after, guard⟩ := o; subst ho; have hrun : (execOp a.eval { dst := dst, op := .call { callee := .value (.func f), args := xs, argTypes := ats }, type := ty, pos := pos, after := after, guard := guard }).run P w = .ok (.enter f (xs.map a.eval)) w := by
    rw [execOp_call_go]; have e : #[] ++ xs.map a.eval ++ #[] = xs.map a.eval := by simp
    rw [e]; exact hE _ w
  unfold Oper.wp; rw [hrun, Oper.upon_enter]; refine hc.mono ?_; rintro e w' ⟨v, rfl, h2, h3⟩; exact hK v w' (fun d' hd' => by simp only at hdst hd'; rw [hdst] at hd'; cases hd'; exact h2) h3
theorem ok_move (hw : Wanted ops A o) (hdst : o.dst = some d) (x : Tmp) (ho : o.op = .move (.tmp x) ∨ o.op = .assign (.tmp x)) (hs : (depSlots ops o).contains x = true)
    (hF : ∀ v w, A x v w → A d v w) : StepOk P ops Q A a0 w0 o :=
  ok_val hw hdst fun a w hx hf hd => ⟨a.tmps.getD x undef, w, by rcases ho with ho | ho <;> simp [execOp, ho, Act.eval], hF _ _ (hd x hs), Ext.refl _⟩
theorem ok_fixed (hw : Wanted ops A o) (hdst : o.dst = some d) (x : Tmp) (v0 : Value) (ho : o.op = .move (.tmp x) ∨ o.op = .assign (.tmp x)) (hs : (dstSlots ops).contains x = false)
    (hv : a0.tmps.getD x undef = v0) (hF : ∀ w, Ext w0 w → A d v0 w) : StepOk P ops Q A a0 w0 o :=
  ok_val hw hdst fun a w hx hf hd => ⟨a.tmps.getD x undef, w, by rcases ho with ho | ho <;> simp [execOp, ho, Act.eval], by rw [hf x hs, hv]; exact hF w hx, Ext.refl _⟩
theorem oconv_str (w : World) (ao : Option Addr) (n cap : Nat) (bs : List UInt8) (hl : bs.length = n) (h : RdV w ao cap (bs.map B)) :
    (convert 22 9 (.slice ao n cap)).run Tryz.prog w = .ok (.string ⟨bs.toArray⟩) w := by
  subst hl
  cases ao with
  | none =>
    have h0 := h.nil rfl; have hle := h.le; have hy : bs = [] := List.eq_nil_of_length_eq_zero (by simp at hle; omega); subst hy; rw [run_convert_bytes_string w 22 9 5 none _ cap Tryz.underlying22 Tryz.underlying5 Tryz.underlying9]; simp [Conv.bytesToString, Sem.run_pure]; rfl
  | some a =>
    refine run_convert_bytes_back w 22 9 5 a cap bs Tryz.underlying22 Tryz.underlying5 Tryz.underlying9 fun j hj => ?_; have := h.news a rfl j (B bs[j]) (by simp [hj]); exact this
theorem ok_is (hw : Wanted ops A o) (hdst : o.dst = some d) (f : FuncId) (xs : Array Operand) (ats : Array TypeId) (hE : ∀ args w, (callFunc f args).run P w = .ok (.enter f args) w)
    (ho : o.op = .call { callee := .value (.func f), args := xs, argTypes := ats }) (v : Value)
    (h : ∀ (a : Act) (w : World), Ext w0 w → (∀ t, (dstSlots ops).contains t = false → a.tmps.getD t undef = a0.tmps.getD t undef) → (∀ t, (depSlots ops o).contains t = true → A t (a.tmps.getD t undef) w) → Calls P f (xs.map a.eval) w fun e w' => e = .returned v ∧ Ext w w')
    (hF : ∀ w, A d v w) : StepOk P ops Q A a0 w0 o :=
  ok_call hw hdst f xs ats hE ho fun a w hx hf hd => (h a w hx hf hd).mono fun e w' ⟨h1, h3⟩ => ⟨_, h1, hF w', h3⟩
end
end Go.Proofs.YtenlampiiodkhaaGreatDoor
namespace Go.Proofs.YtenlampiiodkhaaGreatDoor
set_option linter.unusedVariables false
open Go.RowKit
def putAll (vs : Nat → Value) : List Nat → Act → Act
  | [], x => x
  | d :: r, x => putAll vs r (x.put (some d) (vs d))
theorem act_puts (a : Act) (ds : List Nat) : ∀ x : Act, a.tmps.size = x.tmps.size → a.defers = x.defers → (∀ t, ds.contains t = false → a.tmps.getD t undef = x.tmps.getD t undef) → a = putAll (fun d => a.tmps.getD d undef) ds x := by
  induction ds with
  | nil =>
    intro x hs hd hf; obtain ⟨t, df⟩ := a; obtain ⟨t', df'⟩ := x; simp only at hs hd hf; subst hd; have e : t = t' := by
      apply Array.ext hs; intro i h1 h2; have := hf i (by simp); simpa [h1, h2] using this
    rw [e]; rfl
  | cons d r ih =>
    intro x hs hd hf; refine ih (x.put (some d) (a.tmps.getD d undef)) (by simpa [Act.put] using hs) hd fun t ht => ?_; by_cases e : t = d
    · subst e; rcases Nat.lt_or_ge t x.tmps.size with h | h
      · simp [Act.put, h]
      · have h2 : a.tmps.size ≤ t := by omega
        simp [Act.put, h, h2]
    · have hne : d ≠ t := fun h => e h.symm; rw [hf t (by simp only [List.contains_cons, ht, Bool.or_false]; simpa using e)]; simp [Act.put, hne]
section
variable {P : Program} {ops : Array Oper} {Q : Exit → Act → World → Prop} {A : Tmp → Value → World → Prop} {a0 : Act} {w0 : World}
theorem wp_region_open2 {id : Nat} (ds : List Nat) (hds : dstSlots ops = ds) (hm : P.follows .mixedOrders = true) (fine : fineB ops a0.tmps.size = true) (hA : ∀ t v w w', A t v w → Ext w w' → A t v w')
    (steps : ∀ (i : Nat) (o : Oper), ops[i]? = some o → StepOk P ops Q A a0 w0 o)
    (hend : ∀ (vs : Nat → Value) w, Ext w0 w → (∀ t, ds.contains t = true → A t (vs t) w) → Q .normal (putAll vs ds a0) w) : (Code.region id ops true).wp P Q a0 w0 := by
  subst hds; refine wp_region_open hm fine hA steps fun a w hx hsz hdef hfix hkn => ?_; rw [act_puts a (dstSlots ops) a0 hsz hdef hfix]; exact hend (fun d => a.tmps.getD d undef) w hx hkn
end
end Go.Proofs.YtenlampiiodkhaaGreatDoor
