/-
  What it means that a slice value reads as cells, for elements of one cell each; what stays while nothing old turns; append to a row of the call's own. Nothing is proved of the program here.
-/
import Derived.Test.YtilmkmplaehcaaaDoorProg
import Derived.KernelRfl
import Derived.WalkKit
import Derived.ProofKit
import Derived.OpenShut
import Derived.Below
import Derived.WalkSpells
import Derived.WalkLawsBesides
import Derived.Laws.AppendOwnNone
import Derived.Deep.QuietTactic
import Derived.BigQuiet
import Derived.Lib.SlBytesConst
namespace Go.Proofs.YtilmkmplaehcaaaDoor
set_option linter.unusedVariables false
open Go.RowKit

theorem hide {p : Prop} (h : p) : Hid p := h
theorem unhide {p : Prop} (h : Hid p) : p := h
theorem ret_int {k : IntKind} {a b : Int} (h : a = b) : Ending.returned (.int k a) = .returned (.int k b) := by rw [h]

/-- Nothing that was there has turned. -/
def Ext (w w' : World) : Prop := Below w.heap.size w w'

theorem Ext.refl (w : World) : Ext w w := Below.refl _ _
theorem Ext.trans {a b c : World} (h : Ext a b) (k : Ext b c) : Ext a c := Below.trans h (Below.mono k h.size)
theorem Ext.drew (w : World) : Ext w w.drew := (Below.refl _ _).drew
theorem Ext.drewN (w : World) (n : Nat) : Ext w (w.drewN n) := below_drewN (Below.refl _ _) n
theorem Ext.alloc (w : World) (o : Obj) : Ext w (w.alloc o) := (Below.refl _ _).alloc (Nat.le_refl _) _
theorem Ext.then {a b c : World} {B : Nat} (h : Ext a b) (k : Below B b c) (hB : a.heap.size ≤ B) : Ext a c := Below.trans h (Below.mono k hB)

/-- The slice value with this address and capacity reads as these cells. -/
structure RdV (w : World) (ao : Option Addr) (cap : Nat) (vs : List Value) : Prop where
  le : vs.length ≤ cap
  max : cap ≤ 9223372036854775807
  nil : ao = none → cap = 0
  cell : ∀ i, i < vs.length → ∃ b off, ao = some ⟨b, off, none⟩ ∧ w.cell? ⟨b, off + i, none⟩ = vs[i]?

theorem cell_lt {w : World} {a : Addr} {v : Value} (h : w.cell? a = some v) : a.block < w.heap.size := by
  rcases Nat.lt_or_ge a.block w.heap.size with h' | h'
  · exact h'
  · simp [World.cell?, Array.getElem?_eq_none h'] at h

theorem RdV.below {w w' : World} {ao : Option Addr} {cap : Nat} {vs : List Value} (h : RdV w ao cap vs) (hb : Ext w w') : RdV w' ao cap vs := by
  refine ⟨h.le, h.max, h.nil, fun i hi => ?_⟩
  obtain ⟨b, off, e, hc⟩ := h.cell i hi
  refine ⟨b, off, e, ?_⟩
  rw [← hc]
  rw [List.getElem?_eq_getElem hi] at hc
  exact hb.cell (p := ⟨b, off + i, none⟩) (cell_lt hc)

theorem RdV.lt {w : World} {ao : Option Addr} {cap : Nat} {vs : List Value} (h : RdV w ao cap vs) (hb : 0 < vs.length) : ∃ b off, ao = some ⟨b, off, none⟩ ∧ b < w.heap.size := by
  obtain ⟨b, off, e, hc⟩ := h.cell 0 hb
  rw [List.getElem?_eq_getElem hb] at hc
  exact ⟨b, off, e, cell_lt (a := ⟨b, off + 0, none⟩) hc⟩

/-- All cells at once, at one address. -/
theorem RdV.cells {w : World} {ao : Option Addr} {cap : Nat} {vs : List Value} (h : RdV w ao cap vs) (hb : 0 < vs.length) : ∃ b off, ao = some ⟨b, off, none⟩ ∧ ∀ i, i < vs.length → w.cell? ⟨b, off + i, none⟩ = vs[i]? := by
  obtain ⟨b, off, e, _⟩ := h.cell 0 hb
  refine ⟨b, off, e, fun i hi => ?_⟩
  obtain ⟨b', off', e', hc⟩ := h.cell i hi
  rw [e] at e'
  simp only [Option.some.injEq, Addr.mk.injEq] at e'
  obtain ⟨rfl, rfl, _⟩ := e'
  exact hc

theorem RdV.nothing (w : World) : RdV w none 0 [] := ⟨Nat.le_refl _, by omega, fun _ => rfl, fun i hi => by simp at hi⟩

theorem RdV.take {w : World} {ao : Option Addr} {cap : Nat} {vs : List Value} (h : RdV w ao cap vs) (k : Nat) : RdV w ao cap (vs.take k) := by
  refine ⟨by have := h.le; simp; omega, h.max, h.nil, fun i hi => ?_⟩
  have hi' : i < k ∧ i < vs.length := by rw [List.length_take] at hi; omega
  obtain ⟨b, off, e, hc⟩ := h.cell i hi'.2
  refine ⟨b, off, e, ?_⟩
  rw [hc, List.getElem?_take, if_pos hi'.1]

theorem RdV.drop {w : World} {ao : Option Addr} {cap : Nat} {vs : List Value} (h : RdV w ao cap vs) (k : Nat) (hk : k ≤ cap) : RdV w (if cap = k then ao else ao.map (·.add k)) (cap - k) (vs.drop k) := by
  refine ⟨by have := h.le; simp; omega, by have := h.max; omega, fun e => ?_, fun i hi => ?_⟩
  · by_cases hc : cap = k
    · omega
    · rw [if_neg hc] at e
      have := h.nil (by simpa using e)
      omega
  · have hi' : i + k < vs.length := by simp at hi; omega
    have := h.le
    rw [if_neg (by omega)]
    obtain ⟨b, off, e, hc⟩ := h.cell (k + i) (by omega)
    by_cases hk0 : k = 0
    · subst hk0
      exact ⟨b, off, by rw [e]; simp [Addr.add], by simpa using hc⟩
    · refine ⟨b, off + k, by rw [e]; simp [Addr.add, hk0], ?_⟩
      rw [Nat.add_assoc, hc]
      simp

theorem RdV.news {w : World} {ao : Option Addr} {cap : Nat} {vs : List Value} (h : RdV w ao cap vs) : ∀ ad, ao = some ad → ∀ j u, vs[j]? = some u → w.cell? (ad.add j) = some u := by
  intro ad had j u hu
  have hj : j < vs.length := (List.getElem?_eq_some_iff.1 hu).1
  obtain ⟨b, off, e, hc⟩ := h.cell j hj
  rw [had] at e
  obtain rfl := Option.some.inj e
  rw [Addr.add_lit, hc, hu]

theorem RdV.of_owned {w : World} {base e n : Nat} {v : Value} {vs : List Value} (h : w.ownsRow base e 1 v n vs) : ∃ ao cap, v = .slice ao n cap ∧ RdV w ao cap vs ∧ vs.length = n := by
  have hl : vs.length = n := by have := h.1; omega
  subst hl
  rcases h.2 with ⟨rfl, h0⟩ | ⟨g, cap, cur, rfl, _, hb, hl, hm, hs, ht⟩
  · refine ⟨none, 0, by rw [h0], ⟨by omega, by omega, fun _ => rfl, fun i hi => by omega⟩, rfl⟩
  · refine ⟨_, cap, rfl, ⟨hl, by unfold maxLen at hm; omega, fun e => (by cases e), fun i hi => ⟨g, 0, rfl, ?_⟩⟩, rfl⟩
    rw [Nat.zero_add, h.cellAt i (by omega)]

theorem RdV.of_owned_at {w : World} {base e n cap : Nat} {ao : Option Addr} {vs : List Value} (h : w.ownsRow base e 1 (.slice ao n cap) n vs) : RdV w ao cap vs := by
  obtain ⟨a, c, e, hr, _⟩ := RdV.of_owned h
  simp only [Value.slice.injEq] at e
  obtain ⟨rfl, _, rfl⟩ := e
  exact hr

/-- A block that a literal has laid. -/
theorem RdV.lit (w : World) (vs : List Value) (t : TypeId) (fz : Nat × Nat) (hm : vs.length ≤ 9223372036854775807) : RdV (w.alloc (.cells vs.toArray t fz)) (some ⟨w.heap.size, 0, none⟩) vs.length vs :=
  ⟨Nat.le_refl _, hm, fun e => (by cases e), fun i hi => ⟨w.heap.size, 0, rfl, by rw [Nat.zero_add, World.cell?_alloc_mark]; simp⟩⟩

theorem owns_below {w w' : World} {base e size : Nat} {v : Value} {n : Nat} {xs : List Value} (h : w.ownsRow base e size v n xs) (hb : Ext w w') : w'.ownsRow base e size v n xs := by
  refine ⟨h.1, ?_⟩
  rcases h.2 with h | ⟨g, cap, cur, h1, h2, h3, h4⟩
  · exact .inl h
  · refine .inr ⟨g, cap, cur, h1, h2, ?_, h4⟩
    rw [hb.block g ?_]
    · exact h3
    · rcases Nat.lt_or_ge g w.heap.size with h' | h'
      · exact h'
      · simp [Array.getElem?_eq_none h'] at h3

theorem owns_mono {w : World} {base base' e size : Nat} {v : Value} {n : Nat} {xs : List Value} (h : w.ownsRow base e size v n xs) (hb : base' ≤ base) : w.ownsRow base' e size v n xs :=
  ⟨h.1, h.2.imp id fun ⟨g, c, cur, e1, e2, e3⟩ => ⟨g, c, cur, e1, Nat.le_trans hb e2, e3⟩⟩

theorem empty_own (w : World) (e : TypeId) : (w.alloc (.cells #[] e)).ownsRow w.heap.size e 1 (.slice (some ⟨w.heap.size, 0, none⟩) 0 0) 0 [] :=
  World.ownsRow_lit w #[] 0 (Nat.le_refl _) (by unfold maxLen; omega) rfl

/-- 'append(v, ys...)', v the call's own, whatever slice the second one is: elements of one cell. -/
theorem wpList_app {w : World} {ops : Array Oper} {rest : List Oper} {o : Oper} {a : Act} {Q : Exit → Act → World → Prop} (hgd : o.guard = none) (s x : Operand) (t e : TypeId) (z : Value) (bytes : Nat)
    (hT : Tryd.prog.underlying t = some (.slice e)) (hI : (Tryd.prog.info? e).map (fun i => (i.zero, i.size, i.bytes)) = some (some z, 1, bytes)) (hzs : z.cells.size = 1)
    (ho : o.op = .call { callee := .builtin .append, args := #[s, x], argTypes := #[t, t] })
    (base : Nat) (v : Value) (n : Nat) (xs : List Value) (hs : a.eval s = v) (hown : w.ownsRow base e 1 v n xs)
    (ao : Option Addr) (m c : Nat) (ys : List Value) (hx : a.eval x = .slice ao m c) (hl : ys.length = m) (hr : RdV w ao c ys) (hone : ∀ u ∈ ys, u.oneCell' = true) (hb : (n + m) * (bytes + 1) ≤ 140737488355328) (hbase : base ≤ w.heap.size)
    (h : ∀ v' w', w'.ownsRow base e 1 v' (n + m) (xs ++ ys) → Below base w w' → wpList Tryd.prog ops Q rest (a.put o.dst v') w') : wpList Tryd.prog ops Q (o :: rest) a w := by
  obtain ⟨i0, hi, hz0, hz1, hz2⟩ := info_parts hI
  have hb1 : (n + m) * bytes ≤ 140737488355328 := Nat.le_trans (Nat.mul_le_mul_left _ (by omega)) hb
  have hb2 : n + m ≤ 140737488355328 := Nat.le_trans (by rw [Nat.mul_add, Nat.mul_one]; omega) hb
  cases ao with
  | some ad =>
    refine wpList_append_own _ hgd s x t ho base e i0 z 1 bytes hT hi hz0 hz1 hz2 hzs (by decide) v n xs hs hown ad m c ys hx (by omega) (hr.news ad rfl) hone (by unfold maxLen; omega) hb1 hbase ?_
    intro v' w' h1 h2 _
    exact h v' w' h1 ((Below.refl _ _).grown h2 hbase (fun t ht => (hown.lt t ht).1))
  | none =>
    have h0 := hr.nil rfl
    have hle := hr.le
    have hy : ys = [] := List.eq_nil_of_length_eq_zero (by omega)
    subst hy
    have hm : m = 0 := by simpa using hl.symm
    subst hm
    subst h0
    refine wpList_append_own_none hgd s x t ho base e i0 1 hT hi v n xs hs hown hx ?_
    exact h v w (by simpa using hown) (Below.refl _ _)

/-- An answer that is a slice in new memory (or nil) that reads as these cells; what was there stays. -/
def Gives (w : World) (vs : List Value) (e : Ending) (w' : World) : Prop :=
  ∃ ao cap, e = .returned (.slice ao vs.length cap) ∧ RdV w' ao cap vs ∧ Ext w w'

theorem gives_of_owned {w w' : World} {base e n : Nat} {v : Value} {vs : List Value} (h : w'.ownsRow base e 1 v n vs) (hb : Ext w w') : Gives w vs (.returned v) w' := by
  obtain ⟨ao, cap, rfl, hr, hn⟩ := RdV.of_owned h
  exact ⟨ao, cap, by rw [hn], hr, hb⟩

/-- A byte as a cell; a code point as a cell. -/
abbrev B (x : UInt8) : Value := .int .u8 (x.toNat : Int)
abbrev R (r : Int) : Value := .int .i32 r

theorem one_B (bs : List UInt8) : ∀ u ∈ bs.map B, u.oneCell' = true := by
  intro u hu
  obtain ⟨x, _, rfl⟩ := List.mem_map.1 hu
  rfl
theorem one_R (rs : List Int) : ∀ u ∈ rs.map R, u.oneCell' = true := by
  intro u hu
  obtain ⟨x, _, rfl⟩ := List.mem_map.1 hu
  rfl

theorem getB (bs : List UInt8) (i : Nat) (h : i < bs.length) : (bs.map B)[i]? = some (B (bs.getD i 0)) := by simp [List.getD, h]
theorem getR (rs : List Int) (i : Nat) (h : i < rs.length) : (rs.map R)[i]? = some (R (rs.getD i 0)) := by simp [List.getD, h]

theorem take_snoc {α : Type} (bs : List α) (k : Nat) (d : α) (h : k < bs.length) : bs.take (k + 1) = bs.take k ++ [bs.getD k d] := by
  rw [List.take_succ_eq_append_getElem h]
  simp [List.getD, h]

/-- An argument of bytes reads as bytes. -/
theorem rd_bytes {w : World} {a : Option Addr} {len cap : Nat} {zs : List Int}
    (h : (a = none ∧ len = 0 ∧ cap = 0 ∧ zs = []) ∨ ∃ x, a = some x ∧ len ≤ cap ∧ cap ≤ maxLen ∧ zs.length = cap ∧ (∀ i, i < zs.length → w.cell? (x.add i) = some (.int .u8 (zs.getD i 0))) ∧ ∀ n ∈ zs, (Lit.int .u8 n).wf = true) :
    ∃ bs : List UInt8, bs.length = len ∧ RdV w a cap (bs.map B) := by
  rcases h with ⟨rfl, rfl, rfl, rfl⟩ | ⟨x, rfl, hl, hm, hz, hc, hw⟩
  · exact ⟨[], rfl, RdV.nothing w⟩
  · refine ⟨(zs.take len).map fun z => UInt8.ofNat z.toNat, by simp; omega, ⟨by simp; omega, by unfold maxLen at hm; omega, fun e => (by cases e), fun i hi => ?_⟩⟩
    have hi' : i < len ∧ i < zs.length := by simp at hi; omega
    have hci := hc i hi'.2
    obtain ⟨b, off, spot⟩ := x
    have hs : spot = none := by simpa [Addr.add] using World.cell?_spot (hc 0 (by omega))
    subst hs
    refine ⟨b, off, rfl, ?_⟩
    have hb := bounds_u8 (hw (zs.getD i 0) (by simp [List.getD, hi'.2]))
    rw [Addr.add_lit] at hci
    rw [hci, getB _ _ (by simpa using hi)]
    have e : (((zs.take len).map fun z => UInt8.ofNat z.toNat).getD i 0).toNat = ((zs.getD i 0).toNat) % 256 := by
      simp [List.getD, hi'.1, hi'.2]
    simp only [B, e]
    congr 2
    omega

/-- An argument of code points reads as numbers. -/
theorem rd_runes {w : World} {a : Option Addr} {len cap : Nat} {zs : List Int}
    (h : (a = none ∧ len = 0 ∧ cap = 0 ∧ zs = []) ∨ ∃ x, a = some x ∧ len ≤ cap ∧ cap ≤ maxLen ∧ zs.length = cap ∧ (∀ i, i < zs.length → w.cell? (x.add i) = some (.int .i32 (zs.getD i 0))) ∧ ∀ n ∈ zs, (Lit.int .i32 n).wf = true) :
    ∃ rs : List Int, rs.length = len ∧ (∀ r ∈ rs, -2147483648 ≤ r ∧ r ≤ 2147483647) ∧ RdV w a cap (rs.map R) := by
  rcases h with ⟨rfl, rfl, rfl, rfl⟩ | ⟨x, rfl, hl, hm, hz, hc, hw⟩
  · exact ⟨[], rfl, by simp, RdV.nothing w⟩
  · refine ⟨zs.take len, by simp; omega, fun r hr => bounds_i32 (hw r (List.mem_of_mem_take hr)), ⟨by simp; omega, by unfold maxLen at hm; omega, fun e => (by cases e), fun i hi => ?_⟩⟩
    have hi' : i < len ∧ i < zs.length := by simp at hi; omega
    have hci := hc i hi'.2
    obtain ⟨b, off, spot⟩ := x
    have hs : spot = none := by simpa [Addr.add] using World.cell?_spot (hc 0 (by omega))
    subst hs
    refine ⟨b, off, rfl, ?_⟩
    rw [Addr.add_lit] at hci
    rw [hci, getR _ _ (by simpa using hi)]
    simp [List.getD, hi'.1]
end Go.Proofs.YtilmkmplaehcaaaDoor
