/-
  Rows of pairs of texts: what lies there, what append leaves, loads and addresses.
-/
import Derived.Test.YtilmkmplaehcaaaDoorGen
import Derived.Test.YtilmkmplaehcaaaDoorStr
import Derived.Test.YtilmkmplaehcaaaDoorQryP
import Derived.Laws.OwnMore
namespace Go.Proofs.YtilmkmplaehcaaaDoor
set_option linter.unusedVariables false
open Go.RowKit

/-- Pairs as cells. -/
def cellsP : List Pr → List Value
  | [] => []
  | p :: r => S p.1 :: S p.2 :: cellsP r
theorem cellsP_len : ∀ l : List Pr, (cellsP l).length = l.length * 2
  | [] => rfl
  | p :: r => by
    have := cellsP_len r
    simp only [cellsP, List.length_cons]
    omega
theorem cellsP_app : ∀ a b : List Pr, cellsP (a ++ b) = cellsP a ++ cellsP b
  | [], _ => rfl
  | p :: a, b => by
    rw [List.cons_append, cellsP, cellsP, cellsP_app a b]
    rfl
theorem cellsP_at : ∀ (l : List Pr) (i : Nat), i < l.length → (cellsP l)[i * 2]? = some (S (l.getD i ([], [])).1) ∧ (cellsP l)[i * 2 + 1]? = some (S (l.getD i ([], [])).2)
  | p :: r, 0, _ => ⟨rfl, rfl⟩
  | p :: r, i + 1, h => by
    have ih := cellsP_at r i (by simpa using h)
    have e : (i + 1) * 2 = i * 2 + 1 + 1 := by omega
    rw [e]
    simpa [cellsP] using ih
theorem cellsP_one (l : List Pr) : ∀ u ∈ cellsP l, u.oneCell' = true := by
  induction l with
  | nil => simp [cellsP]
  | cons p r ih =>
    intro u hu
    simp only [cellsP, List.mem_cons] at hu
    rcases hu with rfl | rfl | hu
    · rfl
    · rfl
    · exact ih u hu

/-- The slice value with this address and capacity reads as these pairs. -/
structure RdP (w : World) (ao : Option Addr) (cap : Nat) (l : List Pr) : Prop where
  le : l.length ≤ cap
  max : cap ≤ 9223372036854775807
  nil : ao = none → cap = 0
  cell : ∀ i, i < l.length → ∃ b off, ao = some ⟨b, off, none⟩ ∧ w.cell? ⟨b, off + i * 2, none⟩ = some (S (l.getD i ([], [])).1) ∧ w.cell? ⟨b, off + i * 2 + 1, none⟩ = some (S (l.getD i ([], [])).2)
theorem RdP.below {w w' : World} {ao : Option Addr} {cap : Nat} {l : List Pr} (h : RdP w ao cap l) (hx : Ext w w') : RdP w' ao cap l :=
  ⟨h.le, h.max, h.nil, fun i hi => by
    obtain ⟨b, off, e, h1, h2⟩ := h.cell i hi
    exact ⟨b, off, e, (hx.cell (p := ⟨b, off + i * 2, none⟩) (cell_lt h1)).trans h1, (hx.cell (p := ⟨b, off + i * 2 + 1, none⟩) (cell_lt h2)).trans h2⟩⟩
theorem RdP.nothing (w : World) : RdP w none 0 [] := ⟨Nat.le_refl _, by omega, fun _ => rfl, fun i hi => by simp at hi⟩
theorem RdP.of_owned {w : World} {base : Nat} {ao : Option Addr} {cap : Nat} {l : List Pr} (h : w.ownsRow base 25 2 (.slice ao l.length cap) l.length (cellsP l)) : RdP w ao cap l := by
  rcases h.2 with ⟨hv, h0⟩ | ⟨g, c, cur, hv, hbg, hg, hnc, hcm, hcs, htake⟩
  · simp only [Value.slice.injEq] at hv
    obtain ⟨rfl, hl, rfl⟩ := hv
    have hl' : l = [] := List.eq_nil_of_length_eq_zero hl
    subst hl'
    exact RdP.nothing w
  · simp only [Value.slice.injEq] at hv
    obtain ⟨rfl, _, rfl⟩ := hv
    refine ⟨hnc, by unfold maxLen at hcm; omega, fun e => (by cases e), fun i hi => ⟨g, 0, rfl, ?_⟩⟩
    have h1 := h.cellAt (i * 2) (by omega)
    have h2 := h.cellAt (i * 2 + 1) (by omega)
    rw [(cellsP_at l i hi).1] at h1
    rw [(cellsP_at l i hi).2] at h2
    exact ⟨by rw [Nat.zero_add]; exact h1, by rw [Nat.zero_add]; exact h2⟩
theorem RdP.cells {w : World} {ao : Option Addr} {cap : Nat} {l : List Pr} (h : RdP w ao cap l) (h0 : 0 < l.length) : ∃ b off, ao = some ⟨b, off, none⟩ ∧ ∀ i, i < l.length → w.cell? ⟨b, off + i * 2, none⟩ = some (S (l.getD i ([], [])).1) ∧ w.cell? ⟨b, off + i * 2 + 1, none⟩ = some (S (l.getD i ([], [])).2) := by
  obtain ⟨b, off, rfl, _⟩ := h.cell 0 h0
  refine ⟨b, off, rfl, fun i hi => ?_⟩
  obtain ⟨b', off', e, h1, h2⟩ := h.cell i hi
  simp only [Option.some.injEq, Addr.mk.injEq] at e
  obtain ⟨rfl, rfl, _⟩ := e
  exact ⟨h1, h2⟩
theorem RdP.news {w : World} {ad : Addr} {cap : Nat} {l : List Pr} (h : RdP w (some ad) cap l) : ∀ j u, (cellsP l)[j]? = some u → w.cell? (ad.add j) = some u := by
  intro j u hu
  have hj : j < (cellsP l).length := (List.getElem?_eq_some_iff.1 hu).1
  rw [cellsP_len] at hj
  have h0 : 0 < l.length := by omega
  obtain ⟨b, off, e, hc⟩ := h.cells h0
  simp only [Option.some.injEq] at e
  subst e
  rw [Addr.add_lit]
  have hi : j / 2 < l.length := by omega
  obtain ⟨c1, c2⟩ := hc (j / 2) hi
  obtain ⟨k1, k2⟩ := cellsP_at l (j / 2) hi
  rcases Nat.mod_two_eq_zero_or_one j with hm | hm
  · have ej : j = j / 2 * 2 := by omega
    rw [← ej] at c1 k1
    rw [c1, ← k1, hu]
  · have ej : j = j / 2 * 2 + 1 := by omega
    rw [← ej] at k2
    rw [Nat.add_assoc, ← ej] at c2
    rw [c2, ← k2, hu]
theorem RdP.lit (w : World) (p : Pr) (fz : Nat × Nat) : RdP (w.alloc (.cells #[S p.1, S p.2] 25 fz)) (some ⟨w.heap.size, 0, none⟩) 1 [p] := by
  refine ⟨Nat.le_refl _, by omega, fun e => (by cases e), fun i hi => ⟨w.heap.size, 0, rfl, ?_⟩⟩
  have : i = 0 := by simpa using hi
  subst this
  constructor <;> rw [World.cell?_alloc_mark] <;> rfl

theorem infoPr : (Tryd.prog.info? 25).map (fun i => (i.zero, i.size, i.bytes)) = some (some (.agg #[.string ⟨#[]⟩, .string ⟨#[]⟩]), 2, 32) := by kernel_rfl

theorem ownedP_some {w : World} {base n : Nat} {v : Value} {l : List Pr} (h : w.ownsRow base 25 2 v n (cellsP l)) : ∃ ao c, v = .slice ao n c ∧ n = l.length := by
  have hl := h.1
  rw [cellsP_len] at hl
  have hn : n = l.length := by omega
  rcases h.2 with ⟨hv, h0⟩ | ⟨g, c, cur, hv, _⟩
  · subst h0
    exact ⟨none, 0, hv, hn⟩
  · exact ⟨_, c, hv, hn⟩
theorem ownsP_below {w w' : World} {base n : Nat} {v : Value} {xs : List Value} (h : w.ownsRow base 25 2 v n xs) (hx : Ext w w') : w'.ownsRow base 25 2 v n xs := owns_below h hx

/-- append of pairs to a row of the call's own. -/
theorem wpList_appP {w : World} {ops : Array Oper} {rest : List Oper} {o : Oper} {a : Act} {Q : Exit → Act → World → Prop} (hgd : o.guard = none) (s x : Operand)
    (ho : o.op = .call { callee := .builtin .append, args := #[s, x], argTypes := #[22, 22] })
    (base : Nat) (v : Value) (l : List Pr) (hs : a.eval s = v) (hown : w.ownsRow base 25 2 v l.length (cellsP l))
    (ao : Option Addr) (c : Nat) (ys : List Pr) (hx : a.eval x = .slice ao ys.length c) (hr : RdP w ao c ys) (hb : (l.length + ys.length) * 33 ≤ 140737488355328) (hbase : base ≤ w.heap.size)
    (h : ∀ v' w', w'.ownsRow base 25 2 v' (l.length + ys.length) (cellsP (l ++ ys)) → Below base w w' → wpList Tryd.prog ops Q rest (a.put o.dst v') w') : wpList Tryd.prog ops Q (o :: rest) a w := by
  obtain ⟨i0, hi, hz0, hz1, hz2⟩ := info_parts infoPr
  cases ao with
  | some ad =>
    refine wpList_append_own _ hgd s x 22 ho base 25 i0 (.agg #[.string ⟨#[]⟩, .string ⟨#[]⟩]) 2 32 Tryd.underlying22 hi hz0 hz1 hz2 rfl (by decide) v l.length (cellsP l) hs hown ad ys.length c (cellsP ys) hx (cellsP_len ys) hr.news (cellsP_one ys) (by unfold maxLen; omega) (by omega) hbase ?_
    intro v' w' h1 h2 _
    rw [← cellsP_app] at h1
    exact h v' w' h1 ((Below.refl _ _).grown h2 hbase (fun t ht => (hown.lt t ht).1))
  | none =>
    have h0 := hr.nil rfl
    have hle := hr.le
    have hy : ys = [] := List.eq_nil_of_length_eq_zero (by omega)
    subst hy
    subst h0
    refine wpList_append_own_none hgd s x 22 ho base 25 i0 2 Tryd.underlying22 hi v l.length (cellsP l) hs hown hx ?_
    exact h v w (by simpa using hown) (Below.refl _ _)

theorem size25 (w : World) : (sizeOf 25).run Tryd.prog w = .ok 2 w := by kernel_rfl
theorem addr_P (w : World) (b off n cap j : Nat) (hj : j < n) : (Instr.indexAt 22 (.slice (some ⟨b, off, none⟩) n cap) (.int .i64 (j : Int))).run Tryd.prog w = .ok (.pointer (some ⟨b, off + j * 2, none⟩)) w := by
  have he : Tryd.prog.elem 22 = 25 := by kernel_rfl
  rw [run_indexAt_slice w 22 ⟨b, off, none⟩ n cap .i64 (j : Int) (by rw [he]; exact Tryd.underlying22), if_pos ⟨by omega, by omega⟩, he, size25]
  simp only [Result.andThen]
  rw [Addr.add_lit]
  simp
theorem load_S {w : World} {p : Addr} {s : List UInt8} (h : w.cell? p = some (S s)) : (Instr.loadAt 9 (.pointer (some p))).run Tryd.prog w = .ok (S s) w := by
  have hu := Tryd.underlying9
  simp [Instr.loadAt, Instr.sureAddr, loadVar, isAgg, run_underlying hu, h]
theorem load_P {w : World} {b off : Nat} {p : Pr} (h1 : w.cell? ⟨b, off, none⟩ = some (S p.1)) (h2 : w.cell? ⟨b, off + 1, none⟩ = some (S p.2)) : (Instr.loadAt 25 (.pointer (some ⟨b, off, none⟩))).run Tryd.prog w = .ok (.agg #[S p.1, S p.2]) w := by
  have hu := Tryd.underlying25
  have hl := run_loadCells_list (P := Tryd.prog) w ⟨b, off, none⟩ [S p.1, S p.2] (by
    intro j v hj
    rw [Addr.add_lit]
    match j, hj with
    | 0, hj => simp at hj; rw [← hj]; exact h1
    | 1, hj => simp at hj; rw [← hj]; exact h2
    | j + 2, hj => simp at hj)
  simp only [List.length_cons, List.length_nil] at hl
  simp [Instr.loadAt, Instr.sureAddr, loadVar, isAgg, run_underlying hu, hl]
end Go.Proofs.YtilmkmplaehcaaaDoor
