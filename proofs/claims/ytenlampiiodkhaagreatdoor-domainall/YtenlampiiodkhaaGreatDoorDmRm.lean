/-
  For the document's ASCII: a row of rows whose last one grows; what stays when it does.
-/
import Derived.Test.YtenlampiiodkhaaGreatDoorMDo
import Derived.Test.YtenlampiiodkhaaGreatDoorMUa
namespace Go.Proofs.YtenlampiiodkhaaGreatDoor
set_option linter.unusedVariables false
open Go.RowKit

/-- A block of code points. -/
def IBk (w : World) (b : Nat) : Prop := ∃ X f, w.heap[b]? = some (.cells X 21 f)
/-- As RdL; every row's block is one of code points, below b0. -/
def RdLB (b0 : Nat) (w : World) (vs : List Value) (ls : List (List Int)) : Prop :=
  vs.length = ls.length ∧ ∀ i, i < ls.length → ∃ ao cap, vs[i]? = some (.slice ao (ls.getD i []).length cap) ∧ RdV w ao cap ((ls.getD i []).map R) ∧ ∀ b off, ao = some ⟨b, off, none⟩ → b < b0 ∧ IBk w b
theorem RdLB.nil (b0 : Nat) (w : World) : RdLB b0 w [] [] := ⟨rfl, fun i hi => by simp at hi⟩
theorem RdLB.rdl {b0 : Nat} {w : World} {vs : List Value} {ls : List (List Int)} (h : RdLB b0 w vs ls) : RdL w vs ls :=
  ⟨h.1, fun i hi => by obtain ⟨ao, cap, h1, h2, _⟩ := h.2 i hi; exact ⟨ao, cap, h1, h2⟩⟩
theorem RdV.keep {w w' : World} {ao : Option Addr} {cap : Nat} {vs : List Value} (h : RdV w ao cap vs) (hk : ∀ b off, ao = some ⟨b, off, none⟩ → w'.heap[b]? = w.heap[b]?) : RdV w' ao cap vs := by
  refine ⟨h.le, h.max, h.nil, fun i hi => ?_⟩
  obtain ⟨b, off, e, hc⟩ := h.cell i hi
  refine ⟨b, off, e, ?_⟩
  rw [← hc]
  exact World.cell?_of_block (hk b off e)
theorem RdLB.keep {b0 : Nat} {w w' : World} {vs : List Value} {ls : List (List Int)} (h : RdLB b0 w vs ls) (hk : ∀ b, b < b0 → IBk w b → w'.heap[b]? = w.heap[b]?) : RdLB b0 w' vs ls :=
  ⟨h.1, fun i hi => by
    obtain ⟨ao, cap, h1, h2, h3⟩ := h.2 i hi
    refine ⟨ao, cap, h1, h2.keep fun b off e => hk b (h3 b off e).1 (h3 b off e).2, fun b off e => ⟨(h3 b off e).1, ?_⟩⟩
    obtain ⟨X, f, hb⟩ := (h3 b off e).2
    exact ⟨X, f, by rw [hk b (h3 b off e).1 ⟨X, f, hb⟩]; exact hb⟩⟩
theorem RdLB.snoc {b0 b1 : Nat} {w : World} {vs : List Value} {ls : List (List Int)} (h : RdLB b0 w vs ls) (h01 : b0 ≤ b1) {ao : Option Addr} {cap : Nat} {l : List Int} (h2 : RdV w ao cap (l.map R)) (h3 : ∀ b off, ao = some ⟨b, off, none⟩ → b < b1 ∧ IBk w b) : RdLB b1 w (vs ++ [.slice ao l.length cap]) (ls ++ [l]) := by
  obtain ⟨e, hh⟩ := h
  refine ⟨by simp [e], fun i hi => ?_⟩
  simp only [List.length_append, List.length_singleton] at hi
  by_cases hi2 : i < ls.length
  · obtain ⟨ao', cap', h4, h5, h6⟩ := hh i hi2
    refine ⟨ao', cap', ?_, ?_, fun b off e => ⟨Nat.lt_of_lt_of_le (h6 b off e).1 h01, (h6 b off e).2⟩⟩
    · rw [List.getElem?_append_left (by omega), h4]
      simp [List.getD, hi2, List.getElem?_append_left hi2]
    · simpa [List.getD, hi2, List.getElem?_append_left hi2] using h5
  · have : i = ls.length := by omega
    subst this
    refine ⟨ao, cap, ?_, ?_, h3⟩
    · rw [← e]
      simp [List.getD, e]
    · simpa [List.getD] using h2
theorem owns_keep {w w' : World} {base e size : Nat} {v : Value} {n : Nat} {xs : List Value} (h : w.ownsRow base e size v n xs) (hk : ∀ b, v.ownBlock = some b → w'.heap[b]? = w.heap[b]?) : w'.ownsRow base e size v n xs := by
  refine ⟨h.1, ?_⟩
  rcases h.2 with h | ⟨g, cap, cur, rfl, h2, h3, h4⟩
  · exact .inl h
  · exact .inr ⟨g, cap, cur, rfl, h2, by rw [hk g rfl]; exact h3, h4⟩
/-- Blocks of code points and blocks of rows are apart. -/
theorem apart {w : World} {base n b : Nat} {v : Value} {xs : List Value} (h : w.ownsRow base 45 1 v n xs) (hb : IBk w b) : v.ownBlock ≠ some b := by
  intro e
  obtain ⟨X, f, hb⟩ := hb
  rcases h.2 with ⟨rfl, _⟩ | ⟨g, c, cur, rfl, _, h3, _⟩
  · simp [Value.ownBlock] at e
  · simp only [Value.ownBlock, Option.some.injEq] at e
    rw [e, hb] at h3
    simp at h3
theorem own_IBk {w : World} {base n b : Nat} {v : Value} {xs : List Value} (h : w.ownsRow base 21 1 v n xs) (e : v.ownBlock = some b) : IBk w b ∧ base ≤ b ∧ b < w.heap.size := by
  rcases h.2 with ⟨rfl, _⟩ | ⟨g, c, cur, rfl, h2, h3, _⟩
  · simp [Value.ownBlock] at e
  · simp only [Value.ownBlock, Option.some.injEq] at e
    subst e
    refine ⟨⟨_, _, h3⟩, h2, ?_⟩
    rcases Nat.lt_or_ge g w.heap.size with h' | h'
    · exact h'
    · simp [Array.getElem?_eq_none h'] at h3

/-- As wpList_app, telling which blocks stay. -/
theorem wpList_appG {w : World} {ops : Array Oper} {rest : List Oper} {o : Oper} {a : Act} {Q : Exit → Act → World → Prop} (hgd : o.guard = none) (s x : Operand) (t e : TypeId) (z : Value) (bytes : Nat)
    (hT : Tryz.prog.underlying t = some (.slice e)) (hI : (Tryz.prog.info? e).map (fun i => (i.zero, i.size, i.bytes)) = some (some z, 1, bytes)) (hzs : z.cells.size = 1)
    (ho : o.op = .call { callee := .builtin .append, args := #[s, x], argTypes := #[t, t] })
    (base : Nat) (v : Value) (n : Nat) (xs : List Value) (hs : a.eval s = v) (hown : w.ownsRow base e 1 v n xs)
    (ad : Addr) (m c : Nat) (ys : List Value) (hx : a.eval x = .slice (some ad) m c) (hl : ys.length = m) (hr : RdV w (some ad) c ys) (hone : ∀ u ∈ ys, u.oneCell' = true) (hb : (n + m) * (bytes + 1) ≤ 140737488355328) (hbase : base ≤ w.heap.size)
    (h : ∀ v' w', w'.ownsRow base e 1 v' (n + m) (xs ++ ys) → Below base w w' → (∀ b, b < w.heap.size → some b ≠ v.ownBlock → w'.heap[b]? = w.heap[b]?) → wpList Tryz.prog ops Q rest (a.put o.dst v') w') : wpList Tryz.prog ops Q (o :: rest) a w := by
  obtain ⟨i0, hi, hz0, hz1, hz2⟩ := info_parts hI
  have hb1 : (n + m) * bytes ≤ 140737488355328 := Nat.le_trans (Nat.mul_le_mul_left _ (by omega)) hb
  have hb2 : n + m ≤ 140737488355328 := Nat.le_trans (by rw [Nat.mul_add, Nat.mul_one]; omega) hb
  refine wpList_append_own _ hgd s x t ho base e i0 z 1 bytes hT hi hz0 hz1 hz2 hzs (by decide) v n xs hs hown ad m c ys hx (by omega) (hr.news ad rfl) hone (by unfold maxLen; omega) hb1 hbase ?_
  intro v' w' h1 h2 _
  exact h v' w' h1 ((Below.refl _ _).grown h2 hbase (fun t ht => (hown.lt t ht).1)) h2.block

/-- How it stands ahead of each code point: the rows before, and the last one, which grows. -/
def RelR (w : World) (ts : List Int) (v i : Value) (wr : World) : Prop :=
  ∃ (k g cap b0 c n : Nat) (vs : List Value) (a : Option Addr) (cur : List Int) (ls : List (List Int)), k ≤ ts.length ∧ n = vs.length ∧ n ≤ k ∧ cur.length ≤ k ∧ i = .int .i64 (k : Int) ∧ v = .slice (some ⟨g, 0, none⟩) (n + 1) cap ∧ Hid (¬ (65533 : Int) ∈ ts.take k) ∧ Hid (rows (ts.take k) = ls ++ [cur]) ∧ b0 ≤ wr.heap.size ∧
    wr.ownsRow w.heap.size 45 1 (.slice (some ⟨g, 0, none⟩) (n + 1) cap) (n + 1) (vs ++ [.slice a cur.length c]) ∧ RdLB b0 wr vs ls ∧ wr.ownsRow b0 21 1 (.slice a cur.length c) cur.length (cur.map R) ∧ w.heap.size ≤ b0 ∧ Below w.heap.size w wr

/-- A full stop: the last row is done, a new one begins. -/
theorem relR_dot {w wr w' : World} {ts : List Int} {k b0 c n : Nat} {vs : List Value} {a : Option Addr} {cur : List Int} {ls : List (List Int)} {v v' : Value} {xs : List Value} (hkl : k < ts.length) (hn : n = vs.length) (hnk : n ≤ k) (hx : ts.getD k 0 = 46) (HF : Hid (¬ (65533 : Int) ∈ ts.take k)) (HR : Hid (rows (ts.take k) = ls ++ [cur])) (hb0 : b0 ≤ wr.heap.size)
    (outer : wr.ownsRow w.heap.size 45 1 v (n + 1) xs) (hL : RdLB b0 wr vs ls) (own : wr.ownsRow b0 21 1 (.slice a cur.length c) cur.length (cur.map R)) (hbr : Below w.heap.size w w') (hsz : wr.heap.size ≤ w'.heap.size) (hk : ∀ b, b < wr.heap.size → some b ≠ v.ownBlock → w'.heap[b]? = wr.heap[b]?)
    (o : w'.ownsRow w.heap.size 45 1 v' (n + 1 + 1) ((vs ++ [.slice a cur.length c]) ++ [.slice none 0 0])) : RelR w ts v' (.int .i64 ((k : Int) + 1)) w' := by
  have ht := take_snoc ts k 0 hkl
  have hapart : ∀ b, b < wr.heap.size → IBk wr b → w'.heap[b]? = wr.heap[b]? := fun b hb hI => hk b hb (fun e => apart outer hI e.symm)
  have hL2 := hL.keep (w' := w') fun b hb hI => hapart b (by omega) hI
  have own2 := owns_keep own (w' := w') fun b e => hapart b (own_IBk own e).2.2 (own_IBk own e).1
  have hr2 := RdV.of_owned_at own2
  have hL3 := hL2.snoc (b1 := w'.heap.size) (by omega) hr2 (fun b off e => by
    have e' : (Value.slice a cur.length c).ownBlock = some b := by rw [e]; rfl
    exact ⟨(own_IBk own2 e').2.2, (own_IBk own2 e').1⟩)
  rcases o.2 with ⟨_, h0⟩ | ⟨g', cap', cur', hv, _⟩
  · omega
  · subst hv
    refine ⟨k + 1, g', cap', w'.heap.size, 0, n + 1, vs ++ [.slice a cur.length c], none, [], ls ++ [cur], by omega, by simp [hn], by omega, by simp, by simp, rfl, ?_, ?_, Nat.le_refl _, o, hL3, World.ownsRow_nil _ _ _ _, hbr.size, hbr⟩
    · show ¬ (65533 : Int) ∈ ts.take (k + 1)
      rw [ht, hx]
      intro h
      rcases List.mem_append.1 h with h | h
      · exact unhide HF h
      · simp at h
    · show rows (ts.take (k + 1)) = (ls ++ [cur]) ++ [[]]
      rw [ht, hx, rows_snoc_dot, unhide HR]
theorem set_end (vs : List Value) (u v : Value) : (vs ++ [u]).set vs.length v = vs ++ [v] := by simp
theorem block_set {w : World} {g m b : Nat} {v : Value} (h : b ≠ g) : (w.setCell ⟨g, m, none⟩ v).heap[b]? = w.heap[b]? := by
  have hne : g ≠ b := fun e => h e.symm
  simp [World.setCell, Array.getElem?_modify, hne]
/-- Any other code point: the last row grows by it. -/
theorem relR_row {w wr wA w2 : World} {ts : List Int} {k g cap b0 c n : Nat} {vs : List Value} {a : Option Addr} {cur : List Int} {ls : List (List Int)} {v2 : Value} {x : Int} (hkl : k < ts.length) (hn : n = vs.length) (hnk : n ≤ k) (hck : cur.length ≤ k) (hx : ts.getD k 0 = x) (h46 : x ≠ 46) (hfd : x ≠ 65533) (HF : Hid (¬ (65533 : Int) ∈ ts.take k)) (HR : Hid (rows (ts.take k) = ls ++ [cur])) (hb0 : b0 ≤ wr.heap.size)
    (outer : wr.ownsRow w.heap.size 45 1 (.slice (some ⟨g, 0, none⟩) (n + 1) cap) (n + 1) (vs ++ [.slice a cur.length c])) (hL : RdLB b0 wr vs ls) (own : wr.ownsRow b0 21 1 (.slice a cur.length c) cur.length (cur.map R)) (hwb : w.heap.size ≤ b0)
    (hA : ∀ b, b < wr.heap.size → wA.heap[b]? = wr.heap[b]?) (hAs : wr.heap.size ≤ wA.heap.size) (hbA : Below w.heap.size w wA)
    (own2 : w2.ownsRow b0 21 1 v2 (cur.length + 1) (cur.map R ++ [R x])) (b2 : Below b0 wA w2) (k2 : ∀ b, b < wA.heap.size → some b ≠ (Value.slice a cur.length c).ownBlock → w2.heap[b]? = wA.heap[b]?) :
    RelR w ts (.slice (some ⟨g, 0, none⟩) (n + 1) cap) (.int .i64 ((k : Int) + 1)) (w2.setCell ⟨g, n, none⟩ v2) ∧ w2.cell? ⟨g, n, none⟩ = some (.slice a cur.length c) ∧ w2.frozen? ⟨g, n, none⟩ = false := by
  have ht := take_snoc ts k 0 hkl
  have hg : g < wr.heap.size := (outer.lt g rfl).2
  have hgc : some g ≠ (Value.slice a cur.length c).ownBlock := fun e => apart outer (own_IBk own e.symm).1 rfl
  have outer2 : w2.ownsRow w.heap.size 45 1 (.slice (some ⟨g, 0, none⟩) (n + 1) cap) (n + 1) (vs ++ [.slice a cur.length c]) := owns_keep outer fun b e => by
    simp only [Value.ownBlock, Option.some.injEq] at e
    subst e
    rw [k2 g (by omega) hgc, hA g hg]
  have hL2 : RdLB b0 w2 vs ls := hL.keep fun b hb hI => by rw [b2.block b hb, hA b (by omega)]
  obtain ⟨a2, c2, rfl, _, _⟩ := RdV.of_owned own2
  have hc : w2.cell? ⟨g, n, none⟩ = some (.slice a cur.length c) := by
    rw [outer2.cellAt n (by omega)]
    simp [hn]
  refine ⟨?_, hc, outer2.frozenAt n⟩
  obtain ⟨st, sg⟩ := outer2.stored n (.slice a2 (cur.length + 1) c2)
  have hne : ∀ b, IBk w2 b → b ≠ g := fun b hI e => apart outer2 hI (by rw [e]; rfl)
  refine ⟨k + 1, g, cap, b0, c2, n, vs, a2, cur ++ [x], ls, by omega, hn, by omega, by simp; omega, by simp, rfl, ?_, ?_, ?_, ?_, ?_, ?_, hwb, ?_⟩
  · show ¬ (65533 : Int) ∈ ts.take (k + 1)
    rw [ht, hx]
    intro h
    rcases List.mem_append.1 h with h | h
    · exact unhide HF h
    · rw [List.mem_singleton] at h
      exact hfd h.symm
  · show rows (ts.take (k + 1)) = ls ++ [cur ++ [x]]
    rw [ht, hx, rows_snoc_ne x h46, unhide HR]
    simp
  · have := b2.size
    have h2 : b0 ≤ w2.heap.size := by omega
    simpa [World.setCell] using h2
  · rw [hn, set_end, ← hn] at st
    simpa using st
  · exact hL2.keep fun b hb hI => block_set (hne b hI)
  · have := owns_keep own2 (w' := w2.setCell ⟨g, n, none⟩ (.slice a2 (cur.length + 1) c2)) fun b e => block_set (hne b (own_IBk own2 e).1)
    simpa using this
  · have hb3 : Below w.heap.size w w2 := hbA.trans (Below.mono b2 hwb)
    exact hb3.trans ((Below.refl _ _).grown sg hb3.size (fun t ht => by
      simp only [Option.some.injEq] at ht
      subst ht
      exact (outer2.lt _ rfl).1))
end Go.Proofs.YtenlampiiodkhaaGreatDoor
