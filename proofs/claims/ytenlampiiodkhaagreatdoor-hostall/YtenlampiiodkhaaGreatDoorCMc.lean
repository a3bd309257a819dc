/-
  DmR, DmV.
-/
import Derived.Test.YtenlampiiodkhaaGreatDoorCGc
import Derived.Test.YtenlampiiodkhaaGreatDoorUtfDc
import Derived.BigRegion
namespace Go.Proofs.YtenlampiiodkhaaGreatDoor
set_option linter.unusedVariables false
open Go.RowKit
def IBk (w : World) (b : Nat) : Prop := ∃ X f, w.heap[b]? = some (.cells X 21 f)
def RdLB (b0 : Nat) (w : World) (vs : List Value) (ls : List (List Int)) : Prop :=
  vs.length = ls.length ∧ ∀ i, i < ls.length → ∃ ao cap, vs[i]? = some (.slice ao (ls.getD i []).length cap) ∧ RdV w ao cap ((ls.getD i []).map R) ∧ ∀ b off, ao = some ⟨b, off, none⟩ → b < b0 ∧ IBk w b
theorem RdLB.nil (b0 : Nat) (w : World) : RdLB b0 w [] [] := ⟨rfl, fun i hi => by simp at hi⟩
theorem RdLB.rdl {b0 : Nat} {w : World} {vs : List Value} {ls : List (List Int)} (h : RdLB b0 w vs ls) : RdL w vs ls :=
  ⟨h.1, fun i hi => by obtain ⟨ao, cap, h1, h2, _⟩ := h.2 i hi; exact ⟨ao, cap, h1, h2⟩⟩
theorem RdV.keep {w w' : World} {ao : Option Addr} {cap : Nat} {vs : List Value} (h : RdV w ao cap vs) (hk : ∀ b off, ao = some ⟨b, off, none⟩ → w'.heap[b]? = w.heap[b]?) : RdV w' ao cap vs := by
  refine ⟨h.le, h.max, h.nil, fun i hi => ?_⟩; obtain ⟨b, off, e, hc⟩ := h.cell i hi; refine ⟨b, off, e, ?_⟩; rw [← hc]; exact World.cell?_of_block (hk b off e)
theorem RdLB.keep {b0 : Nat} {w w' : World} {vs : List Value} {ls : List (List Int)} (h : RdLB b0 w vs ls) (hk : ∀ b, b < b0 → IBk w b → w'.heap[b]? = w.heap[b]?) : RdLB b0 w' vs ls :=
  ⟨h.1, fun i hi => by
    obtain ⟨ao, cap, h1, h2, h3⟩ := h.2 i hi; refine ⟨ao, cap, h1, h2.keep fun b off e => hk b (h3 b off e).1 (h3 b off e).2, fun b off e => ⟨(h3 b off e).1, ?_⟩⟩; obtain ⟨X, f, hb⟩ := (h3 b off e).2; exact ⟨X, f, by rw [hk b (h3 b off e).1 ⟨X, f, hb⟩]; exact hb⟩⟩
theorem RdLB.snoc {b0 b1 : Nat} {w : World} {vs : List Value} {ls : List (List Int)} (h : RdLB b0 w vs ls) (h01 : b0 ≤ b1) {ao : Option Addr} {cap : Nat} {l : List Int} (h2 : RdV w ao cap (l.map R)) (h3 : ∀ b off, ao = some ⟨b, off, none⟩ → b < b1 ∧ IBk w b) : RdLB b1 w (vs ++ [.slice ao l.length cap]) (ls ++ [l]) := by
  obtain ⟨e, hh⟩ := h; refine ⟨by simp [e], fun i hi => ?_⟩; simp only [List.length_append, List.length_singleton] at hi; by_cases hi2 : i < ls.length
  · obtain ⟨ao', cap', h4, h5, h6⟩ := hh i hi2; refine ⟨ao', cap', ?_, ?_, fun b off e => ⟨Nat.lt_of_lt_of_le (h6 b off e).1 h01, (h6 b off e).2⟩⟩
    · rw [List.getElem?_append_left (by omega), h4]; simp [List.getD, hi2, List.getElem?_append_left hi2]
    · simpa [List.getD, hi2, List.getElem?_append_left hi2] using h5
  · have : i = ls.length := by omega
    subst this; refine ⟨ao, cap, ?_, ?_, h3⟩
    · rw [← e]; simp [List.getD, e]
    · simpa [List.getD] using h2
theorem owns_keep {w w' : World} {base e size : Nat} {v : Value} {n : Nat} {xs : List Value} (h : w.ownsRow base e size v n xs) (hk : ∀ b, v.ownBlock = some b → w'.heap[b]? = w.heap[b]?) : w'.ownsRow base e size v n xs := by
  refine ⟨h.1, ?_⟩; rcases h.2 with h | ⟨g, cap, cur, rfl, h2, h3, h4⟩
  · exact .inl h
  · exact .inr ⟨g, cap, cur, rfl, h2, by rw [hk g rfl]; exact h3, h4⟩
theorem apart {w : World} {base n b : Nat} {v : Value} {xs : List Value} (h : w.ownsRow base 45 1 v n xs) (hb : IBk w b) : v.ownBlock ≠ some b := by
  intro e; obtain ⟨X, f, hb⟩ := hb; rcases h.2 with ⟨rfl, _⟩ | ⟨g, c, cur, rfl, _, h3, _⟩
  · simp [Value.ownBlock] at e
  · simp only [Value.ownBlock, Option.some.injEq] at e; rw [e, hb] at h3; simp at h3
theorem own_IBk {w : World} {base n b : Nat} {v : Value} {xs : List Value} (h : w.ownsRow base 21 1 v n xs) (e : v.ownBlock = some b) : IBk w b ∧ base ≤ b ∧ b < w.heap.size := by
  rcases h.2 with ⟨rfl, _⟩ | ⟨g, c, cur, rfl, h2, h3, _⟩
  · simp [Value.ownBlock] at e
  · simp only [Value.ownBlock, Option.some.injEq] at e; subst e; refine ⟨⟨_, _, h3⟩, h2, ?_⟩; rcases Nat.lt_or_ge g w.heap.size with h' | h'
    · exact h'
    · simp [Array.getElem?_eq_none h'] at h3
theorem wpList_appG {w : World} {ops : Array Oper} {rest : List Oper} {o : Oper} {a : Act} {Q : Exit → Act → World → Prop} (hgd : o.guard = none) (s x : Operand) (t e : TypeId) (z : Value) (bytes : Nat)
    (hT : Tryz.prog.underlying t = some (.slice e)) (hI : (Tryz.prog.info? e).map (fun i => (i.zero, i.size, i.bytes)) = some (some z, 1, bytes)) (hzs : z.cells.size = 1)
    (ho : o.op = .call { callee := .builtin .append, args := #[s, x], argTypes := #[t, t] })
    (base : Nat) (v : Value) (n : Nat) (xs : List Value) (hs : a.eval s = v) (hown : w.ownsRow base e 1 v n xs)
    (ad : Addr) (m c : Nat) (ys : List Value) (hx : a.eval x = .slice (some ad) m c) (hl : ys.length = m) (hr : RdV w (some ad) c ys) (hone : ∀ u ∈ ys, u.oneCell' = true) (hb : (n + m) * (bytes + 1) ≤ 140737488355328) (hbase : base ≤ w.heap.size)
    (h : ∀ v' w', w'.ownsRow base e 1 v' (n + m) (xs ++ ys) → Below base w w' → (∀ b, b < w.heap.size → some b ≠ v.ownBlock → w'.heap[b]? = w.heap[b]?) → wpList Tryz.prog ops Q rest (a.put o.dst v') w') : wpList Tryz.prog ops Q (o :: rest) a w := by
  obtain ⟨i0, hi, hz0, hz1, hz2⟩ := info_parts hI; have hb1 : (n + m) * bytes ≤ 140737488355328 := Nat.le_trans (Nat.mul_le_mul_left _ (by omega)) hb; have hb2 : n + m ≤ 140737488355328 := Nat.le_trans (by rw [Nat.mul_add, Nat.mul_one]; omega) hb; refine wpList_append_own _ hgd s x t ho base e i0 z 1 bytes hT hi hz0 hz1 hz2 hzs (by decide) v n xs hs hown ad m c ys hx (by omega) (hr.news ad rfl) hone (by unfold maxLen; omega) hb1 hbase ?_; intro v' w' h1 h2 _; exact h v' w' h1 ((Below.refl _ _).grown h2 hbase (fun t ht => (hown.lt t ht).1)) h2.block
def RelR (w : World) (ts : List Int) (v i : Value) (wr : World) : Prop :=
  ∃ (k g cap b0 c n : Nat) (vs : List Value) (a : Option Addr) (cur : List Int) (ls : List (List Int)), k ≤ ts.length ∧ n = vs.length ∧ n ≤ k ∧ cur.length ≤ k ∧ i = .int .i64 (k : Int) ∧ v = .slice (some ⟨g, 0, none⟩) (n + 1) cap ∧ Hid (¬ (65533 : Int) ∈ ts.take k) ∧ Hid (rows (ts.take k) = ls ++ [cur]) ∧ b0 ≤ wr.heap.size ∧
    wr.ownsRow w.heap.size 45 1 (.slice (some ⟨g, 0, none⟩) (n + 1) cap) (n + 1) (vs ++ [.slice a cur.length c]) ∧ RdLB b0 wr vs ls ∧ wr.ownsRow b0 21 1 (.slice a cur.length c) cur.length (cur.map R) ∧ w.heap.size ≤ b0 ∧ Below w.heap.size w wr
theorem relR_dot {w wr w' : World} {ts : List Int} {k b0 c n : Nat} {vs : List Value} {a : Option Addr} {cur : List Int} {ls : List (List Int)} {v v' : Value} {xs : List Value} (hkl : k < ts.length) (hn : n = vs.length) (hnk : n ≤ k) (hx : ts.getD k 0 = 46) (HF : Hid (¬ (65533 : Int) ∈ ts.take k)) (HR : Hid (rows (ts.take k) = ls ++ [cur])) (hb0 : b0 ≤ wr.heap.size)
    (outer : wr.ownsRow w.heap.size 45 1 v (n + 1) xs) (hL : RdLB b0 wr vs ls) (own : wr.ownsRow b0 21 1 (.slice a cur.length c) cur.length (cur.map R)) (hbr : Below w.heap.size w w') (hsz : wr.heap.size ≤ w'.heap.size) (hk : ∀ b, b < wr.heap.size → some b ≠ v.ownBlock → w'.heap[b]? = wr.heap[b]?)
    (o : w'.ownsRow w.heap.size 45 1 v' (n + 1 + 1) ((vs ++ [.slice a cur.length c]) ++ [.slice none 0 0])) : RelR w ts v' (.int .i64 ((k : Int) + 1)) w' := by
  have ht := take_snoc ts k 0 hkl; have hapart : ∀ b, b < wr.heap.size → IBk wr b → w'.heap[b]? = wr.heap[b]? := fun b hb hI => hk b hb (fun e => apart outer hI e.symm); have hL2 := hL.keep (w' := w') fun b hb hI => hapart b (by omega) hI; have own2 := owns_keep own (w' := w') fun b e => hapart b (own_IBk own e).2.2 (own_IBk own e).1; have hr2 := RdV.of_owned_at own2; have hL3 := hL2.snoc (b1 := w'.heap.size) (by omega) hr2 (fun b off e => by
    have e' : (Value.slice a cur.length c).ownBlock = some b := by rw [e]; rfl
    exact ⟨(own_IBk own2 e').2.2, (own_IBk own2 e').1⟩)
  rcases o.2 with ⟨_, h0⟩ | ⟨g', cap', cur', hv, _⟩
  · omega
  · subst hv; refine ⟨k + 1, g', cap', w'.heap.size, 0, n + 1, vs ++ [.slice a cur.length c], none, [], ls ++ [cur], by omega, by simp [hn], by omega, by simp, by simp, rfl, ?_, ?_, Nat.le_refl _, o, hL3, World.ownsRow_nil _ _ _ _, hbr.size, hbr⟩
    · show ¬ (65533 : Int) ∈ ts.take (k + 1); rw [ht, hx]; intro h; rcases List.mem_append.1 h with h | h
      · exact unhide HF h
      · simp at h
    · show rows (ts.take (k + 1)) = (ls ++ [cur]) ++ [[]]; rw [ht, hx, rows_snoc_dot, unhide HR]
theorem set_end (vs : List Value) (u v : Value) : (vs ++ [u]).set vs.length v = vs ++ [v] := by simp
theorem block_set {w : World} {g m b : Nat} {v : Value} (h : b ≠ g) : (w.setCell ⟨g, m, none⟩ v).heap[b]? = w.heap[b]? := by
  have hne : g ≠ b := fun e => h e.symm; simp [World.setCell, Array.getElem?_modify, hne]
theorem relR_row {w wr wA w2 : World} {ts : List Int} {k g cap b0 c n : Nat} {vs : List Value} {a : Option Addr} {cur : List Int} {ls : List (List Int)} {v2 : Value} {x : Int} (hkl : k < ts.length) (hn : n = vs.length) (hnk : n ≤ k) (hck : cur.length ≤ k) (hx : ts.getD k 0 = x) (h46 : x ≠ 46) (hfd : x ≠ 65533) (HF : Hid (¬ (65533 : Int) ∈ ts.take k)) (HR : Hid (rows (ts.take k) = ls ++ [cur])) (hb0 : b0 ≤ wr.heap.size)
    (outer : wr.ownsRow w.heap.size 45 1 (.slice (some ⟨g, 0, none⟩) (n + 1) cap) (n + 1) (vs ++ [.slice a cur.length c])) (hL : RdLB b0 wr vs ls) (own : wr.ownsRow b0 21 1 (.slice a cur.length c) cur.length (cur.map R)) (hwb : w.heap.size ≤ b0)
    (hA : ∀ b, b < wr.heap.size → wA.heap[b]? = wr.heap[b]?) (hAs : wr.heap.size ≤ wA.heap.size) (hbA : Below w.heap.size w wA)
    (own2 : w2.ownsRow b0 21 1 v2 (cur.length + 1) (cur.map R ++ [R x])) (b2 : Below b0 wA w2) (k2 : ∀ b, b < wA.heap.size → some b ≠ (Value.slice a cur.length c).ownBlock → w2.heap[b]? = wA.heap[b]?) :
    RelR w ts (.slice (some ⟨g, 0, none⟩) (n + 1) cap) (.int .i64 ((k : Int) + 1)) (w2.setCell ⟨g, n, none⟩ v2) ∧ w2.cell? ⟨g, n, none⟩ = some (.slice a cur.length c) ∧ w2.frozen? ⟨g, n, none⟩ = false := by
  have ht := take_snoc ts k 0 hkl; have hg : g < wr.heap.size := (outer.lt g rfl).2; have hgc : some g ≠ (Value.slice a cur.length c).ownBlock := fun e => apart outer (own_IBk own e.symm).1 rfl; have outer2 : w2.ownsRow w.heap.size 45 1 (.slice (some ⟨g, 0, none⟩) (n + 1) cap) (n + 1) (vs ++ [.slice a cur.length c]) := owns_keep outer fun b e => by
    simp only [Value.ownBlock, Option.some.injEq] at e; subst e; rw [k2 g (by omega) hgc, hA g hg]
  have hL2 : RdLB b0 w2 vs ls := hL.keep fun b hb hI => by rw [b2.block b hb, hA b (by omega)]
  obtain ⟨a2, c2, rfl, _, _⟩ := RdV.of_owned own2; have hc : w2.cell? ⟨g, n, none⟩ = some (.slice a cur.length c) := by
    rw [outer2.cellAt n (by omega)]; simp [hn]
  refine ⟨?_, hc, outer2.frozenAt n⟩; obtain ⟨st, sg⟩ := outer2.stored n (.slice a2 (cur.length + 1) c2); have hne : ∀ b, IBk w2 b → b ≠ g := fun b hI e => apart outer2 hI (by rw [e]; rfl); refine ⟨k + 1, g, cap, b0, c2, n, vs, a2, cur ++ [x], ls, by omega, hn, by omega, by simp; omega, by simp, rfl, ?_, ?_, ?_, ?_, ?_, ?_, hwb, ?_⟩
  · show ¬ (65533 : Int) ∈ ts.take (k + 1); rw [ht, hx]; intro h; rcases List.mem_append.1 h with h | h
    · exact unhide HF h
    · rw [List.mem_singleton] at h; exact hfd h.symm
  · show rows (ts.take (k + 1)) = ls ++ [cur ++ [x]]; rw [ht, hx, rows_snoc_ne x h46, unhide HR]; simp
  · have := b2.size; have h2 : b0 ≤ w2.heap.size := by omega
    simpa [World.setCell] using h2
  · rw [hn, set_end, ← hn] at st; simpa using st
  · exact hL2.keep fun b hb hI => block_set (hne b hI)
  · have := owns_keep own2 (w' := w2.setCell ⟨g, n, none⟩ (.slice a2 (cur.length + 1) c2)) fun b e => block_set (hne b (own_IBk own2 e).1); simpa using this
  · have hb3 : Below w.heap.size w w2 := hbA.trans (Below.mono b2 hwb); exact hb3.trans ((Below.refl _ _).grown sg hb3.size (fun t ht => by
      simp only [Option.some.injEq] at ht; subst ht; exact (outer2.lt _ rfl).1))
end Go.Proofs.YtenlampiiodkhaaGreatDoor
namespace Go.Proofs.YtenlampiiodkhaaGreatDoor
set_option linter.unusedVariables false
open Go.RowKit
theorem joinD_ne {ss : List (List UInt8)} {M : Nat} (hl : ss.length = M) (hM : 1 ≤ M) (h : ∀ j, j < M → szAt M j (ss.getD j []) = true) : joinD ss ≠ [] := by
  match ss, hl, h with
  | [], hl, h =>
    simp at hl; omega
  | [s], hl, h =>
    have h0 := h 0 (by omega); unfold szAt at h0; simp at h0; exact h0.2
  | s :: s' :: t, hl, h =>
    show s ++ 46 :: joinD (s' :: t) ≠ []; simp
set_option maxHeartbeats 4000000 in
set_option maxRecDepth 100000 in
theorem rascii_any (ao : Option Addr) (l cap : Nat) (b : List UInt8) (w : World) (hl : b.length = l) (h : RdV w ao cap (b.map B)) :
    Calls Tryz.prog 10 #[.slice ao l cap] w fun e w' => e = .returned (.tuple #[S (nS (nam b)), .int .i64 (nE (nam b))]) ∧ Ext w w' := by
  have no : nam b = none → Ending.returned (.tuple #[.string ⟨#[]⟩, .int .i64 5]) = .returned (.tuple #[S (nS (nam b)), .int .i64 (nE (nam b))]) := fun h => by rw [h]; rfl
  have yes : ∀ z, nam b = some z → Ending.returned (.tuple #[S z, .int .i64 0]) = .returned (.tuple #[S (nS (nam b)), .int .i64 (nE (nam b))]) := fun z h => by rw [h]; rfl
  have NO := hide no; have YES := hide yes; clear no yes; subst hl; have hle := h.le; have hmx := h.max; simp only [List.length_map] at hle; by_cases h400 : b.length ≤ 400
  · have h400' : ¬ 400 < (b.length : Int) := by omega
    have HD := hide (rdecode_own ao b.length cap b w rfl (by omega) h); have hdl := dec_len b; have htl := txt_len (dec b); have HCP := hide (fun r hr => (show -2147483648 ≤ r ∧ r ≤ 2147483647 by have := dec_cp b r hr; omega)); have HRW := hide (txt_row b); have HF := hide (nam_fffd (b := b)); have HS := hide (fun hn => nam_some (b := b) h400 hn); generalize nS (nam b) = z1 at *; generalize nE (nam b) = z2 at *; generalize nam b = nm at *; generalize dec b = ds at *; go_enter Tryz.func10, Tryz.ntmps10; go_wp2_with fail
    refine (unhide HD).mono ?_; rintro e w1 ⟨v1, rfl, own1, hx1⟩; clear HD; obtain ⟨a1, c1, rfl, hr1, _⟩ := RdV.of_owned own1; have HT := hide (rtext_own a1 ds.length c1 ds w1 rfl (by omega) (unhide HCP) hr1); clear HCP hr1 own1; generalize txt ds = ts at *; go_wp2_with fail
    refine (unhide HT).mono ?_; rintro e w2 ⟨v2, rfl, own2, hy⟩; clear HT; have hx2 : Ext w w2 := Ext.trans hx1 hy; clear hy; obtain ⟨a2, c2, rfl, hr2, _⟩ := RdV.of_owned own2; have hle2 := hr2.le; have hmx2 := hr2.max; simp only [List.length_map] at hle2; clear own2 hx1; have ST : Hid (RelR w2 ts (.slice (some ⟨w2.heap.size, 0, none⟩) 1 1) (.int .i64 0) (w2.alloc (.cells #[.slice none 0 0] 45))) := by
      have o0 : (w2.alloc (.cells #[.slice none 0 0] 45)).ownsRow w2.heap.size 45 1 (.slice (some ⟨w2.heap.size, 0, none⟩) 1 1) 1 [.slice none 0 0] := World.ownsRow_lit w2 #[.slice none 0 0] 1 (Nat.le_refl _) (by unfold maxLen; omega) rfl; exact ⟨0, w2.heap.size, 1, w2.heap.size, 0, 0, [], none, [], [], by omega, rfl, by omega, by simp, rfl, rfl, hide (by simp), hide (by simp [rows]), (Ext.alloc w2 _).size, o0, RdLB.nil _ _, World.ownsRow_nil _ _ _ _, Nat.le_refl _, Ext.alloc w2 _⟩
    go_wp2_with fail
    go_loopw [5, 6] (fun v i wr => RelR w2 ts v i wr) (fun _ i _ => ts.length - (intOf i).toNat)
    case atStart => exact unhide ST
    case round =>
      clear ST; obtain ⟨k, g, cp, b0, c, n, vs, a, cur, ls, hk, hn, hnk, hck, rfl, rfl, HF2, HR, hb0, outer, hL, own, hwb, hbr⟩ := hrel; by_cases hkl : k < ts.length
      · have hkl' : (k : Int) < (ts.length : Int) := by omega
        obtain ⟨bb, off, rfl, hc⟩ := hr2.cells (by simp; omega); have c0 : wr.cell? ⟨bb, off + k, none⟩ = some (R (ts.getD k 0)) := by
          have := hc k (by simpa using hkl); rw [getR ts k hkl] at this; rw [← this]; exact hbr.cell (p := ⟨bb, off + k, none⟩) (cell_lt this)
        clear hc; by_cases hfd : ts.getD k 0 = 65533
        · have HN := hide (unhide NO (unhide HF (by rw [← hfd]; simp [List.getD, hkl]))); rw [hfd] at c0; clear NO YES HF HS HRW HF2 HR outer hL own; go_wp2; go_ret2; exact ⟨unhide HN, Ext.trans hx2 hbr⟩
        · by_cases h46 : ts.getD k 0 = 46
          · have RL := RdV.lit wr [.slice none 0 0] 45 (0, 0) (by simp); have hal : Ext wr (wr.alloc (.cells #[.slice none 0 0] 45 (0, 0))) := Ext.alloc wr _; have o2 := owns_below outer hal; have hb2 : Below w2.heap.size w2 (wr.alloc (.cells #[.slice none 0 0] 45 (0, 0))) := hbr.trans (Below.mono hal hbr.size); have hbase := hb2.size; have hone : ∀ u ∈ [Value.slice none 0 0], u.oneCell' = true := by simp [Value.oneCell']
            have KEY : Hid (∀ v' w', w'.ownsRow w2.heap.size 45 1 v' (n + 1 + 1) ((vs ++ [.slice a cur.length c]) ++ [.slice none 0 0]) → Below w2.heap.size (wr.alloc (.cells #[.slice none 0 0] 45 (0, 0))) w' → (∀ b, b < (wr.alloc (.cells #[.slice none 0 0] 45 (0, 0))).heap.size → some b ≠ (Value.slice (some ⟨g, 0, none⟩) (n + 1) cp).ownBlock → w'.heap[b]? = (wr.alloc (.cells #[.slice none 0 0] 45 (0, 0))).heap[b]?) →
                RelR w2 ts v' (.int .i64 ((k : Int) + 1)) w' ∧ ts.length - ((k : Int) + 1).toNat < ts.length - k) := by
              intro v' w' o' b' k'; have hsz := b'.size; have hs1 : wr.heap.size ≤ (wr.alloc (.cells #[.slice none 0 0] 45 (0, 0))).heap.size := hal.size; exact ⟨relR_dot hkl hn hnk h46 HF2 HR hb0 outer hL own (hb2.trans b') (by omega) (fun b hb he => by rw [k' b (by omega) he]; exact hal.block b hb) o', by omega⟩
            rw [h46] at c0; generalize vs ++ [Value.slice a cur.length c] = XS at KEY o2; clear hal outer hL own hbr hb2 HF2 HR hfd h46 NO YES HF HS HRW hn; go_wp2_with (at_builtin; refine wpList_appG rfl (.tmp 37) (.tmp 38) 51 45 (.slice none 0 0) 24 Tryz.underlying51 infoL rfl rfl w2.heap.size _ _ _ rfl o2 _ _ _ [.slice none 0 0] rfl rfl RL hone (by omega) hbase ?_)
            intro v3 w3 o3 b3 k3; have kk := hide (unhide KEY v3 w3 o3 b3 (fun b hb he => k3 b (by simpa using hb) he)); clear KEY o3 b3 k3 o2 RL hone; go_wp2; exact unhide kk
          · have hal : Ext wr ((wr.alloc (.cells #[R (ts.getD k 0)] 21)).drew) := Ext.trans (Ext.alloc wr _) (Ext.drew _); have RL : RdV ((wr.alloc (.cells #[R (ts.getD k 0)] 21)).drew) (some ⟨wr.heap.size, 0, none⟩) 1 [R (ts.getD k 0)] := (RdV.lit wr [R (ts.getD k 0)] 21 (0, 0) (by simp)).below (Ext.drew _); have O2 := owns_below own hal; have hb2 : Below w2.heap.size w2 ((wr.alloc (.cells #[R (ts.getD k 0)] 21)).drew) := hbr.trans (Below.mono hal hbr.size); have hbase : b0 ≤ ((wr.alloc (.cells #[R (ts.getD k 0)] 21)).drew).heap.size := Nat.le_trans hb0 hal.size; have hone : ∀ u ∈ [R (ts.getD k 0)], u.oneCell' = true := by simp [Value.oneCell', R]
            have c1 : wr.cell? ⟨g, n, none⟩ = some (.slice a cur.length c) := by
              rw [outer.cellAt n (by omega)]; simp [hn]
            have c1b : (wr.alloc (.cells #[R (ts.getD k 0)] 21)).cell? ⟨g, n, none⟩ = some (.slice a cur.length c) := by
              rw [← c1]; exact (Ext.alloc wr _).cell (p := ⟨g, n, none⟩) (cell_lt c1)
            have KEY : Hid (∀ v' w', w'.ownsRow b0 21 1 v' (cur.length + 1) (cur.map R ++ [R (ts.getD k 0)]) → Below b0 ((wr.alloc (.cells #[R (ts.getD k 0)] 21)).drew) w' → (∀ b, b < ((wr.alloc (.cells #[R (ts.getD k 0)] 21)).drew).heap.size → some b ≠ (Value.slice a cur.length c).ownBlock → w'.heap[b]? = ((wr.alloc (.cells #[R (ts.getD k 0)] 21)).drew).heap[b]?) →
                (RelR w2 ts (.slice (some ⟨g, 0, none⟩) (n + 1) cp) (.int .i64 ((k : Int) + 1)) (w'.setCell ⟨g, n, none⟩ v') ∧ w'.cell? ⟨g, n, none⟩ = some (.slice a cur.length c) ∧ w'.frozen? ⟨g, n, none⟩ = false) ∧ ts.length - ((k : Int) + 1).toNat < ts.length - k) := by
              intro v' w' o' b' k'; exact ⟨relR_row hkl hn hnk hck rfl h46 hfd HF2 HR hb0 outer hL own hwb (fun b hb => hal.block b hb) hal.size hb2 o' b' k', by omega⟩
            have hcl : cur.length ≤ 1000 := by omega
            have h46b : (ts.getD k 0 == 46) = false := by simpa using h46
            have hfdb : (ts.getD k 0 == 65533) = false := by simpa using hfd
            have hn1 : n ≤ 1000 := by omega
            clear outer hL own hbr hb2 HF2 HR NO YES HF HS HRW hn hal; generalize hN : n + 1 = N at *; have e2 : ((N : Int) - 1).toNat = n := by omega
            have p1 : (0 : Int) ≤ (N : Int) - 1 := by omega
            have p2 : (1 : Int) ≤ (N : Int) := by omega
            have r1 : IntKind.i64.wrap ((N : Int) - 1) = (N : Int) - 1 := by rw [IntKind.wrap_i64]; omega
            have b1 : (N : Int) - 1 < (N : Int) := by omega
            clear hN; generalize ts.getD k 0 = x at *; go_wp2_with fail
            go_region_law (first
              | (refine step_appR rfl (.tmp 49) (.tmp 54) 45 Tryz.underlying45 rfl b0 _ _ _ ?_ O2 (some ⟨wr.heap.size, 0, none⟩) 1 1 _ ?_ rfl RL hone ?_ hbase ?_
                 · simp [Act.eval]
                 · simp [Act.eval]
                 · omega
                 intro v3 w3 o3 b3 k3; obtain ⟨a3, p3, rfl, _, _⟩ := RdV.of_owned o3; obtain ⟨⟨K1, c3, f3⟩, K2⟩ := unhide KEY _ w3 o3 b3 (fun b hb he => k3 b (by first | exact hb | simpa using hb) he); have KK := hide (And.intro K1 K2); clear o3 b3 k3 K1 K2))
            all_goals
              clear KEY O2 RL hone c0 c1 c1b c3 f3; go_wp2; exact unhide KK
      · have e : ts.take k = ts := List.take_of_length_le (by omega); rw [e] at HF2 HR; obtain ⟨w5, hw5⟩ : ∃ w5, w5 = wr := ⟨_, rfl⟩; subst hw5; have hkl' : ¬ (k : Int) < (ts.length : Int) := by omega
        have hs := unhide HS (unhide HF2); rw [hs] at NO YES; clear hs HF HS HF2 e; have hr5 := RdV.of_owned_at outer; have hL5 := (hL.snoc (b1 := w5.heap.size) hb0 (RdV.of_owned_at own) (fun b off e => by
          have e' : (Value.slice a cur.length c).ownBlock = some b := by rw [e]; rfl
          exact ⟨(own_IBk own e').2.2, (own_IBk own e').1⟩)).rdl
        rw [← unhide HR] at hL5; have hrl := rows_len ts; have HRE := hide (rows_each ts); have HRM := hide (rows_mem ts); have h1r := List.length_pos_iff.2 (rows_ne ts); have hul : (vs ++ [Value.slice a cur.length c]).length = n + 1 := by simp [hn]
        have hx5 : Ext w w5 := Ext.trans hx2 hbr; clear outer hL own HR hbr hn; generalize vs ++ [Value.slice a cur.length c] = us at *; generalize rows ts = rs at *; have hvl : us.length = rs.length := hL5.1; generalize hM : n + 1 = M at *; have hMr : rs.length = M := by omega
        have hM1 : 1 ≤ M := by omega
        have hMl : M ≤ 1000 := by omega
        have HL := hide hL5; have HMR := hide hMr; have HUL := hide hul; clear hM hL5 hMr hul hvl hrl h1r hnk hck; have hgs : RdV w5 (some ⟨g, 0, none⟩) cp us := hr5; clear hr5; go_wp2_with fail
        go_loopw [7, 8] (fun o i w' => ∃ (k : Nat) (ss : List (List UInt8)), k ≤ M ∧ i = .int .i64 (k : Int) ∧ o = S (joinD ss) ∧ Hid (labAll (rs.take k) = some ss) ∧ Hid (ss.length = k) ∧ Hid (∀ s ∈ ss, s.length ≤ 63) ∧ Hid (∀ j, j < k → szAt M j (ss.getD j []) = true) ∧ Ext w5 w') (fun _ i _ => M - (intOf i).toNat)
        case atStart => exact ⟨0, [], by omega, rfl, rfl, hide rfl, hide rfl, hide (by simp), hide (fun j hj => absurd hj (by omega)), Ext.refl _⟩
        case round =>
          obtain ⟨k2, ss, hk2, rfl, rfl, HLA, HSN, H63, HSZ, hx6⟩ := hrel; by_cases hkM : k2 < M
          · have hkM' : (k2 : Int) < (M : Int) := by omega
            have hkr : k2 < rs.length := by have := unhide HMR; omega
            obtain ⟨bb, off, hgo, hc⟩ := hgs.cells (by have := unhide HUL; omega); simp only [Option.some.injEq, Addr.mk.injEq] at hgo; obtain ⟨rfl, rfl, _⟩ := hgo; obtain ⟨a6, c6, hv, hrd⟩ := (unhide HL).2 k2 hkr; have c0 : wr.cell? ⟨g, k2, none⟩ = some (.slice a6 (rs.getD k2 []).length c6) := by
              have h1 := hc k2 (by have := unhide HUL; omega); rw [hv, Nat.zero_add] at h1; rw [← h1]; exact hx6.cell (p := ⟨g, k2, none⟩) (cell_lt h1)
            have hmem : rs.getD k2 [] ∈ rs := by simp [List.getD, hkr]
            have hrow : ∀ r ∈ rs.getD k2 [], 0 ≤ r ∧ r ≤ 2147483647 ∧ ¬ (65 ≤ r ∧ r ≤ 90) := fun r hr => unhide HRW r (unhide HRM _ hmem r hr).1; have HW := hide (rlabel_any a6 _ c6 (rs.getD k2 []) wr rfl (by have := unhide HRE _ hmem; omega) hrow (hrd.below hx6)); have HT := hide (take_snoc rs k2 [] hkr); have HB := hide (fun (hn : labOf (rs.getD k2 []) = none) => labAll_bad rs (k2 + 1) (by omega) (by rw [unhide HT, labAll_snoc, unhide HLA, hn]; rfl)); have HY := hide (fun (t : List UInt8) (hy : labOf (rs.getD k2 []) = some t) => (show labAll (rs.take (k2 + 1)) = some (ss ++ [t]) by rw [unhide HT, labAll_snoc, unhide HLA, hy]; rfl)); have HZ := hide (fun (t : List UInt8) (hy : labOf (rs.getD k2 []) = some t) (hz : szAt M k2 t = false) => bind_bad (f := fun ss => if outOk (joinD ss) = true then some (joinD ss) else none) hkr hy (by rw [unhide HMR]; exact hz)); clear hc hv hrd hmem hrow HT; generalize rs.getD k2 [] = row at *; go_wp2_with fail
            refine (unhide HW).mono ?_; rintro e w7 ⟨⟨s, rfl, hst⟩, hx7⟩; clear HW; have hx8 : Ext w w7 := Ext.trans hx5 (Ext.trans hx6 hx7); have hx9 : Ext w5 w7 := Ext.trans hx6 hx7
            cases hlab : labOf row with
            | none =>
              have HN := hide (unhide NO (by rw [unhide HB hlab]; rfl)); clear HB HY HZ hst NO YES hlab; go_wp2; go_ret2; exact ⟨unhide HN, hx8⟩
            | some t =>
              have es := hst t hlab; subst es; have hsz := size_S s; have HN := hide (fun hz => unhide NO (unhide HZ s hlab hz)); have HS2 := hide (unhide HY s hlab); have hjl := joinD_len ss (unhide H63); have hssl := unhide HSN; clear HB HY HZ hst hlab NO; by_cases hz1 : s.length ≤ 63
              · have hz1' : ¬ (63 : Int) < (s.length : Int) := by omega
                by_cases hok : szAt M k2 s = true
                · have H63b : Hid (∀ u ∈ ss ++ [s], u.length ≤ 63) := by
                    intro u hu; rcases List.mem_append.1 hu with hu | hu
                    · exact unhide H63 u hu
                    · rw [List.mem_singleton] at hu; rw [hu]; exact hz1
                  have HSZb : Hid (∀ j, j < k2 + 1 → szAt M j ((ss ++ [s]).getD j []) = true) := by
                    intro j hj; by_cases hj2 : j < k2
                    · have := unhide HSZ j hj2
                      rwa [show (ss ++ [s]).getD j [] = ss.getD j [] by simp [List.getD, List.getElem?_append_left (show j < ss.length by omega)]]
                    · have : j = ss.length := by omega
                      rw [show (ss ++ [s]).getD j [] = s by rw [this]; simp [List.getD], show j = k2 by omega]; exact hok
                  have kk : ∀ Y, Y = joinD (ss ++ [s]) → Hid ((∃ (k' : Nat) (ss' : List (List UInt8)), k' ≤ M ∧ Value.int .i64 ((k2 : Int) + 1) = .int .i64 (k' : Int) ∧ S Y = S (joinD ss') ∧ Hid (labAll (rs.take k') = some ss') ∧ Hid (ss'.length = k') ∧ Hid (∀ s ∈ ss', s.length ≤ 63) ∧ Hid (∀ j, j < k' → szAt M j (ss'.getD j []) = true) ∧ Ext w5 w7) ∧ M - ((k2 : Int) + 1).toNat < M - k2) := fun Y hY =>
                    ⟨⟨k2 + 1, ss ++ [s], by omega, by simp, by rw [hY], HS2, hide (by simp [hssl]), H63b, HSZb, hx9⟩, by omega⟩
                  have KK := hide kk; clear kk H63b HSZb HS2 HN YES; have hemp : (s.length : Int) = 0 → (k2 + 1 = M ∧ 0 < k2) := fun h0 => by
                    have e0 : s = [] := List.eq_nil_of_length_eq_zero (by omega); unfold szAt at hok; simp [e0] at hok; omega
                  clear hok; by_cases hk0 : k2 = 0
                  · subst hk0; have es0 : ss = [] := List.eq_nil_of_length_eq_zero hssl; have hne : ¬ (s.length : Int) = 0 := fun h0 => by have := hemp h0; omega
                    have hneb : ((s.length : Int) == 0) = false := by simpa using hne
                    have K1 := unhide KK s (by rw [es0]; rfl); have hcat : (⟨(joinD ss).toArray⟩ : ByteArray) ++ (⟨s.toArray⟩ : ByteArray) = ⟨s.toArray⟩ := by rw [es0]; exact cat_S [] s
                    have hl2 : ¬ 9223372036854775807 < (joinD ss).length + s.length := by omega
                    clear KK hemp es0; generalize joinD ss = J at *; go_wp2; exact unhide K1
                  · have hk0' : (0 : Int) < (k2 : Int) := by omega
                    have hne0 : ss ≠ [] := fun e => by rw [e] at hssl; simp at hssl; omega
                    have K1 := unhide KK (joinD ss ++ [46] ++ s) (by rw [joinD_snoc ss hne0]; simp); have hcat1 : (⟨(joinD ss).toArray⟩ : ByteArray) ++ (⟨#[46]⟩ : ByteArray) = ⟨(joinD ss ++ [46]).toArray⟩ := cat_S (joinD ss) [46]; have hcat2 : (⟨(joinD ss ++ [46]).toArray⟩ : ByteArray) ++ (⟨s.toArray⟩ : ByteArray) = ⟨(joinD ss ++ [46] ++ s).toArray⟩ := cat_S (joinD ss ++ [46]) s; have hl1 : ¬ 9223372036854775807 < (joinD ss).length + 1 := by omega
                    have hl2 : ¬ 9223372036854775807 < (joinD ss ++ [46]).length + s.length := by simp; omega
                    clear KK hne0; by_cases hs0 : (s.length : Int) = 0
                    · obtain ⟨hm1, _⟩ := hemp hs0; have hlast : ((k2 : Int) == (M : Int) - 1) = true := by simp; omega
                      have hs0b : ((s.length : Int) == 0) = true := by simpa using hs0
                      clear hemp; generalize joinD ss ++ [46] ++ s = J2 at *; generalize joinD ss ++ [46] = J1 at *; generalize joinD ss = J at *; go_wp2; exact unhide K1
                    · have hs0b : ((s.length : Int) == 0) = false := by simpa using hs0
                      clear hemp; generalize joinD ss ++ [46] ++ s = J2 at *; generalize joinD ss ++ [46] = J1 at *; generalize joinD ss = J at *; go_wp2; exact unhide K1
                · have hbad : szAt M k2 s = false := by simpa using hok
                  have HN2 := hide (unhide HN hbad); have hemp : (s.length : Int) = 0 ∧ ¬ (k2 + 1 = M ∧ 0 < k2) := by
                    unfold szAt at hbad; simp [hz1] at hbad; refine ⟨by rw [hbad.1]; rfl, fun h2 => ?_⟩; have := hbad.2 h2.1; omega
                  obtain ⟨hs0, hnl⟩ := hemp; have hs0b : ((s.length : Int) == 0) = true := by simpa using hs0
                  clear HN YES HS2 hok hbad; generalize joinD ss = J at *; by_cases hlst : k2 + 1 = M
                  · have hk0 : k2 = 0 := by omega
                    have hlast : ((k2 : Int) == (M : Int) - 1) = true := by simp; omega
                    have hlast' : (k2 : Int) = (M : Int) - 1 := by omega
                    have hk0' : ¬ (0 : Int) < (k2 : Int) := by omega
                    go_wp2; go_ret2; exact ⟨unhide HN2, hx8⟩
                  · have hlast : ((k2 : Int) == (M : Int) - 1) = false := by simp; omega
                    have hlast' : ¬ (k2 : Int) = (M : Int) - 1 := by omega
                    go_wp2; go_ret2; exact ⟨unhide HN2, hx8⟩
              · have hz1' : (63 : Int) < (s.length : Int) := by omega
                have HN2 := hide (unhide HN (by unfold szAt; simp [hz1])); clear HN YES HS2; generalize joinD ss = J at *; go_wp2; go_ret2; exact ⟨unhide HN2, hx8⟩
          · have hkM' : ¬ (k2 : Int) < (M : Int) := by omega
            obtain ⟨w6, hw6⟩ : ∃ w6, w6 = wr := ⟨_, rfl⟩; subst hw6; have hlen : rs.length = M := unhide HMR; have hla := unhide HLA; rw [show rs.take k2 = rs from List.take_of_length_le (by omega)] at hla; have hsl : ss.length = M := by have := unhide HSN; omega
            have hza : szAll ss = true := by
              unfold szAll; rw [List.all_eq_true]; intro i hi; rw [hsl]; exact unhide HSZ i (by have := List.mem_range.1 hi; omega)
            have hbind : ((labAll rs).bind fun ss => if szAll ss = true then (if outOk (joinD ss) = true then some (joinD ss) else none) else none) = if outOk (joinD ss) = true then some (joinD ss) else none := by
              rw [hla]; show (if szAll ss = true then _ else _) = _; rw [if_pos hza]
            rw [hbind] at NO YES; have hne := joinD_ne hsl hM1 (fun j hj => unhide HSZ j (by omega)); have hjl := joinD_len ss (unhide H63); have HNO := hide (fun (h : ¬ outOk (joinD ss) = true) => unhide NO (if_neg h)); have HYES := hide (fun (h : outOk (joinD ss) = true) => unhide YES _ (if_pos h)); have hx7 : Ext w w6 := Ext.trans hx5 hx6; clear hbind NO YES hla hza HLA HSN HSZ H63 HL HMR HUL HRE HRM HRW hgs hx5 hx6; have hjm : (joinD ss).length ≤ 64000 := by omega
            clear hjl hsl hlen; generalize joinD ss = out at *; have hn1 : 1 ≤ out.length := by
              have := List.length_pos_iff.2 hne; omega
            have hsz := size_S out; have HIX := hide (fun (v : World) (k : Nat) (hk : k < out.length) => idx_str v out .i64 k hk); have iL : (Instr.index 9 (S out) (.int .i64 ((out.length : Int) - 1))).run Tryz.prog w6 = .ok (B (out.getD (out.length - 1) 0)) w6 := by
              have := idx_str w6 out .i64 (out.length - 1) (by omega)
              rwa [show ((out.length - 1 : Nat) : Int) = (out.length : Int) - 1 by omega] at this
            have hgl : out.getLast? = some (out.getD (out.length - 1) 0) := by
              rw [List.getLast?_eq_getElem?, List.getElem?_eq_getElem (by omega)]; simp [List.getD, show out.length - 1 < out.length by omega]
            clear hne; generalize out.getD (out.length - 1) 0 = y at *; by_cases h46 : y = 46
            · have e46 : ((y.toNat : Int) == 46) = true := by rw [h46]; rfl
              have e46' : (y.toNat : Int) = 46 := by rw [h46]; rfl
              have HGL : Hid (out.length - (if out.getLast? = some 46 then 1 else 0) = out.length - 1) := by
                show out.length - (if out.getLast? = some 46 then 1 else 0) = out.length - 1; rw [hgl, h46, if_pos rfl]
              clear hgl h46; go_wp2_with fail
              go_loopw [13] (fun i w' => ∃ k : Nat, k ≤ out.length ∧ i = .int .i64 k ∧ Hid (∀ b ∈ out.take k, badB b = false) ∧ w' = w6) (fun i _ => out.length - (intOf i).toNat)
              case atStart => exact ⟨0, by omega, rfl, hide (by simp), rfl⟩
              case round =>
                obtain ⟨k, hk, rfl, HOK, hw⟩ := hrel; have hw3 := hw.symm; clear hw; subst hw3; clear iL; by_cases hkl : k < out.length
                · have hkl' : (k : Int) < (out.length : Int) := by omega
                  have hx0 := unhide HIX w6 k hkl; have HT := hide (take_snoc out k 0 hkl); have HMM := hide (show out.getD k 0 ∈ out by simp [List.getD, hkl]); generalize out.getD k 0 = x at *; have HB : Hid (badB x = true → Ending.returned (.tuple #[.string ⟨#[]⟩, .int .i64 5]) = .returned (.tuple #[S z1, .int .i64 z2])) := fun hb => unhide HNO (by
                    intro ho; unfold outOk at ho; rw [Bool.and_eq_true] at ho; have := List.all_eq_true.1 ho.1 x (unhide HMM); rw [hb] at this
                    cases this)
                  by_cases h1 : x.toNat ≤ 32
                  · have h1' : (x.toNat : Int) ≤ 32 := by omega
                    have HN := hide (unhide HB (by unfold badB; simp [h1])); clear HB HT HMM HOK HNO HYES HIX; go_wp2; go_ret2; exact ⟨unhide HN, hx7⟩
                  · have h1' : ¬ (x.toNat : Int) ≤ 32 := by omega
                    by_cases h2 : x.toNat = 127
                    · have h2b : ((x.toNat : Int) == 127) = true := by simp; omega
                      have h2' : (x.toNat : Int) = 127 := by omega
                      have HN := hide (unhide HB (by unfold badB; simp [h2])); clear HB HT HMM HOK HNO HYES HIX; go_wp2; go_ret2; exact ⟨unhide HN, hx7⟩
                    · have h2' : ¬ (x.toNat : Int) = 127 := by omega
                      have h2b : ((x.toNat : Int) == 127) = false := by simpa using h2'
                      have CC := hide (rhas_any [35, 47, 58, 60, 62, 63, 64, 91, 92, 93, 94, 124, 37] x w6 (by decide))
                      cases hx : [35, 47, 58, 60, 62, 63, 64, 91, 92, 93, 94, 124, 37].contains x with
                      | true =>
                        rw [hx] at CC; have HN := hide (unhide HB (by unfold badB; rw [hx]; simp)); clear HB HT HMM HOK HNO HYES HIX hx; go_wp2_with fail
                        refine (unhide CC).mono ?_; rintro e w9 ⟨rfl, hw⟩; subst hw; clear CC; go_wp2; go_ret2; exact ⟨unhide HN, hx7⟩
                      | false =>
                        rw [hx] at CC; have HOK2 : Hid (∀ b ∈ out.take (k + 1), badB b = false) := by
                          show ∀ b ∈ out.take (k + 1), badB b = false; rw [unhide HT]; intro b hb; rcases List.mem_append.1 hb with hb | hb
                          · exact unhide HOK b hb
                          · rw [List.mem_singleton] at hb; rw [hb]; unfold badB; rw [hx]; simp [h1, h2]
                        clear hx HB HOK HT HMM HNO HYES HIX; go_wp2_with fail
                        refine (unhide CC).mono ?_; rintro e w9 ⟨rfl, hw⟩; subst hw; clear CC; go_wp2; exact ⟨⟨k + 1, by omega, by simp, HOK2, by first | rfl | trivial⟩, (show out.length - ((k : Int) + 1).toNat < out.length - ((k : Int)).toNat by omega)⟩
                · have hkl' : ¬ (k : Int) < (out.length : Int) := by omega
                  have hok := unhide HOK; rw [List.take_of_length_le (by omega)] at hok; have HA : Hid (out.all (fun b => !badB b) = true) := by
                    show out.all (fun b => !badB b) = true; rw [List.all_eq_true]; intro b hb; rw [hok b hb]; rfl
                  clear hok HOK HIX; by_cases h253 : out.length - 1 ≤ 253
                  · have h253' : ¬ (253 : Int) < (out.length : Int) - 1 := by omega
                    have HN := hide (unhide HYES (by
                      unfold outOk; rw [unhide HA, unhide HGL]; simpa using h253))
                    clear HNO HYES HA HGL; go_wp2; go_ret2; exact ⟨unhide HN, hx7⟩
                  · have h253' : (253 : Int) < (out.length : Int) - 1 := by omega
                    have HN := hide (unhide HNO (by
                      intro ho; unfold outOk at ho; rw [Bool.and_eq_true, unhide HGL] at ho; have := ho.2; simp at this; omega))
                    clear HNO HYES HA HGL; go_wp2; go_ret2; exact ⟨unhide HN, hx7⟩
            · have e46' : ¬ (y.toNat : Int) = 46 := by
                intro e; exact h46 (UInt8.toNat_inj.1 (by show y.toNat = 46; omega))
              have e46 : ((y.toNat : Int) == 46) = false := by simpa using e46'
              have HGL : Hid (out.length - (if out.getLast? = some 46 then 1 else 0) = out.length) := by
                show out.length - (if out.getLast? = some 46 then 1 else 0) = out.length; rw [hgl, if_neg (fun e => h46 (Option.some.inj e))]; rfl
              clear hgl h46; go_wp2_with fail
              go_loopw [13] (fun i w' => ∃ k : Nat, k ≤ out.length ∧ i = .int .i64 k ∧ Hid (∀ b ∈ out.take k, badB b = false) ∧ w' = w6) (fun i _ => out.length - (intOf i).toNat)
              case atStart => exact ⟨0, by omega, rfl, hide (by simp), rfl⟩
              case round =>
                obtain ⟨k, hk, rfl, HOK, hw⟩ := hrel; have hw3 := hw.symm; clear hw; subst hw3; clear iL; by_cases hkl : k < out.length
                · have hkl' : (k : Int) < (out.length : Int) := by omega
                  have hx0 := unhide HIX w6 k hkl; have HT := hide (take_snoc out k 0 hkl); have HMM := hide (show out.getD k 0 ∈ out by simp [List.getD, hkl]); generalize out.getD k 0 = x at *; have HB : Hid (badB x = true → Ending.returned (.tuple #[.string ⟨#[]⟩, .int .i64 5]) = .returned (.tuple #[S z1, .int .i64 z2])) := fun hb => unhide HNO (by
                    intro ho; unfold outOk at ho; rw [Bool.and_eq_true] at ho; have := List.all_eq_true.1 ho.1 x (unhide HMM); rw [hb] at this
                    cases this)
                  by_cases h1 : x.toNat ≤ 32
                  · have h1' : (x.toNat : Int) ≤ 32 := by omega
                    have HN := hide (unhide HB (by unfold badB; simp [h1])); clear HB HT HMM HOK HNO HYES HIX; go_wp2; go_ret2; exact ⟨unhide HN, hx7⟩
                  · have h1' : ¬ (x.toNat : Int) ≤ 32 := by omega
                    by_cases h2 : x.toNat = 127
                    · have h2b : ((x.toNat : Int) == 127) = true := by simp; omega
                      have h2' : (x.toNat : Int) = 127 := by omega
                      have HN := hide (unhide HB (by unfold badB; simp [h2])); clear HB HT HMM HOK HNO HYES HIX; go_wp2; go_ret2; exact ⟨unhide HN, hx7⟩
                    · have h2' : ¬ (x.toNat : Int) = 127 := by omega
                      have h2b : ((x.toNat : Int) == 127) = false := by simpa using h2'
                      have CC := hide (rhas_any [35, 47, 58, 60, 62, 63, 64, 91, 92, 93, 94, 124, 37] x w6 (by decide))
                      cases hx : [35, 47, 58, 60, 62, 63, 64, 91, 92, 93, 94, 124, 37].contains x with
                      | true =>
                        rw [hx] at CC; have HN := hide (unhide HB (by unfold badB; rw [hx]; simp)); clear HB HT HMM HOK HNO HYES HIX hx; go_wp2_with fail
                        refine (unhide CC).mono ?_; rintro e w9 ⟨rfl, hw⟩; subst hw; clear CC; go_wp2; go_ret2; exact ⟨unhide HN, hx7⟩
                      | false =>
                        rw [hx] at CC; have HOK2 : Hid (∀ b ∈ out.take (k + 1), badB b = false) := by
                          show ∀ b ∈ out.take (k + 1), badB b = false; rw [unhide HT]; intro b hb; rcases List.mem_append.1 hb with hb | hb
                          · exact unhide HOK b hb
                          · rw [List.mem_singleton] at hb; rw [hb]; unfold badB; rw [hx]; simp [h1, h2]
                        clear hx HB HOK HT HMM HNO HYES HIX; go_wp2_with fail
                        refine (unhide CC).mono ?_; rintro e w9 ⟨rfl, hw⟩; subst hw; clear CC; go_wp2; exact ⟨⟨k + 1, by omega, by simp, HOK2, by first | rfl | trivial⟩, (show out.length - ((k : Int) + 1).toNat < out.length - ((k : Int)).toNat by omega)⟩
                · have hkl' : ¬ (k : Int) < (out.length : Int) := by omega
                  have hok := unhide HOK; rw [List.take_of_length_le (by omega)] at hok; have HA : Hid (out.all (fun b => !badB b) = true) := by
                    show out.all (fun b => !badB b) = true; rw [List.all_eq_true]; intro b hb; rw [hok b hb]; rfl
                  clear hok HOK HIX; by_cases h253 : out.length ≤ 253
                  · have h253' : ¬ (253 : Int) < (out.length : Int) := by omega
                    have HN := hide (unhide HYES (by
                      unfold outOk; rw [unhide HA, unhide HGL]; simpa using h253))
                    clear HNO HYES HA HGL; go_wp2; go_ret2; exact ⟨unhide HN, hx7⟩
                  · have h253' : (253 : Int) < (out.length : Int) := by omega
                    have HN := hide (unhide HNO (by
                      intro ho; unfold outOk at ho; rw [Bool.and_eq_true, unhide HGL] at ho; have := ho.2; simp at this; omega))
                    clear HNO HYES HA HGL; go_wp2; go_ret2; exact ⟨unhide HN, hx7⟩
  · have h400' : 400 < (b.length : Int) := by omega
    have HN := hide (unhide NO (nam_long h400)); clear NO YES h; generalize nS (nam b) = z1 at *; generalize nE (nam b) = z2 at *; go_enter Tryz.func10, Tryz.ntmps10; go_wp2; go_ret2; exact ⟨unhide HN, Ext.refl _⟩
end Go.Proofs.YtenlampiiodkhaaGreatDoor
