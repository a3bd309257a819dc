/-
  What octet.copyWithRoom and octet.appendNumber leave: new memory that holds the bytes; what was there stays.
-/
import Derived.Test.YtjkbapjdojhdeaaNum
import Derived.Laws.AppendOwnNone
namespace Go.Proofs.Ytjkbapjdojhdeaa
set_option linter.unusedVariables false
open Go.RowKit

theorem Try.info5 : (Try.prog.info? 5).map (fun i => (i.zero, i.size, i.bytes)) = some (some (.int .u8 0), 1, 1) := by kernel_rfl

theorem bs_oneCell (bs : List UInt8) : ∀ u ∈ bs.map B, u.oneCell' = true := by
  intro u hu
  obtain ⟨x, _, rfl⟩ := List.mem_map.1 hu
  rfl

theorem Rd.news {w : World} {ao : Option Addr} {cap : Nat} {bs : List UInt8} (h : Rd w ao cap bs) : ∀ ad, ao = some ad → ∀ j u, (bs.map B)[j]? = some u → w.cell? (ad.add j) = some u := by
  intro ad had j u hu
  have hj : j < bs.length := by have := (List.getElem?_eq_some_iff.1 hu).1; simpa using this
  obtain ⟨b, off, e, hc⟩ := h.cell j hj
  rw [had] at e
  obtain rfl := Option.some.inj e
  rw [Addr.add_lit, hc]
  simp [hj] at hu
  simp [List.getD, hj, ← hu]

theorem Rd.lt {w : World} {ao : Option Addr} {cap : Nat} {bs : List UInt8} (h : Rd w ao cap bs) (hb : 0 < bs.length) : ∃ b off, ao = some ⟨b, off, none⟩ ∧ b < w.heap.size := by
  obtain ⟨b, off, e, hc⟩ := h.cell 0 hb
  refine ⟨b, off, e, ?_⟩
  rcases Nat.lt_or_ge b w.heap.size with h' | h'
  · exact h'
  · simp [World.cell?, Array.getElem?_eq_none h'] at hc

/-- What was there reads the same behind whatever leaves it alone. -/
theorem Rd.below {w w' : World} {ao : Option Addr} {cap : Nat} {bs : List UInt8} (h : Rd w ao cap bs) (hb : Below w.heap.size w w') : Rd w' ao cap bs := by
  refine ⟨h.le, h.max, h.nil, fun i hi => ?_⟩
  obtain ⟨b, off, e, hc⟩ := h.cell i hi
  refine ⟨b, off, e, ?_⟩
  rw [← hc]
  refine hb.cell (p := ⟨b, off + i, none⟩) ?_
  rcases Nat.lt_or_ge b w.heap.size with h' | h'
  · exact h'
  · simp [World.cell?, Array.getElem?_eq_none h'] at hc

/-- A row of the call's own reads as its bytes. -/
theorem Rd.owned {w : World} {base : Nat} {v : Value} {bs : List UInt8} (h : w.ownsRow base 5 1 v bs.length (bs.map B)) : ∃ ao cap, v = .slice ao bs.length cap ∧ Rd w ao cap bs := by
  rcases h.2 with ⟨rfl, h0⟩ | ⟨g, cap, cur, rfl, _, hb, hl, hm, hs, ht⟩
  · refine ⟨none, 0, by rw [h0], ⟨by omega, by omega, fun _ => rfl, fun i hi => by omega⟩⟩
  · refine ⟨_, cap, rfl, ⟨hl, by unfold maxLen at hm; omega, fun e => (by cases e), fun i hi => ⟨g, 0, rfl, ?_⟩⟩⟩
    rw [Nat.zero_add, h.cellAt i (by omega)]
    simp [List.getD, hi]

set_option maxHeartbeats 400000 in
theorem copy_any (ao : Option Addr) (n cap : Nat) (room : Int) (bs : List UInt8) (w : World) (hl : bs.length = n) (h : Rd w ao cap bs) (hr : 0 ≤ room) (hm : n + room ≤ 140737488355328) :
    Calls Try.prog 29 #[.slice ao n cap, .int .i64 room] w fun e w' => ∃ v, e = .returned v ∧ w'.ownsRow w.heap.size 5 1 v n (bs.map B) ∧ Below w.heap.size w w' := by
  obtain ⟨r, rfl⟩ := Int.eq_ofNat_of_zero_le hr
  obtain ⟨i0, hi, hz0, hz1, hz2⟩ := info_parts Try.info5
  go_enter Try.func29, Try.ntmps29
  go_wp2_with (at_make; refine wpList_make_own _ rfl _ _ 22 rfl w.heap.size 5 i0 (.int .u8 0) 1 Try.underlying22 hi hz0 hz1 _ _ _ (n + r) rfl rfl (by omega) ?b2 ?b3 (Nat.le_refl _) ?_)
  case b2 => rw [hz2]; omega
  case b3 => unfold maxLen; omega
  intro w0 hown0 hgrow0
  have hb0 : Below w.heap.size w w0 := (Below.refl _ _).grown hgrow0 (Nat.le_refl _) (fun k h => by cases h)
  have h0 := h.below hb0
  go_wp2_with (at_builtin; refine wpList_append_fits_any _ rfl _ _ 22 rfl w.heap.size 5 i0 1 Try.underlying22 hi hz1 w.heap.size 0 (n + r) _ rfl hown0 _ n _ (bs.map B) rfl (by simp [hl]) ?c1 ?c2 (bs_oneCell bs) (by omega) ?_)
  case c1 => intro e; have := h0.nil e; have := h0.le; omega
  case c2 => exact h0.news
  intro w1 hown1 hgrow1
  clear hown0 
  go_wp2
  go_ret
  exact ⟨_, rfl, by simpa using hown1, hb0.grown hgrow1 (by have := hb0.size; omega) (fun k hk => by cases hk; exact Nat.le_refl _)⟩

/-- 'append(v, ys...)', v the call's own, whatever slice of bytes the second one is. -/
theorem wpList_app {w : World} {ops : Array Oper} {rest : List Oper} {o : Oper} {a : Act} {Q : Exit → Act → World → Prop} (hgd : o.guard = none) (s x : Operand)
    (ho : o.op = .call { callee := .builtin .append, args := #[s, x], argTypes := #[22, 22] })
    (base : Nat) (v : Value) (n : Nat) (xs : List UInt8) (hs : a.eval s = v) (hown : w.ownsRow base 5 1 v n (xs.map B))
    (ao : Option Addr) (m c : Nat) (ys : List UInt8) (hx : a.eval x = .slice ao m c) (hl : ys.length = m) (hr : Rd w ao c ys) (hb : n + m ≤ 140737488355328) (hbase : base ≤ w.heap.size)
    (h : ∀ v' w', w'.ownsRow base 5 1 v' (n + m) ((xs ++ ys).map B) → Below base w w' → wpList Try.prog ops Q rest (a.put o.dst v') w') : wpList Try.prog ops Q (o :: rest) a w := by
  obtain ⟨i0, hi, hz0, hz1, hz2⟩ := info_parts Try.info5
  cases ao with
  | some ad =>
    refine wpList_append_own _ hgd s x 22 ho base 5 i0 (.int .u8 0) 1 1 Try.underlying22 hi hz0 hz1 hz2 rfl (by decide) v n (xs.map B) hs hown ad m c (ys.map B) hx (by simp [hl]) (hr.news ad rfl) (bs_oneCell ys) (by unfold maxLen; omega) (by omega) hbase ?_
    intro v' w' h1 h2 _
    exact h v' w' (by simpa using h1) ((Below.refl _ _).grown h2 hbase (fun t ht => (hown.lt t ht).1))
  | none =>
    have h0 := hr.nil rfl
    have hle := hr.le
    have hy : ys = [] := List.eq_nil_of_length_eq_zero (by omega)
    subst hy
    have hm : m = 0 := by simpa using hl.symm
    subst hm
    subst h0
    refine wpList_append_own_none hgd s x 22 ho base 5 i0 1 Try.underlying22 hi v n (xs.map B) hs hown hx ?_
    exact h v w (by simpa using hown) (Below.refl _ _)

end Go.Proofs.Ytjkbapjdojhdeaa
