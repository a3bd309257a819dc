/-
  No two rows of deltas lay in the same. Nothing is proved of the program here.
-/
import Derived.Test.YtgnkhfmpooomkaaDoorPunyQ
namespace Go.Proofs.YtgnkhfmpooomkaaDoor
set_option linter.unusedVariables false
open Go.RowKit

/-- All that was laid in is at most n, and what stands from i on is less. -/
structure Inv (n i : Nat) (cur : List Nat) : Prop where
  le : ∀ x ∈ cur, x ≤ n
  less : ∀ x ∈ cur.drop i, x < n

theorem lt_lt {n m : Nat} (h : n ≤ m) (l : List Nat) : lt n (lt m l) = lt n l := by
  unfold lt
  rw [List.filter_filter]
  apply List.filter_congr
  intro x _
  rw [Bool.eq_iff_iff]
  simp only [Bool.and_eq_true, decide_eq_true_eq]
  omega

theorem lt_all {n : Nat} {l : List Nat} (h : ∀ x ∈ l, x < n) : lt n l = l := by
  unfold lt
  exact List.filter_eq_self.2 fun x hx => by simpa using h x hx

theorem lt_ins {m x : Nat} (h : m ≤ x) (l : List Nat) (p : Nat) : lt m (ins l p x) = lt m l := by
  unfold ins lt
  rw [List.filter_append, List.filter_cons, if_neg (by simpa using h), ← List.filter_append, List.take_append_drop]

theorem ins_drop (l : List Nat) (p x : Nat) (h : p ≤ l.length) : (ins l p x).drop (p + 1) = l.drop p := by
  unfold ins
  have hl : (l.take p).length = p := by simp; omega
  rw [show p + 1 = (l.take p).length + 1 by omega, List.drop_append]
  simp
theorem ins_take (l : List Nat) (p x k : Nat) (h : p ≤ l.length) (hk : k ≤ p) : (ins l p x).take k = l.take k := by
  unfold ins
  rw [List.take_append_of_le_length (by simp; omega), List.take_take, Nat.min_eq_left hk]
theorem ins_take' (l : List Nat) (p x : Nat) (h : p ≤ l.length) : (ins l p x).take (p + 1) = l.take p ++ [x] := by
  unfold ins
  have hl : (l.take p).length = p := by simp; omega
  rw [List.take_append, hl, List.take_of_length_le (by omega)]
  simp
theorem ins_mem {l : List Nat} {p x y : Nat} (h : y ∈ ins l p x) : y = x ∨ y ∈ l := by
  unfold ins at h
  rcases List.mem_append.1 h with h | h
  · exact .inr (List.mem_of_mem_take h)
  · rcases List.mem_cons.1 h with h | h
    · exact .inl h
    · exact .inr (List.mem_of_mem_drop h)

/-- Where a delta leads. -/
theorem goes (n i v L : Nat) (hL : 0 < L) : (i + v) % L ≤ L - 1 ∧ n ≤ n + (i + v) / L ∧ (n + (i + v) / L = n → (i + v) % L = i + v) := by
  refine ⟨by have := Nat.mod_lt (i + v) hL; omega, Nat.le_add_right _ _, fun h => ?_⟩
  have h0 : (i + v) / L = 0 := by omega
  have := Nat.mod_add_div (i + v) L
  rw [h0, Nat.mul_zero, Nat.add_zero] at this
  exact this

theorem inv_step {n i : Nat} {cur : List Nat} (h : Inv n i cur) (v : Nat) : Inv (n + (i + v) / (cur.length + 1)) ((i + v) % (cur.length + 1) + 1) (ins cur ((i + v) % (cur.length + 1)) (n + (i + v) / (cur.length + 1))) := by
  obtain ⟨g1, g2, g3⟩ := goes n i v (cur.length + 1) (by omega)
  generalize n + (i + v) / (cur.length + 1) = n' at *
  generalize (i + v) % (cur.length + 1) = p at *
  refine ⟨fun x hx => ?_, fun x hx => ?_⟩
  · rcases ins_mem hx with rfl | hx
    · exact Nat.le_refl _
    · exact Nat.le_trans (h.le x hx) g2
  · rw [ins_drop cur p n' (by omega)] at hx
    by_cases e : n' = n
    · have hp := g3 e
      rw [e]
      refine h.less x ?_
      rw [hp, Nat.add_comm i v] at hx
      rw [show v + i = i + v by omega, ← List.drop_drop] at hx
      exact List.mem_of_mem_drop hx
    · have := h.le x (List.mem_of_mem_drop hx)
      omega

theorem lay_keeps : ∀ (vs : List Nat) (n i : Nat) (cur l : List Nat), Inv n i cur → lay n i cur vs = some l → lt n l = lt n cur ∧ (lt (n + 1) l).take i = cur.take i ∧ l.length = cur.length + vs.length
  | [], n, i, cur, l, h, e => by
    simp only [lay, Option.some.injEq] at e
    subst e
    refine ⟨rfl, ?_, by simp⟩
    rw [lt_all fun x hx => by have := h.le x hx; omega]
  | v :: vs, n, i, cur, l, h, e => by
    rw [lay] at e
    split at e
    · have hs := inv_step h v
      obtain ⟨k1, k2, k3⟩ := lay_keeps vs _ _ _ l hs e
      rw [ins_len] at k3
      obtain ⟨g1, g2, g3⟩ := goes n i v (cur.length + 1) (by omega)
      clear e hs
      generalize n + (i + v) / (cur.length + 1) = n' at *
      generalize hp : (i + v) % (cur.length + 1) = p at *
      refine ⟨?_, ?_, by simp; omega⟩
      · rw [← lt_lt g2 l, k1, lt_lt g2, lt_ins g2]
      · by_cases c : n' = n
        · subst c
          have := g3 rfl
          have e1 : ((lt (n' + 1) l).take (p + 1)).take i = (lt (n' + 1) l).take i := by rw [List.take_take, Nat.min_eq_left (by omega)]
          rw [← e1, k2, List.take_take, Nat.min_eq_left (by omega), ins_take _ _ _ _ (by omega) (by omega)]
        · have c2 : n + 1 ≤ n' := by omega
          rw [← lt_lt c2 l, k1, lt_lt c2, lt_ins c2, lt_all fun x hx => by have := h.le x hx; omega]
    · simp at e

theorem lay_less {n i : Nat} {cur l : List Nat} {v u : Nat} {vs us : List Nat} (h : Inv n i cur) (h1 : lay n i cur (v :: vs) = some l) (h2 : lay n i cur (u :: us) = some l) (hlt : v < u) : False := by
  rw [lay] at h1 h2
  split at h1
  · split at h2
    · obtain ⟨_, a2, a3⟩ := lay_keeps vs _ _ _ l (inv_step h v) h1
      obtain ⟨b1, b2, b3⟩ := lay_keeps us _ _ _ l (inv_step h u) h2
      obtain ⟨g1, g2, g3⟩ := goes n i v (cur.length + 1) (by omega)
      obtain ⟨f1, f2, f3⟩ := goes n i u (cur.length + 1) (by omega)
      have m1 := Nat.mod_add_div (i + v) (cur.length + 1)
      have m2 := Nat.mod_add_div (i + u) (cur.length + 1)
      have hle : (i + v) / (cur.length + 1) ≤ (i + u) / (cur.length + 1) := Nat.div_le_div_right (by omega)
      have hcase : n + (i + v) / (cur.length + 1) < n + (i + u) / (cur.length + 1) ∨ (n + (i + v) / (cur.length + 1) = n + (i + u) / (cur.length + 1) ∧ (i + v) % (cur.length + 1) < (i + u) % (cur.length + 1)) := by
        rcases Nat.lt_or_ge ((i + v) / (cur.length + 1)) ((i + u) / (cur.length + 1)) with c | c
        · left; omega
        · right
          have c' : (i + v) / (cur.length + 1) = (i + u) / (cur.length + 1) := by omega
          refine ⟨by omega, ?_⟩
          rw [c'] at m1
          omega
      clear h1 h2 m1 m2 hle
      generalize n + (i + v) / (cur.length + 1) = n1 at *
      generalize (i + v) % (cur.length + 1) = p1 at *
      generalize n + (i + u) / (cur.length + 1) = n2 at *
      generalize (i + u) % (cur.length + 1) = p2 at *
      have key : (lt (n1 + 1) l).take (p1 + 1) = cur.take (p1 + 1) := by
        rcases hcase with c | ⟨c, c2⟩
        · have c3 : n1 + 1 ≤ n2 := c
          rw [← lt_lt c3 l, b1, lt_lt c3, lt_ins c3, lt_all fun x hx => by have := h.le x hx; omega]
        · subst c
          have e1 : ((lt (n1 + 1) l).take (p2 + 1)).take (p1 + 1) = (lt (n1 + 1) l).take (p1 + 1) := by rw [List.take_take, Nat.min_eq_left (by omega)]
          rw [← e1, b2, List.take_take, Nat.min_eq_left (by omega), ins_take _ _ _ _ (by omega) (by omega)]
      rw [key, ins_take' cur p1 n1 (by omega)] at a2
      have hlen : (cur.take (p1 + 1)).length = p1 + 1 := by
        rw [a2]
        simp
        omega
      have hp : p1 < cur.length := by
        rw [List.length_take] at hlen
        omega
      have hget : cur[p1] = n1 := by
        rw [List.take_succ_eq_append_getElem hp] at a2
        have := List.append_cancel_left a2
        simpa using this
      by_cases c : n1 = n
      · have hp1 := g3 c
        have : cur[p1] ∈ cur.drop i := by
          rw [List.mem_iff_getElem]
          exact ⟨p1 - i, by simp; omega, by simp [show i + (p1 - i) = p1 by omega]⟩
        have := h.less _ this
        omega
      · have := h.le cur[p1] (List.getElem_mem hp)
        omega
    · simp at h2
  · simp at h1

theorem lay_inj : ∀ (vs us : List Nat) (n i : Nat) (cur l : List Nat), Inv n i cur → lay n i cur vs = some l → lay n i cur us = some l → vs = us
  | [], [], n, i, cur, l, h, h1, h2 => rfl
  | [], u :: us, n, i, cur, l, h, h1, h2 => by
    have a := (lay_keeps _ _ _ _ _ h h1).2.2
    have b := (lay_keeps _ _ _ _ _ h h2).2.2
    simp at a b
    omega
  | v :: vs, [], n, i, cur, l, h, h1, h2 => by
    have a := (lay_keeps _ _ _ _ _ h h1).2.2
    have b := (lay_keeps _ _ _ _ _ h h2).2.2
    simp at a b
    omega
  | v :: vs, u :: us, n, i, cur, l, h, h1, h2 => by
    have e : v = u := by
      rcases Nat.lt_trichotomy v u with c | c | c
      · exact absurd (lay_less h h1 h2 c) id
      · exact c
      · exact absurd (lay_less h h2 h1 c) id
    subst e
    have hs := inv_step h v
    rw [lay] at h1 h2
    split at h1
    · rename_i hc
      rw [if_pos hc] at h2
      rw [lay_inj vs us _ _ _ l hs h1 h2]
    · simp at h1
end Go.Proofs.YtgnkhfmpooomkaaDoor
