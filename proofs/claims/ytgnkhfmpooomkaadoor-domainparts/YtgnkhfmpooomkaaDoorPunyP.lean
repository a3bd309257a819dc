/-
  Plain facts of code points as letters: numbers of a changing base, and the order in which code points are laid in. Nothing is proved of the program here.
-/
import Derived.Test.YtgnkhfmpooomkaaDoorGen
namespace Go.Proofs.YtgnkhfmpooomkaaDoor
set_option linter.unusedVariables false
open Go.RowKit

/-- The threshold of a place. -/
def thr (k bias : Nat) : Nat := min (max (k - bias) 1) 26
theorem thr_pos (k bias : Nat) : 1 ≤ thr k bias := by unfold thr; omega
theorem thr_le (k bias : Nat) : thr k bias ≤ 26 := by unfold thr; omega

def adLoop : Nat → Nat → Nat → Nat
  | 0, d, k => k + 36 * d / (d + 38)
  | f + 1, d, k => if 455 < d then adLoop f (d / 35) (k + 36) else k + 36 * d / (d + 38)
/-- The next bias. -/
def adp (delta points : Nat) (first : Bool) : Nat := adLoop 64 ((if first then delta / 700 else delta / 2) + (if first then delta / 700 else delta / 2) / points) 0

/-- A number's digits, the smallest place first. -/
def vEnc (bias : Nat) : Nat → Nat → Nat → List Nat
  | 0, _, q => [q]
  | f + 1, k, q => if q < thr k bias then [q] else (thr k bias + (q - thr k bias) % (36 - thr k bias)) :: vEnc bias f (k + 36) ((q - thr k bias) / (36 - thr k bias))
/-- The number that digits begin with, and what is left. -/
def vDec (bias : Nat) : List Nat → Nat → Option (Nat × List Nat)
  | [], _ => none
  | d :: r, k => if d < thr k bias then some (d, r) else (vDec bias r (k + 36)).map fun p => (d + (36 - thr k bias) * p.1, p.2)

theorem div_less (q t : Nat) (h : t ≤ q) (h1 : 1 ≤ t) (h2 : t ≤ 26) : (q - t) / (36 - t) < q :=
  Nat.lt_of_le_of_lt (Nat.div_le_self _ _) (by omega)

theorem vDec_vEnc (bias : Nat) : ∀ (f k q : Nat) (rest : List Nat), q ≤ f → vDec bias (vEnc bias f k q ++ rest) k = some (q, rest)
  | 0, k, q, rest, h => by
    have hp := thr_pos k bias
    have e : q = 0 := by omega
    subst e
    simp only [vEnc, List.cons_append, List.nil_append, vDec]
    rw [if_pos (by omega)]
  | f + 1, k, q, rest, h => by
    have hp := thr_pos k bias
    have hl := thr_le k bias
    rw [vEnc]
    by_cases c : q < thr k bias
    · rw [if_pos c]
      simp only [List.cons_append, List.nil_append, vDec]
      rw [if_pos c]
    · rw [if_neg c]
      simp only [List.cons_append, vDec]
      have hlt := div_less q (thr k bias) (by omega) hp hl
      rw [if_neg (by omega), vDec_vEnc bias f (k + 36) _ rest (by omega)]
      simp only [Option.map_some, Option.some.injEq, Prod.mk.injEq, and_true]
      have := Nat.mod_add_div (q - thr k bias) (36 - thr k bias)
      omega

theorem vEnc_vDec (bias : Nat) : ∀ (ds : List Nat) (k v : Nat) (r : List Nat), (∀ d ∈ ds, d < 36) → vDec bias ds k = some (v, r) → ∀ f, v ≤ f → ds = vEnc bias f k v ++ r
  | [], k, v, r, _, h, f, hf => by simp [vDec] at h
  | d :: ds, k, v, r, hd, h, f, hf => by
    have hp := thr_pos k bias
    have hl := thr_le k bias
    have hd0 := hd d (List.mem_cons_self ..)
    rw [vDec] at h
    by_cases c : d < thr k bias
    · rw [if_pos c] at h
      simp only [Option.some.injEq, Prod.mk.injEq] at h
      obtain ⟨rfl, rfl⟩ := h
      cases f with
      | zero => rfl
      | succ f => rw [vEnc, if_pos c]; rfl
    · rw [if_neg c] at h
      cases hv : vDec bias ds (k + 36) with
      | none => rw [hv] at h; simp at h
      | some p =>
        obtain ⟨u, s⟩ := p
        rw [hv] at h
        simp only [Option.map_some, Option.some.injEq, Prod.mk.injEq] at h
        obtain ⟨h1, rfl⟩ := h
        have hvn : thr k bias ≤ v := by
          rw [← h1]
          exact Nat.le_trans (by omega) (Nat.le_add_right d _)
        have e1 : v - thr k bias = (d - thr k bias) + (36 - thr k bias) * u := by omega
        have e2 : (v - thr k bias) % (36 - thr k bias) = d - thr k bias := by
          rw [e1, Nat.add_mul_mod_self_left, Nat.mod_eq_of_lt (by omega)]
        have e3 : (v - thr k bias) / (36 - thr k bias) = u := by
          rw [e1, Nat.add_mul_div_left _ _ (by omega), Nat.div_eq_of_lt (by omega), Nat.zero_add]
        cases f with
        | zero => omega
        | succ f =>
          rw [vEnc, if_neg (by omega), e2, e3]
          have hu := div_less v (thr k bias) hvn hp hl
          rw [e3] at hu
          rw [vEnc_vDec bias ds (k + 36) u s (fun x hx => hd x (List.mem_cons_of_mem _ hx)) hv f (by omega)]
          rw [List.cons_append]
          congr 1
          omega

theorem vDec_len (bias : Nat) : ∀ (ds : List Nat) (k v : Nat) (r : List Nat), vDec bias ds k = some (v, r) → r.length < ds.length
  | [], k, v, r, h => by simp [vDec] at h
  | d :: ds, k, v, r, h => by
    rw [vDec] at h
    split at h
    · simp only [Option.some.injEq, Prod.mk.injEq] at h
      rw [← h.2]
      simp
    · cases hv : vDec bias ds (k + 36) with
      | none => rw [hv] at h; simp at h
      | some p =>
        obtain ⟨u, s⟩ := p
        rw [hv] at h
        simp only [Option.map_some, Option.some.injEq, Prod.mk.injEq] at h
        have := vDec_len bias ds (k + 36) u s hv
        rw [← h.2, List.length_cons]
        omega

theorem vDec_rest (bias : Nat) : ∀ (ds : List Nat) (k v : Nat) (r : List Nat), vDec bias ds k = some (v, r) → ∀ x ∈ r, x ∈ ds
  | [], k, v, r, h => by simp [vDec] at h
  | d :: ds, k, v, r, h => by
    rw [vDec] at h
    split at h
    · simp only [Option.some.injEq, Prod.mk.injEq] at h
      rw [← h.2]
      exact fun x hx => List.mem_cons_of_mem _ hx
    · cases hv : vDec bias ds (k + 36) with
      | none => rw [hv] at h; simp at h
      | some p =>
        obtain ⟨u, s⟩ := p
        rw [hv] at h
        simp only [Option.map_some, Option.some.injEq, Prod.mk.injEq] at h
        rw [← h.2]
        exact fun x hx => List.mem_cons_of_mem _ (vDec_rest bias ds (k + 36) u s hv x hx)

/-- Is it a code point? -/
def cp (n : Nat) : Bool := decide (n ≤ 1114111) && !(decide (55296 ≤ n) && decide (n ≤ 57343))
def ins (l : List Nat) (p x : Nat) : List Nat := l.take p ++ x :: l.drop p

/-- Code points are laid in: each delta says how far on. -/
def lay : Nat → Nat → List Nat → List Nat → Option (List Nat)
  | n, i, l, [] => some l
  | n, i, l, v :: r =>
    if cp (n + (i + v) / (l.length + 1)) = true ∧ l.length < 63 then lay (n + (i + v) / (l.length + 1)) ((i + v) % (l.length + 1) + 1) (ins l ((i + v) % (l.length + 1)) (n + (i + v) / (l.length + 1))) r else none

/-- The digits of deltas; the digits read. -/
def digs : Nat → Nat → Bool → List Nat → List Nat
  | bias, len, first, [] => []
  | bias, len, first, v :: r => vEnc bias v 36 v ++ digs (adp v (len + 1) first) (len + 1) false r
def rd : Nat → Nat → Nat → Nat → List Nat → List Nat → Option (List Nat)
  | _, n, i, bias, l, [] => some l
  | 0, n, i, bias, l, _ :: _ => none
  | f + 1, n, i, bias, l, d :: ds =>
    match vDec bias (d :: ds) 36 with
    | none => none
    | some (v, r) =>
      if cp (n + (i + v) / (l.length + 1)) = true ∧ l.length < 63 then rd f (n + (i + v) / (l.length + 1)) ((i + v) % (l.length + 1) + 1) (adp v (l.length + 1) (i == 0)) (ins l ((i + v) % (l.length + 1)) (n + (i + v) / (l.length + 1))) r else none

theorem ins_len (l : List Nat) (p x : Nat) : (ins l p x).length = l.length + 1 := by
  unfold ins
  simp
  omega

theorem vEnc_ne (bias f k q : Nat) : vEnc bias f k q ≠ [] := by
  cases f <;> simp only [vEnc] <;> (try split) <;> simp

/-- What was written as digits is read as it was laid. -/
theorem rd_digs : ∀ (vs : List Nat) (f n i bias : Nat) (l : List Nat), vs.length ≤ f → rd f n i bias l (digs bias l.length (i == 0) vs) = lay n i l vs
  | [], f, n, i, bias, l, h => by cases f <;> simp [digs, rd, lay]
  | v :: vs, f, n, i, bias, l, h => by
    cases f with
    | zero => simp at h
    | succ f =>
      have hdec := vDec_vEnc bias v 36 v (digs (adp v (l.length + 1) (i == 0)) (l.length + 1) false vs) (Nat.le_refl _)
      rw [digs, lay]
      cases hc : vEnc bias v 36 v with
      | nil => exact absurd hc (vEnc_ne _ _ _ _)
      | cons d ds =>
        rw [hc] at hdec
        rw [List.cons_append, rd]
        rw [List.cons_append] at hdec
        simp only [hdec]
        split
        · have ih := rd_digs vs f (n + (i + v) / (l.length + 1)) ((i + v) % (l.length + 1) + 1) (adp v (l.length + 1) (i == 0)) (ins l ((i + v) % (l.length + 1)) (n + (i + v) / (l.length + 1))) (by simpa using h)
          rw [ins_len, show (((i + v) % (l.length + 1) + 1 : Nat) == 0) = false by simp] at ih
          exact ih
        · rfl

/-- What is read is the digits of what was laid. -/
theorem digs_rd : ∀ (f n i bias : Nat) (l ds out : List Nat), (∀ d ∈ ds, d < 36) → rd f n i bias l ds = some out → ∃ vs, ds = digs bias l.length (i == 0) vs ∧ lay n i l vs = some out
  | f, n, i, bias, l, [], out, hd, h => ⟨[], rfl, by cases f <;> simpa [rd, lay] using h⟩
  | 0, n, i, bias, l, d :: ds, out, hd, h => by simp [rd] at h
  | f + 1, n, i, bias, l, d :: ds, out, hd, h => by
    rw [rd] at h
    cases hv : vDec bias (d :: ds) 36 with
    | none => rw [hv] at h; simp at h
    | some p =>
      obtain ⟨v, r⟩ := p
      rw [hv] at h
      simp only at h
      split at h
      · rename_i hc
        have hr := fun x hx => hd x (vDec_rest bias (d :: ds) 36 v r hv x hx)
        obtain ⟨vs, e1, e2⟩ := digs_rd f _ _ _ _ r out hr h
        rw [ins_len, show (((i + v) % (l.length + 1) + 1 : Nat) == 0) = false by simp] at e1
        refine ⟨v :: vs, ?_, ?_⟩
        · rw [digs, ← e1]
          exact vEnc_vDec bias (d :: ds) 36 v r hd hv v (Nat.le_refl _)
        · rw [lay, if_pos hc]
          exact e2
      · simp at h
end Go.Proofs.YtgnkhfmpooomkaaDoor
