/-
  What was written as deltas is laid in as it was, and no other deltas lay the same. Nothing is proved of the program here.
-/
import Derived.Test.YtgnkhfmpooomkaaDoorPunyP
namespace Go.Proofs.YtgnkhfmpooomkaaDoor
set_option linter.unusedVariables false
open Go.RowKit

/-- One pass over the code points: a delta for each that is n; what is left over. -/
def pass (n : Nat) : Nat → List Nat → List Nat × Nat
  | delta, [] => ([], delta)
  | delta, x :: r => if x < n then pass n (delta + 1) r else if x = n then (delta :: (pass n 0 r).1, (pass n 0 r).2) else pass n delta r

def lt (n : Nat) (l : List Nat) : List Nat := l.filter fun x => decide (x < n)

theorem lt_cons (n x : Nat) (r : List Nat) : lt n (x :: r) = if x < n then x :: lt n r else lt n r := by
  unfold lt
  rw [List.filter_cons]
  simp

theorem ins_mid (A F : List Nat) (x : Nat) : ins (A ++ F) A.length x = A ++ x :: F := by
  unfold ins
  simp

/-- The deltas of one pass lay in what is n. -/
theorem lay_pass (n : Nat) (hn : cp n = true) (more : List Nat) : ∀ (r A : List Nat) (delta m i : Nat), m ≤ n → i + delta = (n - m) * ((A ++ lt n r).length + 1) + A.length → (A ++ lt (n + 1) r).length ≤ 63 →
    ∃ m' i', m' ≤ n ∧ i' + (pass n delta r).2 = (n - m') * ((A ++ lt (n + 1) r).length + 1) + (A ++ lt (n + 1) r).length ∧ lay m i (A ++ lt n r) ((pass n delta r).1 ++ more) = lay m' i' (A ++ lt (n + 1) r) more
  | [], A, delta, m, i, hm, h, hl => ⟨m, i, hm, by simpa [pass, lt] using h, by simp [pass, lt]⟩
  | x :: r, A, delta, m, i, hm, h, hl => by
    rw [lt_cons, lt_cons] at *
    rw [pass]
    by_cases c1 : x < n
    · have c1' : x < n + 1 := by omega
      rw [if_pos c1] at h ⊢
      rw [if_pos c1'] at hl ⊢
      rw [if_pos c1]
      have := lay_pass n hn more r (A ++ [x]) (delta + 1) m i hm (by simp at h ⊢; omega) (by simpa using hl)
      simpa using this
    · by_cases c2 : x = n
      · subst c2
        rw [if_neg c1] at h ⊢
        rw [if_pos (by omega : x < x + 1)] at hl ⊢
        rw [if_neg c1, if_pos rfl]
        have hq : (i + delta) / ((A ++ lt x r).length + 1) = x - m := by
          rw [h, Nat.mul_comm, Nat.mul_add_div (by omega), Nat.div_eq_of_lt (by simp; omega)]
          simp
        have hp : (i + delta) % ((A ++ lt x r).length + 1) = A.length := by
          rw [h, Nat.mul_comm, Nat.mul_add_mod, Nat.mod_eq_of_lt (by simp; omega)]
        have hlt : (A ++ lt x r).length < 63 := by
          have h1 : (lt x r).length ≤ (lt (x + 1) r).length := by
            unfold lt
            rw [← List.countP_eq_length_filter, ← List.countP_eq_length_filter]
            exact List.countP_mono_left fun y _ hy => by simp at hy ⊢; omega
          simp at hl ⊢
          omega
        have := lay_pass x hn more r (A ++ [x]) 0 x (A.length + 1) (Nat.le_refl _) (by simp) (by simpa using hl)
        obtain ⟨m', i', k1, k2, k3⟩ := this
        refine ⟨m', i', k1, by simpa using k2, ?_⟩
        simp only [List.cons_append]
        rw [lay, hq, hp, show m + (x - m) = x by omega, if_pos ⟨hn, hlt⟩, ins_mid]
        simpa using k3
      · have c3 : ¬ x < n + 1 := by omega
        simp only [if_neg c1, if_neg c2, if_neg c3] at h hl ⊢
        exact lay_pass n hn more r A delta m i hm h hl

theorem pass_len (n : Nat) : ∀ (r : List Nat) (delta : Nat), (pass n delta r).1.length + (lt n r).length = (lt (n + 1) r).length
  | [], delta => by simp [pass, lt]
  | x :: r, delta => by
    rw [lt_cons, lt_cons, pass]
    by_cases c1 : x < n
    · rw [if_pos c1, if_pos c1, if_pos (by omega)]
      have := pass_len n r (delta + 1)
      simp only [List.length_cons]
      omega
    · by_cases c2 : x = n
      · rw [if_neg c1, if_neg c1, if_pos c2, if_pos (by omega)]
        have := pass_len n r 0
        simp only [List.length_cons]
        omega
      · rw [if_neg c1, if_neg c1, if_neg c2, if_neg (by omega)]
        exact pass_len n r delta

/-- The smallest one that is not below n. -/
def nxt (n : Nat) (l : List Nat) : Nat := l.foldl (fun a x => if n ≤ x then min a x else a) 1114112

theorem foldl_nxt (n : Nat) : ∀ (l : List Nat) (a : Nat), (l.foldl (fun a x => if n ≤ x then min a x else a) a ≤ a) ∧ (∀ x ∈ l, n ≤ x → l.foldl (fun a x => if n ≤ x then min a x else a) a ≤ x) ∧ (l.foldl (fun a x => if n ≤ x then min a x else a) a = a ∨ (l.foldl (fun a x => if n ≤ x then min a x else a) a ∈ l ∧ n ≤ l.foldl (fun a x => if n ≤ x then min a x else a) a))
  | [], a => ⟨Nat.le_refl _, by simp, .inl rfl⟩
  | y :: l, a => by
    obtain ⟨h1, h2, h3⟩ := foldl_nxt n l (if n ≤ y then min a y else a)
    simp only [List.foldl_cons]
    generalize l.foldl (fun a x => if n ≤ x then min a x else a) (if n ≤ y then min a y else a) = z at *
    refine ⟨?_, ?_, ?_⟩
    · split at h1 <;> omega
    · intro x hx hn
      rcases List.mem_cons.1 hx with rfl | hx
      · rw [if_pos hn] at h1
        omega
      · exact h2 x hx hn
    · rcases h3 with h3 | ⟨h3, h4⟩
      · split at h3
        · rename_i c
          rcases Nat.le_total a y with g | g
          · left; omega
          · right
            have : z = y := by omega
            rw [this]
            exact ⟨List.mem_cons_self .., c⟩
        · left; exact h3
      · exact .inr ⟨List.mem_cons_of_mem _ h3, h4⟩

theorem nxt_spec {n : Nat} {l : List Nat} (h : ∃ x ∈ l, n ≤ x ∧ x ≤ 1114111) : nxt n l ∈ l ∧ n ≤ nxt n l ∧ ∀ x ∈ l, n ≤ x → nxt n l ≤ x := by
  obtain ⟨h1, h2, h3⟩ := foldl_nxt n l 1114112
  obtain ⟨x, hx, hn, hle⟩ := h
  have := h2 x hx hn
  unfold nxt
  rcases h3 with h3 | ⟨h3, h4⟩
  · omega
  · exact ⟨h3, h4, h2⟩

/-- All the deltas of l. -/
def dts : Nat → Nat → Nat → Nat → List Nat → List Nat
  | 0, n, delta, done, l => []
  | f + 1, n, delta, done, l => if done < l.length then (pass (nxt n l) (delta + (nxt n l - n) * (done + 1)) l).1 ++ dts f (nxt n l + 1) ((pass (nxt n l) (delta + (nxt n l - n) * (done + 1)) l).2 + 1) (done + (pass (nxt n l) (delta + (nxt n l - n) * (done + 1)) l).1.length) l else []

theorem lt_full {n : Nat} {l : List Nat} (h : l.length ≤ (lt n l).length) : lt n l = l := by
  have h2 : (lt n l).length = l.length := Nat.le_antisymm (List.length_filter_le _ _) h
  unfold lt at *
  exact List.filter_eq_self.2 (List.length_filter_eq_length_iff.1 h2)

theorem lt_nxt {n m : Nat} {l : List Nat} (hm : n ≤ m) (h : ∀ x ∈ l, n ≤ x → m ≤ x) : lt m l = lt n l := by
  unfold lt
  apply List.filter_congr
  intro x hx
  apply decide_eq_decide.2
  constructor
  · intro h1
    rcases Nat.lt_or_ge x n with h2 | h2
    · exact h2
    · have := h x hx h2
      omega
  · omega

theorem lt_exists {n : Nat} {l : List Nat} (h : (lt n l).length < l.length) : ∃ x ∈ l, n ≤ x := by
  refine Classical.byContradiction fun hc => ?_
  have : lt n l = l := by
    unfold lt
    apply List.filter_eq_self.2
    intro x hx
    rcases Nat.lt_or_ge x n with h2 | h2
    · simpa using h2
    · exact absurd ⟨x, hx, h2⟩ hc
  rw [this] at h
  omega

theorem countP_less {p q : Nat → Bool} (l : List Nat) (h : ∀ x, p x = true → q x = true) (i : Nat) (hi : i ∈ l) (hq : q i = true) (hp : p i = false) : l.countP p < l.countP q := by
  induction l with
  | nil => cases hi
  | cons x r ih =>
    have hle : r.countP p ≤ r.countP q := List.countP_mono_left fun y _ => h y
    rw [List.countP_cons, List.countP_cons]
    rcases List.mem_cons.1 hi with rfl | hr
    · simp [hp, hq]; omega
    · have := ih hr
      cases hpx : p x
      · simp; omega
      · simp [h x hpx]; omega

/-- What was written as deltas is laid in as it was. -/
theorem lay_dts (l : List Nat) (hl : l.length ≤ 63) (hv : ∀ x ∈ l, cp x = true) : ∀ (f n delta m i : Nat), l.length - (lt n l).length ≤ f → m ≤ n → i + delta = (n - m) * ((lt n l).length + 1) → lay m i (lt n l) (dts f n delta (lt n l).length l) = some l
  | f, n, delta, m, i, hf, hm, h => by
    by_cases c : (lt n l).length < l.length
    · cases f with
      | zero => omega
      | succ f =>
        obtain ⟨x, hx, hnx⟩ := lt_exists c
        have hxv := hv x hx
        obtain ⟨g1, g2, g3⟩ := nxt_spec ⟨x, hx, hnx, by unfold cp at hxv; simp at hxv; omega⟩
        have e := lt_nxt g2 g3
        rw [dts, if_pos c]
        have hle : ([] ++ lt (nxt n l + 1) l).length ≤ 63 := by
          have := List.length_filter_le (fun x => decide (x < nxt n l + 1)) l
          unfold lt
          simp only [List.nil_append]
          omega
        have hcond : i + (delta + (nxt n l - n) * ((lt n l).length + 1)) = (nxt n l - m) * (([] ++ lt (nxt n l) l).length + 1) + ([] : List Nat).length := by
          rw [List.nil_append, e, ← Nat.add_assoc, h, ← Nat.add_mul]
          simp only [List.length_nil, Nat.add_zero]
          congr 1
          omega
        have hn1 : 1 ≤ (pass (nxt n l) (delta + (nxt n l - n) * ((lt n l).length + 1)) l).1.length := by
          have h1 := pass_len (nxt n l) l (delta + (nxt n l - n) * ((lt n l).length + 1))
          have h2 : (lt (nxt n l) l).length < (lt (nxt n l + 1) l).length := by
            unfold lt
            rw [← List.countP_eq_length_filter, ← List.countP_eq_length_filter]
            exact countP_less l (fun y hy => by simp at hy ⊢; omega) (nxt n l) g1 (by simp) (by simp)
          omega
        obtain ⟨m', i', k1, k2, k3⟩ := lay_pass (nxt n l) (hv _ g1) (dts f (nxt n l + 1) ((pass (nxt n l) (delta + (nxt n l - n) * ((lt n l).length + 1)) l).2 + 1) ((lt n l).length + (pass (nxt n l) (delta + (nxt n l - n) * ((lt n l).length + 1)) l).1.length) l) l [] (delta + (nxt n l - n) * ((lt n l).length + 1)) m i (by omega) hcond hle
        simp only [List.nil_append] at k2 k3
        have e3 : (lt n l).length + (pass (nxt n l) (delta + (nxt n l - n) * ((lt n l).length + 1)) l).1.length = (lt (nxt n l + 1) l).length := by
          have := pass_len (nxt n l) l (delta + (nxt n l - n) * ((lt n l).length + 1))
          rw [e] at this
          omega
        rw [e] at k3
        rw [k3, e3]
        refine lay_dts l hl hv f (nxt n l + 1) _ m' i' (by omega) (by omega) ?_
        rw [← Nat.add_assoc, k2, show nxt n l + 1 - m' = (nxt n l - m') + 1 by omega, Nat.add_mul, Nat.one_mul]
        omega
    · have e := lt_full (n := n) (l := l) (by omega)
      rw [e]
      cases f with
      | zero => simp [dts, lay]
      | succ f => rw [dts, if_neg (by omega), lay]
end Go.Proofs.YtgnkhfmpooomkaaDoor
