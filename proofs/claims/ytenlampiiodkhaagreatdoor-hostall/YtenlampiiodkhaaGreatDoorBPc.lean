/-
  PunyP, PunyQ, PunyI, PunyB, PunyM.
-/
import Derived.Test.YtenlampiiodkhaaGreatDoorBAc
namespace Go.Proofs.YtenlampiiodkhaaGreatDoor
set_option linter.unusedVariables false
open Go.RowKit
def thr (k bias : Nat) : Nat := min (max (k - bias) 1) 26
theorem thr_pos (k bias : Nat) : 1 ≤ thr k bias := by unfold thr; omega
theorem thr_le (k bias : Nat) : thr k bias ≤ 26 := by unfold thr; omega
def adLoop : Nat → Nat → Nat → Nat
  | 0, d, k => k + 36 * d / (d + 38)
  | f + 1, d, k => if 455 < d then adLoop f (d / 35) (k + 36) else k + 36 * d / (d + 38)
def adp (delta points : Nat) (first : Bool) : Nat := adLoop 64 ((if first then delta / 700 else delta / 2) + (if first then delta / 700 else delta / 2) / points) 0
def vEnc (bias : Nat) : Nat → Nat → Nat → List Nat
  | 0, _, q => [q]
  | f + 1, k, q => if q < thr k bias then [q] else (thr k bias + (q - thr k bias) % (36 - thr k bias)) :: vEnc bias f (k + 36) ((q - thr k bias) / (36 - thr k bias))
def vDec (bias : Nat) : List Nat → Nat → Option (Nat × List Nat)
  | [], _ => none
  | d :: r, k => if d < thr k bias then some (d, r) else (vDec bias r (k + 36)).map fun p => (d + (36 - thr k bias) * p.1, p.2)
theorem div_less (q t : Nat) (h : t ≤ q) (h1 : 1 ≤ t) (h2 : t ≤ 26) : (q - t) / (36 - t) < q :=
  Nat.lt_of_le_of_lt (Nat.div_le_self _ _) (by omega)
theorem vDec_vEnc (bias : Nat) : ∀ (f k q : Nat) (rest : List Nat), q ≤ f → vDec bias (vEnc bias f k q ++ rest) k = some (q, rest)
  | 0, k, q, rest, h => by
    have hp := thr_pos k bias; have e : q = 0 := by omega
    subst e; simp only [vEnc, List.cons_append, List.nil_append, vDec]; rw [if_pos (by omega)]
  | f + 1, k, q, rest, h => by
    have hp := thr_pos k bias; have hl := thr_le k bias; rw [vEnc]; by_cases c : q < thr k bias
    · rw [if_pos c]; simp only [List.cons_append, List.nil_append, vDec]; rw [if_pos c]
    · rw [if_neg c]; simp only [List.cons_append, vDec]; have hlt := div_less q (thr k bias) (by omega) hp hl; rw [if_neg (by omega), vDec_vEnc bias f (k + 36) _ rest (by omega)]; simp only [Option.map_some, Option.some.injEq, Prod.mk.injEq, and_true]; have := Nat.mod_add_div (q - thr k bias) (36 - thr k bias); omega
theorem vEnc_vDec (bias : Nat) : ∀ (ds : List Nat) (k v : Nat) (r : List Nat), (∀ d ∈ ds, d < 36) → vDec bias ds k = some (v, r) → ∀ f, v ≤ f → ds = vEnc bias f k v ++ r
  | [], k, v, r, _, h, f, hf => by simp [vDec] at h
  | d :: ds, k, v, r, hd, h, f, hf => by
    have hp := thr_pos k bias; have hl := thr_le k bias; have hd0 := hd d (List.mem_cons_self ..); rw [vDec] at h; by_cases c : d < thr k bias
    · rw [if_pos c] at h; simp only [Option.some.injEq, Prod.mk.injEq] at h; obtain ⟨rfl, rfl⟩ := h
      cases f with
      | zero => rfl
      | succ f => rw [vEnc, if_pos c]; rfl
    · rw [if_neg c] at h
      cases hv : vDec bias ds (k + 36) with
      | none => rw [hv] at h; simp at h
      | some p =>
        obtain ⟨u, s⟩ := p; rw [hv] at h; simp only [Option.map_some, Option.some.injEq, Prod.mk.injEq] at h; obtain ⟨h1, rfl⟩ := h; have hvn : thr k bias ≤ v := by
          rw [← h1]; exact Nat.le_trans (by omega) (Nat.le_add_right d _)
        have e1 : v - thr k bias = (d - thr k bias) + (36 - thr k bias) * u := by omega
        have e2 : (v - thr k bias) % (36 - thr k bias) = d - thr k bias := by
          rw [e1, Nat.add_mul_mod_self_left, Nat.mod_eq_of_lt (by omega)]
        have e3 : (v - thr k bias) / (36 - thr k bias) = u := by
          rw [e1, Nat.add_mul_div_left _ _ (by omega), Nat.div_eq_of_lt (by omega), Nat.zero_add]
        cases f with
        | zero => omega
        | succ f =>
          rw [vEnc, if_neg (by omega), e2, e3]; have hu := div_less v (thr k bias) hvn hp hl; rw [e3] at hu; rw [vEnc_vDec bias ds (k + 36) u s (fun x hx => hd x (List.mem_cons_of_mem _ hx)) hv f (by omega)]; rw [List.cons_append]; congr 1; omega
theorem vDec_rest (bias : Nat) : ∀ (ds : List Nat) (k v : Nat) (r : List Nat), vDec bias ds k = some (v, r) → ∀ x ∈ r, x ∈ ds
  | [], k, v, r, h => by simp [vDec] at h
  | d :: ds, k, v, r, h => by
    rw [vDec] at h
    split at h
    · simp only [Option.some.injEq, Prod.mk.injEq] at h; rw [← h.2]; exact fun x hx => List.mem_cons_of_mem _ hx
    · cases hv : vDec bias ds (k + 36) with
      | none => rw [hv] at h; simp at h
      | some p =>
        obtain ⟨u, s⟩ := p; rw [hv] at h; simp only [Option.map_some, Option.some.injEq, Prod.mk.injEq] at h; rw [← h.2]; exact fun x hx => List.mem_cons_of_mem _ (vDec_rest bias ds (k + 36) u s hv x hx)
def cp (n : Nat) : Bool := decide (n ≤ 1114111) && !(decide (55296 ≤ n) && decide (n ≤ 57343))
def ins (l : List Nat) (p x : Nat) : List Nat := l.take p ++ x :: l.drop p
def lay : Nat → Nat → List Nat → List Nat → Option (List Nat)
  | n, i, l, [] => some l
  | n, i, l, v :: r =>
    if cp (n + (i + v) / (l.length + 1)) = true ∧ l.length < 63 then lay (n + (i + v) / (l.length + 1)) ((i + v) % (l.length + 1) + 1) (ins l ((i + v) % (l.length + 1)) (n + (i + v) / (l.length + 1))) r else none
def digs : Nat → Nat → Bool → List Nat → List Nat
  | bias, len, first, [] => []
  | bias, len, first, v :: r => vEnc bias v 36 v ++ digs (adp v (len + 1) first) (len + 1) false r
def rd : Nat → Nat → Nat → Nat → List Nat → List Nat → Option (List Nat)
  | _, n, i, bias, l, [] => some l
  | 0, n, i, bias, l, _ :: _ => none
  | f + 1, n, i, bias, l, d :: ds =>
    match vDec bias (d :: ds) 36 with
    | none => none
    | some (v, r) =>
      if cp (n + (i + v) / (l.length + 1)) = true ∧ l.length < 63 then rd f (n + (i + v) / (l.length + 1)) ((i + v) % (l.length + 1) + 1) (adp v (l.length + 1) (i == 0)) (ins l ((i + v) % (l.length + 1)) (n + (i + v) / (l.length + 1))) r else none
theorem ins_len (l : List Nat) (p x : Nat) : (ins l p x).length = l.length + 1 := by
  unfold ins; simp; omega
theorem vEnc_ne (bias f k q : Nat) : vEnc bias f k q ≠ [] := by
  cases f <;> simp only [vEnc] <;> (try split) <;> simp
theorem rd_digs : ∀ (vs : List Nat) (f n i bias : Nat) (l : List Nat), vs.length ≤ f → rd f n i bias l (digs bias l.length (i == 0) vs) = lay n i l vs
  | [], f, n, i, bias, l, h => by cases f <;> simp [digs, rd, lay]
  | v :: vs, f, n, i, bias, l, h => by
    cases f with
    | zero => simp at h
    | succ f =>
      have hdec := vDec_vEnc bias v 36 v (digs (adp v (l.length + 1) (i == 0)) (l.length + 1) false vs) (Nat.le_refl _); rw [digs, lay]
      cases hc : vEnc bias v 36 v with
      | nil => exact absurd hc (vEnc_ne _ _ _ _)
      | cons d ds =>
        rw [hc] at hdec; rw [List.cons_append, rd]; rw [List.cons_append] at hdec; simp only [hdec]
        split
        · have ih := rd_digs vs f (n + (i + v) / (l.length + 1)) ((i + v) % (l.length + 1) + 1) (adp v (l.length + 1) (i == 0)) (ins l ((i + v) % (l.length + 1)) (n + (i + v) / (l.length + 1))) (by simpa using h); rw [ins_len, show (((i + v) % (l.length + 1) + 1 : Nat) == 0) = false by simp] at ih; exact ih
        · rfl
theorem digs_rd : ∀ (f n i bias : Nat) (l ds out : List Nat), (∀ d ∈ ds, d < 36) → rd f n i bias l ds = some out → ∃ vs, ds = digs bias l.length (i == 0) vs ∧ lay n i l vs = some out
  | f, n, i, bias, l, [], out, hd, h => ⟨[], rfl, by cases f <;> simpa [rd, lay] using h⟩
  | 0, n, i, bias, l, d :: ds, out, hd, h => by simp [rd] at h
  | f + 1, n, i, bias, l, d :: ds, out, hd, h => by
    rw [rd] at h
    cases hv : vDec bias (d :: ds) 36 with
    | none => rw [hv] at h; simp at h
    | some p =>
      obtain ⟨v, r⟩ := p; rw [hv] at h; simp only at h
      split at h
      · rename_i hc; have hr := fun x hx => hd x (vDec_rest bias (d :: ds) 36 v r hv x hx); obtain ⟨vs, e1, e2⟩ := digs_rd f _ _ _ _ r out hr h; rw [ins_len, show (((i + v) % (l.length + 1) + 1 : Nat) == 0) = false by simp] at e1; refine ⟨v :: vs, ?_, ?_⟩
        · rw [digs, ← e1]; exact vEnc_vDec bias (d :: ds) 36 v r hd hv v (Nat.le_refl _)
        · rw [lay, if_pos hc]; exact e2
      · simp at h
end Go.Proofs.YtenlampiiodkhaaGreatDoor
namespace Go.Proofs.YtenlampiiodkhaaGreatDoor
set_option linter.unusedVariables false
open Go.RowKit
def pass (n : Nat) : Nat → List Nat → List Nat × Nat
  | delta, [] => ([], delta)
  | delta, x :: r => if x < n then pass n (delta + 1) r else if x = n then (delta :: (pass n 0 r).1, (pass n 0 r).2) else pass n delta r
def lt (n : Nat) (l : List Nat) : List Nat := l.filter fun x => decide (x < n)
theorem lt_cons (n x : Nat) (r : List Nat) : lt n (x :: r) = if x < n then x :: lt n r else lt n r := by
  unfold lt; rw [List.filter_cons]; simp
theorem ins_mid (A F : List Nat) (x : Nat) : ins (A ++ F) A.length x = A ++ x :: F := by
  unfold ins; simp
theorem lay_pass (n : Nat) (hn : cp n = true) (more : List Nat) : ∀ (r A : List Nat) (delta m i : Nat), m ≤ n → i + delta = (n - m) * ((A ++ lt n r).length + 1) + A.length → (A ++ lt (n + 1) r).length ≤ 63 →
    ∃ m' i', m' ≤ n ∧ i' + (pass n delta r).2 = (n - m') * ((A ++ lt (n + 1) r).length + 1) + (A ++ lt (n + 1) r).length ∧ lay m i (A ++ lt n r) ((pass n delta r).1 ++ more) = lay m' i' (A ++ lt (n + 1) r) more
  | [], A, delta, m, i, hm, h, hl => ⟨m, i, hm, by simpa [pass, lt] using h, by simp [pass, lt]⟩
  | x :: r, A, delta, m, i, hm, h, hl => by
    rw [lt_cons, lt_cons] at *; rw [pass]; by_cases c1 : x < n
    · have c1' : x < n + 1 := by omega
      rw [if_pos c1] at h ⊢; rw [if_pos c1'] at hl ⊢; rw [if_pos c1]; have := lay_pass n hn more r (A ++ [x]) (delta + 1) m i hm (by simp at h ⊢; omega) (by simpa using hl); simpa using this
    · by_cases c2 : x = n
      · subst c2; rw [if_neg c1] at h ⊢; rw [if_pos (by omega : x < x + 1)] at hl ⊢; rw [if_neg c1, if_pos rfl]; have hq : (i + delta) / ((A ++ lt x r).length + 1) = x - m := by
          rw [h, Nat.mul_comm, Nat.mul_add_div (by omega), Nat.div_eq_of_lt (by simp; omega)]; simp
        have hp : (i + delta) % ((A ++ lt x r).length + 1) = A.length := by
          rw [h, Nat.mul_comm, Nat.mul_add_mod, Nat.mod_eq_of_lt (by simp; omega)]
        have hlt : (A ++ lt x r).length < 63 := by
          have h1 : (lt x r).length ≤ (lt (x + 1) r).length := by
            unfold lt; rw [← List.countP_eq_length_filter, ← List.countP_eq_length_filter]; exact List.countP_mono_left fun y _ hy => by simp at hy ⊢; omega
          simp at hl ⊢; omega
        have := lay_pass x hn more r (A ++ [x]) 0 x (A.length + 1) (Nat.le_refl _) (by simp) (by simpa using hl); obtain ⟨m', i', k1, k2, k3⟩ := this; refine ⟨m', i', k1, by simpa using k2, ?_⟩; simp only [List.cons_append]; rw [lay, hq, hp, show m + (x - m) = x by omega, if_pos ⟨hn, hlt⟩, ins_mid]; simpa using k3
      · have c3 : ¬ x < n + 1 := by omega
        simp only [if_neg c1, if_neg c2, if_neg c3] at h hl ⊢; exact lay_pass n hn more r A delta m i hm h hl
theorem pass_len (n : Nat) : ∀ (r : List Nat) (delta : Nat), (pass n delta r).1.length + (lt n r).length = (lt (n + 1) r).length
  | [], delta => by simp [pass, lt]
  | x :: r, delta => by
    rw [lt_cons, lt_cons, pass]; by_cases c1 : x < n
    · rw [if_pos c1, if_pos c1, if_pos (by omega)]; have := pass_len n r (delta + 1); simp only [List.length_cons]; omega
    · by_cases c2 : x = n
      · rw [if_neg c1, if_neg c1, if_pos c2, if_pos (by omega)]; have := pass_len n r 0; simp only [List.length_cons]; omega
      · rw [if_neg c1, if_neg c1, if_neg c2, if_neg (by omega)]; exact pass_len n r delta
def nxt (n : Nat) (l : List Nat) : Nat := l.foldl (fun a x => if n ≤ x then min a x else a) 1114112
theorem foldl_nxt (n : Nat) : ∀ (l : List Nat) (a : Nat), (l.foldl (fun a x => if n ≤ x then min a x else a) a ≤ a) ∧ (∀ x ∈ l, n ≤ x → l.foldl (fun a x => if n ≤ x then min a x else a) a ≤ x) ∧ (l.foldl (fun a x => if n ≤ x then min a x else a) a = a ∨ (l.foldl (fun a x => if n ≤ x then min a x else a) a ∈ l ∧ n ≤ l.foldl (fun a x => if n ≤ x then min a x else a) a))
  | [], a => ⟨Nat.le_refl _, by simp, .inl rfl⟩
  | y :: l, a => by
    obtain ⟨h1, h2, h3⟩ := foldl_nxt n l (if n ≤ y then min a y else a); simp only [List.foldl_cons]; generalize l.foldl (fun a x => if n ≤ x then min a x else a) (if n ≤ y then min a y else a) = z at *; refine ⟨?_, ?_, ?_⟩
    · split at h1 <;> omega
    · intro x hx hn; rcases List.mem_cons.1 hx with rfl | hx
      · rw [if_pos hn] at h1; omega
      · exact h2 x hx hn
    · rcases h3 with h3 | ⟨h3, h4⟩
      · split at h3
        · rename_i c; rcases Nat.le_total a y with g | g
          · left; omega
          · right; have : z = y := by omega
            rw [this]; exact ⟨List.mem_cons_self .., c⟩
        · left; exact h3
      · exact .inr ⟨List.mem_cons_of_mem _ h3, h4⟩
theorem nxt_spec {n : Nat} {l : List Nat} (h : ∃ x ∈ l, n ≤ x ∧ x ≤ 1114111) : nxt n l ∈ l ∧ n ≤ nxt n l ∧ ∀ x ∈ l, n ≤ x → nxt n l ≤ x := by
  obtain ⟨h1, h2, h3⟩ := foldl_nxt n l 1114112; obtain ⟨x, hx, hn, hle⟩ := h; have := h2 x hx hn; unfold nxt; rcases h3 with h3 | ⟨h3, h4⟩
  · omega
  · exact ⟨h3, h4, h2⟩
def dts : Nat → Nat → Nat → Nat → List Nat → List Nat
  | 0, n, delta, done, l => []
  | f + 1, n, delta, done, l => if done < l.length then (pass (nxt n l) (delta + (nxt n l - n) * (done + 1)) l).1 ++ dts f (nxt n l + 1) ((pass (nxt n l) (delta + (nxt n l - n) * (done + 1)) l).2 + 1) (done + (pass (nxt n l) (delta + (nxt n l - n) * (done + 1)) l).1.length) l else []
theorem lt_full {n : Nat} {l : List Nat} (h : l.length ≤ (lt n l).length) : lt n l = l := by
  have h2 : (lt n l).length = l.length := Nat.le_antisymm (List.length_filter_le _ _) h; unfold lt at *; exact List.filter_eq_self.2 (List.length_filter_eq_length_iff.1 h2)
theorem lt_nxt {n m : Nat} {l : List Nat} (hm : n ≤ m) (h : ∀ x ∈ l, n ≤ x → m ≤ x) : lt m l = lt n l := by
  unfold lt; apply List.filter_congr; intro x hx; apply decide_eq_decide.2; constructor
  · intro h1; rcases Nat.lt_or_ge x n with h2 | h2
    · exact h2
    · have := h x hx h2; omega
  · omega
theorem lt_exists {n : Nat} {l : List Nat} (h : (lt n l).length < l.length) : ∃ x ∈ l, n ≤ x := by
  refine Classical.byContradiction fun hc => ?_; have : lt n l = l := by
    unfold lt; apply List.filter_eq_self.2; intro x hx; rcases Nat.lt_or_ge x n with h2 | h2
    · simpa using h2
    · exact absurd ⟨x, hx, h2⟩ hc
  rw [this] at h; omega
theorem countP_less {p q : Nat → Bool} (l : List Nat) (h : ∀ x, p x = true → q x = true) (i : Nat) (hi : i ∈ l) (hq : q i = true) (hp : p i = false) : l.countP p < l.countP q := by
  induction l with
  | nil => cases hi
  | cons x r ih =>
    have hle : r.countP p ≤ r.countP q := List.countP_mono_left fun y _ => h y; rw [List.countP_cons, List.countP_cons]; rcases List.mem_cons.1 hi with rfl | hr
    · simp [hp, hq]; omega
    · have := ih hr
      cases hpx : p x
      · simp; omega
      · simp [h x hpx]; omega
theorem lay_dts (l : List Nat) (hl : l.length ≤ 63) (hv : ∀ x ∈ l, cp x = true) : ∀ (f n delta m i : Nat), l.length - (lt n l).length ≤ f → m ≤ n → i + delta = (n - m) * ((lt n l).length + 1) → lay m i (lt n l) (dts f n delta (lt n l).length l) = some l
  | f, n, delta, m, i, hf, hm, h => by
    by_cases c : (lt n l).length < l.length
    · cases f with
      | zero => omega
      | succ f =>
        obtain ⟨x, hx, hnx⟩ := lt_exists c; have hxv := hv x hx; obtain ⟨g1, g2, g3⟩ := nxt_spec ⟨x, hx, hnx, by unfold cp at hxv; simp at hxv; omega⟩; have e := lt_nxt g2 g3; rw [dts, if_pos c]; have hle : ([] ++ lt (nxt n l + 1) l).length ≤ 63 := by
          have := List.length_filter_le (fun x => decide (x < nxt n l + 1)) l; unfold lt; simp only [List.nil_append]; omega
        have hcond : i + (delta + (nxt n l - n) * ((lt n l).length + 1)) = (nxt n l - m) * (([] ++ lt (nxt n l) l).length + 1) + ([] : List Nat).length := by
          rw [List.nil_append, e, ← Nat.add_assoc, h, ← Nat.add_mul]; simp only [List.length_nil, Nat.add_zero]; congr 1; omega
        have hn1 : 1 ≤ (pass (nxt n l) (delta + (nxt n l - n) * ((lt n l).length + 1)) l).1.length := by
          have h1 := pass_len (nxt n l) l (delta + (nxt n l - n) * ((lt n l).length + 1)); have h2 : (lt (nxt n l) l).length < (lt (nxt n l + 1) l).length := by
            unfold lt; rw [← List.countP_eq_length_filter, ← List.countP_eq_length_filter]; exact countP_less l (fun y hy => by simp at hy ⊢; omega) (nxt n l) g1 (by simp) (by simp)
          omega
        obtain ⟨m', i', k1, k2, k3⟩ := lay_pass (nxt n l) (hv _ g1) (dts f (nxt n l + 1) ((pass (nxt n l) (delta + (nxt n l - n) * ((lt n l).length + 1)) l).2 + 1) ((lt n l).length + (pass (nxt n l) (delta + (nxt n l - n) * ((lt n l).length + 1)) l).1.length) l) l [] (delta + (nxt n l - n) * ((lt n l).length + 1)) m i (by omega) hcond hle; simp only [List.nil_append] at k2 k3; have e3 : (lt n l).length + (pass (nxt n l) (delta + (nxt n l - n) * ((lt n l).length + 1)) l).1.length = (lt (nxt n l + 1) l).length := by
          have := pass_len (nxt n l) l (delta + (nxt n l - n) * ((lt n l).length + 1)); rw [e] at this; omega
        rw [e] at k3; rw [k3, e3]; refine lay_dts l hl hv f (nxt n l + 1) _ m' i' (by omega) (by omega) ?_; rw [← Nat.add_assoc, k2, show nxt n l + 1 - m' = (nxt n l - m') + 1 by omega, Nat.add_mul, Nat.one_mul]; omega
    · have e := lt_full (n := n) (l := l) (by omega); rw [e]
      cases f with
      | zero => simp [dts, lay]
      | succ f => rw [dts, if_neg (by omega), lay]
end Go.Proofs.YtenlampiiodkhaaGreatDoor
namespace Go.Proofs.YtenlampiiodkhaaGreatDoor
set_option linter.unusedVariables false
open Go.RowKit
structure Inv (n i : Nat) (cur : List Nat) : Prop where
  le : ∀ x ∈ cur, x ≤ n
  less : ∀ x ∈ cur.drop i, x < n
theorem lt_lt {n m : Nat} (h : n ≤ m) (l : List Nat) : lt n (lt m l) = lt n l := by
  unfold lt; rw [List.filter_filter]; apply List.filter_congr; intro x _; rw [Bool.eq_iff_iff]; simp only [Bool.and_eq_true, decide_eq_true_eq]; omega
theorem lt_all {n : Nat} {l : List Nat} (h : ∀ x ∈ l, x < n) : lt n l = l := by
  unfold lt; exact List.filter_eq_self.2 fun x hx => by simpa using h x hx
theorem lt_ins {m x : Nat} (h : m ≤ x) (l : List Nat) (p : Nat) : lt m (ins l p x) = lt m l := by
  unfold ins lt; rw [List.filter_append, List.filter_cons, if_neg (by simpa using h), ← List.filter_append, List.take_append_drop]
theorem ins_drop (l : List Nat) (p x : Nat) (h : p ≤ l.length) : (ins l p x).drop (p + 1) = l.drop p := by
  unfold ins; have hl : (l.take p).length = p := by simp; omega
  rw [show p + 1 = (l.take p).length + 1 by omega, List.drop_append]; simp
theorem ins_take (l : List Nat) (p x k : Nat) (h : p ≤ l.length) (hk : k ≤ p) : (ins l p x).take k = l.take k := by
  unfold ins; rw [List.take_append_of_le_length (by simp; omega), List.take_take, Nat.min_eq_left hk]
theorem ins_take' (l : List Nat) (p x : Nat) (h : p ≤ l.length) : (ins l p x).take (p + 1) = l.take p ++ [x] := by
  unfold ins; have hl : (l.take p).length = p := by simp; omega
  rw [List.take_append, hl, List.take_of_length_le (by omega)]; simp
theorem ins_mem {l : List Nat} {p x y : Nat} (h : y ∈ ins l p x) : y = x ∨ y ∈ l := by
  unfold ins at h; rcases List.mem_append.1 h with h | h
  · exact .inr (List.mem_of_mem_take h)
  · rcases List.mem_cons.1 h with h | h
    · exact .inl h
    · exact .inr (List.mem_of_mem_drop h)
theorem goes (n i v L : Nat) (hL : 0 < L) : (i + v) % L ≤ L - 1 ∧ n ≤ n + (i + v) / L ∧ (n + (i + v) / L = n → (i + v) % L = i + v) := by
  refine ⟨by have := Nat.mod_lt (i + v) hL; omega, Nat.le_add_right _ _, fun h => ?_⟩; have h0 : (i + v) / L = 0 := by omega
  have := Nat.mod_add_div (i + v) L; rw [h0, Nat.mul_zero, Nat.add_zero] at this; exact this
theorem inv_step {n i : Nat} {cur : List Nat} (h : Inv n i cur) (v : Nat) : Inv (n + (i + v) / (cur.length + 1)) ((i + v) % (cur.length + 1) + 1) (ins cur ((i + v) % (cur.length + 1)) (n + (i + v) / (cur.length + 1))) := by
  obtain ⟨g1, g2, g3⟩ := goes n i v (cur.length + 1) (by omega); generalize n + (i + v) / (cur.length + 1) = n' at *; generalize (i + v) % (cur.length + 1) = p at *; refine ⟨fun x hx => ?_, fun x hx => ?_⟩
  · rcases ins_mem hx with rfl | hx
    · exact Nat.le_refl _
    · exact Nat.le_trans (h.le x hx) g2
  · rw [ins_drop cur p n' (by omega)] at hx; by_cases e : n' = n
    · have hp := g3 e; rw [e]; refine h.less x ?_; rw [hp, Nat.add_comm i v] at hx; rw [show v + i = i + v by omega, ← List.drop_drop] at hx; exact List.mem_of_mem_drop hx
    · have := h.le x (List.mem_of_mem_drop hx); omega
theorem lay_keeps : ∀ (vs : List Nat) (n i : Nat) (cur l : List Nat), Inv n i cur → lay n i cur vs = some l → lt n l = lt n cur ∧ (lt (n + 1) l).take i = cur.take i ∧ l.length = cur.length + vs.length
  | [], n, i, cur, l, h, e => by
    simp only [lay, Option.some.injEq] at e; subst e; refine ⟨rfl, ?_, by simp⟩; rw [lt_all fun x hx => by have := h.le x hx; omega]
  | v :: vs, n, i, cur, l, h, e => by
    rw [lay] at e
    split at e
    · have hs := inv_step h v; obtain ⟨k1, k2, k3⟩ := lay_keeps vs _ _ _ l hs e; rw [ins_len] at k3; obtain ⟨g1, g2, g3⟩ := goes n i v (cur.length + 1) (by omega); clear e hs; generalize n + (i + v) / (cur.length + 1) = n' at *; generalize hp : (i + v) % (cur.length + 1) = p at *; refine ⟨?_, ?_, by simp; omega⟩
      · rw [← lt_lt g2 l, k1, lt_lt g2, lt_ins g2]
      · by_cases c : n' = n
        · subst c; have := g3 rfl; have e1 : ((lt (n' + 1) l).take (p + 1)).take i = (lt (n' + 1) l).take i := by rw [List.take_take, Nat.min_eq_left (by omega)]
          rw [← e1, k2, List.take_take, Nat.min_eq_left (by omega), ins_take _ _ _ _ (by omega) (by omega)]
        · have c2 : n + 1 ≤ n' := by omega
          rw [← lt_lt c2 l, k1, lt_lt c2, lt_ins c2, lt_all fun x hx => by have := h.le x hx; omega]
    · simp at e
theorem lay_less {n i : Nat} {cur l : List Nat} {v u : Nat} {vs us : List Nat} (h : Inv n i cur) (h1 : lay n i cur (v :: vs) = some l) (h2 : lay n i cur (u :: us) = some l) (hlt : v < u) : False := by
  rw [lay] at h1 h2
  split at h1
  · split at h2
    · obtain ⟨_, a2, a3⟩ := lay_keeps vs _ _ _ l (inv_step h v) h1; obtain ⟨b1, b2, b3⟩ := lay_keeps us _ _ _ l (inv_step h u) h2; obtain ⟨g1, g2, g3⟩ := goes n i v (cur.length + 1) (by omega); obtain ⟨f1, f2, f3⟩ := goes n i u (cur.length + 1) (by omega); have m1 := Nat.mod_add_div (i + v) (cur.length + 1); have m2 := Nat.mod_add_div (i + u) (cur.length + 1); have hle : (i + v) / (cur.length + 1) ≤ (i + u) / (cur.length + 1) := Nat.div_le_div_right (by omega); have hcase : n + (i + v) / (cur.length + 1) < n + (i + u) / (cur.length + 1) ∨ (n + (i + v) / (cur.length + 1) = n + (i + u) / (cur.length + 1) ∧ (i + v) % (cur.length + 1) < (i + u) % (cur.length + 1)) := by
        rcases Nat.lt_or_ge ((i + v) / (cur.length + 1)) ((i + u) / (cur.length + 1)) with c | c
        · left; omega
        · right; have c' : (i + v) / (cur.length + 1) = (i + u) / (cur.length + 1) := by omega
          refine ⟨by omega, ?_⟩; rw [c'] at m1; omega
      clear h1 h2 m1 m2 hle; generalize n + (i + v) / (cur.length + 1) = n1 at *; generalize (i + v) % (cur.length + 1) = p1 at *; generalize n + (i + u) / (cur.length + 1) = n2 at *; generalize (i + u) % (cur.length + 1) = p2 at *; have key : (lt (n1 + 1) l).take (p1 + 1) = cur.take (p1 + 1) := by
        rcases hcase with c | ⟨c, c2⟩
        · have c3 : n1 + 1 ≤ n2 := c; rw [← lt_lt c3 l, b1, lt_lt c3, lt_ins c3, lt_all fun x hx => by have := h.le x hx; omega]
        · subst c; have e1 : ((lt (n1 + 1) l).take (p2 + 1)).take (p1 + 1) = (lt (n1 + 1) l).take (p1 + 1) := by rw [List.take_take, Nat.min_eq_left (by omega)]
          rw [← e1, b2, List.take_take, Nat.min_eq_left (by omega), ins_take _ _ _ _ (by omega) (by omega)]
      rw [key, ins_take' cur p1 n1 (by omega)] at a2; have hlen : (cur.take (p1 + 1)).length = p1 + 1 := by
        rw [a2]; simp; omega
      have hp : p1 < cur.length := by
        rw [List.length_take] at hlen; omega
      have hget : cur[p1] = n1 := by
        rw [List.take_succ_eq_append_getElem hp] at a2; have := List.append_cancel_left a2; simpa using this
      by_cases c : n1 = n
      · have hp1 := g3 c; have : cur[p1] ∈ cur.drop i := by
          rw [List.mem_iff_getElem]; exact ⟨p1 - i, by simp; omega, by simp [show i + (p1 - i) = p1 by omega]⟩
        have := h.less _ this; omega
      · have := h.le cur[p1] (List.getElem_mem hp); omega
    · simp at h2
  · simp at h1
theorem lay_inj : ∀ (vs us : List Nat) (n i : Nat) (cur l : List Nat), Inv n i cur → lay n i cur vs = some l → lay n i cur us = some l → vs = us
  | [], [], n, i, cur, l, h, h1, h2 => rfl
  | [], u :: us, n, i, cur, l, h, h1, h2 => by
    have a := (lay_keeps _ _ _ _ _ h h1).2.2; have b := (lay_keeps _ _ _ _ _ h h2).2.2; simp at a b; omega
  | v :: vs, [], n, i, cur, l, h, h1, h2 => by
    have a := (lay_keeps _ _ _ _ _ h h1).2.2; have b := (lay_keeps _ _ _ _ _ h h2).2.2; simp at a b; omega
  | v :: vs, u :: us, n, i, cur, l, h, h1, h2 => by
    have e : v = u := by
      rcases Nat.lt_trichotomy v u with c | c | c
      · exact absurd (lay_less h h1 h2 c) id
      · exact c
      · exact absurd (lay_less h h2 h1 c) id
    subst e; have hs := inv_step h v; rw [lay] at h1 h2
    split at h1
    · rename_i hc; rw [if_pos hc] at h2; rw [lay_inj vs us _ _ _ l hs h1 h2]
    · simp at h1
end Go.Proofs.YtenlampiiodkhaaGreatDoor
namespace Go.Proofs.YtenlampiiodkhaaGreatDoor
set_option linter.unusedVariables false
open Go.RowKit
def letter (n : Nat) : UInt8 := if n < 26 then UInt8.ofNat (97 + n) else UInt8.ofNat (22 + n)
def dv (b : UInt8) : Option Nat := if 97 ≤ b.toNat ∧ b.toNat ≤ 122 then some (b.toNat - 97) else if 48 ≤ b.toNat ∧ b.toNat ≤ 57 then some (b.toNat - 22) else if 65 ≤ b.toNat ∧ b.toNat ≤ 90 then some (b.toNat - 65) else none
theorem letter_ok : ∀ n : Fin 36, dv (letter n.val) = some n.val ∧ letter n.val ≠ 45 ∧ (letter n.val).toNat ≤ 127 := by decide +kernel
theorem dv_ok : ∀ b : Fin 256, ∀ n : Fin 36, dv (UInt8.ofNat b.val) = some n.val → (65 ≤ b.val ∧ b.val ≤ 90) ∨ letter n.val = UInt8.ofNat b.val := by decide +kernel
theorem dv_lt {b : UInt8} {n : Nat} (h : dv b = some n) : n < 36 := by
  unfold dv at h
  split at h
  · simp only [Option.some.injEq] at h; omega
  · split at h
    · simp only [Option.some.injEq] at h; omega
    · split at h
      · simp only [Option.some.injEq] at h; omega
      · simp at h
def cutAt : List UInt8 → Option Nat
  | [] => none
  | x :: r => match cutAt r with | some k => some (k + 1) | none => if x = 45 then some 0 else none
theorem cutAt_none : ∀ {s : List UInt8}, (∀ x ∈ s, x ≠ 45) → cutAt s = none
  | [], _ => rfl
  | x :: r, h => by
    rw [cutAt, cutAt_none fun y hy => h y (List.mem_cons_of_mem _ hy)]; simp only; rw [if_neg (h x (List.mem_cons_self ..))]
theorem cutAt_some : ∀ (a b : List UInt8), (∀ x ∈ b, x ≠ 45) → cutAt (a ++ 45 :: b) = some a.length
  | [], b, h => by
    rw [List.nil_append, cutAt, cutAt_none h]; rfl
  | x :: a, b, h => by
    rw [List.cons_append, cutAt, cutAt_some a b h]; rfl
theorem cutAt_is : ∀ {s : List UInt8} {k : Nat}, cutAt s = some k → k < s.length ∧ s = s.take k ++ 45 :: s.drop (k + 1) ∧ ∀ x ∈ s.drop (k + 1), x ≠ 45
  | [], k, h => by simp [cutAt] at h
  | x :: r, k, h => by
    rw [cutAt] at h
    cases hr : cutAt r with
    | some j =>
      rw [hr] at h; simp only [Option.some.injEq] at h; subst h; obtain ⟨h1, h2, h3⟩ := cutAt_is hr; refine ⟨by simp; omega, ?_, by simpa using h3⟩; rw [List.take_succ_cons, List.drop_succ_cons, List.cons_append, ← h2]
    | none =>
      rw [hr] at h; simp only at h
      split at h
      · rename_i hx; simp only [Option.some.injEq] at h; subst h; subst hx; refine ⟨by simp, by simp, fun y hy e => ?_⟩; simp only [Nat.zero_add, List.drop_succ_cons, List.drop_zero] at hy; subst e; have hm : ∃ k, cutAt r = some k := cutAt_mem hy; obtain ⟨k, hk⟩ := hm; rw [hk] at hr
        cases hr
      · simp at h
where
  cutAt_mem : ∀ {r : List UInt8}, (45 : UInt8) ∈ r → ∃ k, cutAt r = some k
  | [], h => by cases h
  | y :: r, h => by
    rw [cutAt]
    cases hr : cutAt r with
    | some j => exact ⟨j + 1, rfl⟩
    | none =>
      rcases List.mem_cons.1 h with e | h
      · exact ⟨0, by simp [← e]⟩
      · obtain ⟨k, hk⟩ := cutAt_mem h; rw [hk] at hr
        cases hr
def dvs : List UInt8 → Option (List Nat)
  | [] => some []
  | b :: r => match dv b with | none => none | some n => (dvs r).map (n :: ·)
theorem dvs_letters : ∀ (ds : List Nat), (∀ d ∈ ds, d < 36) → dvs (ds.map letter) = some ds
  | [], _ => rfl
  | d :: ds, h => by
    rw [List.map_cons, dvs, (letter_ok ⟨d, h d (List.mem_cons_self ..)⟩).1]; simp only; rw [dvs_letters ds fun x hx => h x (List.mem_cons_of_mem _ hx)]; rfl
theorem dvs_is : ∀ {s : List UInt8} {ds : List Nat}, dvs s = some ds → (∀ d ∈ ds, d < 36) ∧ ds.length = s.length ∧ ((∀ b ∈ s, ¬ (65 ≤ b.toNat ∧ b.toNat ≤ 90)) → ds.map letter = s)
  | [], ds, h => by
    simp only [dvs, Option.some.injEq] at h; subst h; exact ⟨by simp, rfl, fun _ => rfl⟩
  | b :: r, ds, h => by
    rw [dvs] at h
    cases hb : dv b with
    | none => rw [hb] at h; simp at h
    | some n =>
      rw [hb] at h; simp only at h
      cases hr : dvs r with
      | none => rw [hr] at h; simp at h
      | some es =>
        rw [hr] at h; simp only [Option.map_some, Option.some.injEq] at h; subst h; obtain ⟨k1, k2, k3⟩ := dvs_is hr; have hn := dv_lt hb; refine ⟨fun d hd => ?_, by simp [k2], fun hu => ?_⟩
        · rcases List.mem_cons.1 hd with rfl | hd
          · exact hn
          · exact k1 d hd
        · rw [List.map_cons, k3 fun x hx => hu x (List.mem_cons_of_mem _ hx)]; congr 1; have := dv_ok ⟨b.toNat, b.toNat_lt⟩ ⟨n, hn⟩; simp only [UInt8.ofNat_toNat] at this; rcases this hb with c | c
          · exact absurd c (hu b (List.mem_cons_self ..))
          · exact c
def penc (l : List Nat) : Option (List UInt8) :=
  if l.length ≤ 63 ∧ l.all cp = true then some ((lt 128 l).map UInt8.ofNat ++ (if lt 128 l = [] then [] else [45]) ++ (digs 72 (lt 128 l).length true (dts l.length 128 0 (lt 128 l).length l)).map letter) else none
def pdec (s : List UInt8) : Option (List Nat) :=
  if s.length ≤ 200 ∧ s.all (fun b => decide (b.toNat ≤ 127)) = true then
    (match cutAt s with
      | none => some ([], s)
      | some 0 => none
      | some (k + 1) => some (s.take (k + 1), s.drop (k + 2))).bind fun p =>
    (dvs p.2).bind fun ds =>
    (rd ds.length 128 0 72 (p.1.map UInt8.toNat) ds).bind fun l => if l.length ≤ 63 then some l else none
  else none
theorem vEnc_lt (bias : Nat) : ∀ (f k q : Nat), q ≤ f → ∀ d ∈ vEnc bias f k q, d < 36
  | 0, k, q, h, d, hd => by
    simp only [vEnc, List.mem_singleton] at hd; omega
  | f + 1, k, q, h, d, hd => by
    have hp := thr_pos k bias; have hl := thr_le k bias; rw [vEnc] at hd
    split at hd
    · simp only [List.mem_singleton] at hd; omega
    · rcases List.mem_cons.1 hd with rfl | hd
      · have := Nat.mod_lt (q - thr k bias) (show 0 < 36 - thr k bias by omega); omega
      · have := div_less q (thr k bias) (by omega) hp hl; exact vEnc_lt bias f _ _ (by omega) d hd
theorem digs_lt : ∀ (vs : List Nat) (bias len : Nat) (first : Bool), ∀ d ∈ digs bias len first vs, d < 36
  | [], bias, len, first, d, hd => by simp [digs] at hd
  | v :: vs, bias, len, first, d, hd => by
    rw [digs] at hd; rcases List.mem_append.1 hd with hd | hd
    · exact vEnc_lt bias v 36 v (Nat.le_refl _) d hd
    · exact digs_lt vs _ _ _ d hd
theorem digs_len : ∀ (vs : List Nat) (bias len : Nat) (first : Bool), vs.length ≤ (digs bias len first vs).length
  | [], bias, len, first => by simp
  | v :: vs, bias, len, first => by
    rw [digs]; have := digs_len vs (adp v (len + 1) first) (len + 1) false; have h2 : 0 < (vEnc bias v 36 v).length := List.length_pos_iff.2 (vEnc_ne _ _ _ _); simp; omega
theorem lt_mem {n x : Nat} {l : List Nat} (h : x ∈ lt n l) : x < n ∧ x ∈ l := by
  unfold lt at h; have := List.mem_filter.1 h; exact ⟨by simpa using this.2, this.1⟩
theorem back_bytes {l : List Nat} (h : ∀ x ∈ l, x < 128) : (l.map UInt8.ofNat).map UInt8.toNat = l := by
  rw [List.map_map]
  conv => rhs; rw [← List.map_id l]
  apply List.map_congr_left; intro x hx; have := h x hx; simp only [Function.comp, id]; rw [UInt8.toNat_ofNat']; omega
theorem pdec_penc {l : List Nat} {s : List UInt8} (h : penc l = some s) (hs : s.length ≤ 200) : pdec s = some l := by
  unfold penc at h
  split at h
  · rename_i hc; obtain ⟨hl, hv⟩ := hc; have hv' : ∀ x ∈ l, cp x = true := by simpa using hv
    simp only [Option.some.injEq] at h; have hvs : lay 128 0 (lt 128 l) (dts l.length 128 0 (lt 128 l).length l) = some l := lay_dts l hl hv' l.length 128 0 128 0 (by omega) (Nat.le_refl _) (by simp); have hlt : ∀ x ∈ lt 128 l, x < 128 := fun x hx => (lt_mem hx).1; generalize lt 128 l = bsc at *; generalize dts l.length 128 0 bsc.length l = vs at *; have hd := digs_lt vs 72 bsc.length true; have hfu := digs_len vs 72 bsc.length true; have hrd := rd_digs vs (digs 72 bsc.length true vs).length 128 0 72 bsc hfu; rw [show ((0 : Nat) == 0) = true from rfl, hvs] at hrd; generalize digs 72 bsc.length true vs = ds at *; have hno : ∀ x ∈ ds.map letter, x ≠ 45 := by
      intro x hx; obtain ⟨d, hdm, rfl⟩ := List.mem_map.1 hx; exact (letter_ok ⟨d, hd d hdm⟩).2.1
    have hsm : s.all (fun b => decide (b.toNat ≤ 127)) = true := by
      rw [List.all_eq_true]; intro x hx; simp only [decide_eq_true_eq]; rw [← h] at hx; rcases List.mem_append.1 hx with hx | hx
      · rcases List.mem_append.1 hx with hx | hx
        · obtain ⟨y, hy, rfl⟩ := List.mem_map.1 hx; have := hlt y hy; rw [UInt8.toNat_ofNat']; omega
        · split at hx
          · cases hx
          · rw [List.mem_singleton] at hx; subst hx; decide
      · obtain ⟨d, hdm, rfl⟩ := List.mem_map.1 hx; exact (letter_ok ⟨d, hd d hdm⟩).2.2
    unfold pdec; rw [if_pos ⟨hs, hsm⟩]; by_cases hb : bsc = []
    · subst hb; simp only [List.map_nil, if_true, List.nil_append] at h; rw [← h, cutAt_none hno]; simp only [Option.bind_some, dvs_letters ds hd, List.map_nil, hrd]; rw [if_pos hl]
    · rw [if_neg hb] at h; have e : s = bsc.map UInt8.ofNat ++ 45 :: ds.map letter := by rw [← h]; simp
      have hlen : (bsc.map UInt8.ofNat).length = bsc.length := by simp
      have hc := cutAt_some (bsc.map UInt8.ofNat) (ds.map letter) hno; rw [← e, hlen] at hc; rw [hc]
      cases hbl : bsc.length with
      | zero => exact absurd (List.eq_nil_of_length_eq_zero hbl) hb
      | succ k =>
        simp only [Option.bind_some]; have e1 : s.take (k + 1) = bsc.map UInt8.ofNat := by
          rw [e, List.take_append_of_le_length (by rw [hlen]; omega), List.take_of_length_le (by rw [hlen]; omega)]
        have e2 : s.drop (k + 2) = ds.map letter := by
          rw [e, show k + 2 = (bsc.map UInt8.ofNat).length + 1 by rw [hlen]; omega, List.drop_append]; simp
        rw [e1, e2, dvs_letters ds hd]; simp only [Option.bind_some, back_bytes hlt, hrd]; rw [if_pos hl]
  · simp at h
theorem lay_cp : ∀ (vs : List Nat) (n i : Nat) (cur l : List Nat), (∀ x ∈ cur, cp x = true) → lay n i cur vs = some l → ∀ x ∈ l, cp x = true
  | [], n, i, cur, l, h, e => by
    simp only [lay, Option.some.injEq] at e; subst e; exact h
  | v :: vs, n, i, cur, l, h, e => by
    rw [lay] at e
    split at e
    · rename_i hc; refine lay_cp vs _ _ _ l (fun x hx => ?_) e; rcases ins_mem hx with rfl | hx
      · exact hc.1
      · exact h x hx
    · simp at e
theorem cp_small {n : Nat} (h : n < 128) : cp n = true := by unfold cp; simp; omega
theorem fwd_bytes (s : List UInt8) : (s.map UInt8.toNat).map UInt8.ofNat = s := by
  rw [List.map_map]
  conv => rhs; rw [← List.map_id s]
  apply List.map_congr_left; intro x hx; simp
theorem penc_pdec {s : List UInt8} {l : List Nat} (h : pdec s = some l) (hu : ∀ b ∈ s, ¬ (65 ≤ b.toNat ∧ b.toNat ≤ 90)) : penc l = some s := by
  unfold pdec at h
  split at h
  · rename_i hc; obtain ⟨h200, h127⟩ := hc; have h127' : ∀ b ∈ s, b.toNat ≤ 127 := by simpa using h127
    have key : ∀ (pre tail : List UInt8), (∀ b ∈ pre, b ∈ s) → (∀ b ∈ tail, b ∈ s) → s = pre ++ (if pre = [] then [] else [45]) ++ tail → ((dvs tail).bind fun ds => (rd ds.length 128 0 72 (pre.map UInt8.toNat) ds).bind fun l => if l.length ≤ 63 then some l else none) = some l → penc l = some s := by
      intro pre tail hp ht es hh
      cases hd : dvs tail with
      | none => rw [hd] at hh; simp at hh
      | some ds =>
        rw [hd] at hh; simp only [Option.bind_some] at hh; obtain ⟨d1, d2, d3⟩ := dvs_is hd; have d3 := d3 fun b hb => hu b (ht b hb)
        cases hr : rd ds.length 128 0 72 (pre.map UInt8.toNat) ds with
        | none => rw [hr] at hh; simp at hh
        | some l2 =>
          rw [hr] at hh; simp only [Option.bind_some] at hh
          split at hh
          · rename_i h63; simp only [Option.some.injEq] at hh; subst hh; obtain ⟨vs, v1, v2⟩ := digs_rd _ _ _ _ _ ds l2 d1 hr; rw [show ((0 : Nat) == 0) = true from rfl] at v1; have hpre : ∀ x ∈ pre.map UInt8.toNat, x < 128 := by
              intro x hx; obtain ⟨b, hb, rfl⟩ := List.mem_map.1 hx; have := h127' b (hp b hb); omega
            have hI : Inv 128 0 (pre.map UInt8.toNat) := ⟨fun x hx => Nat.le_of_lt (hpre x hx), fun x hx => hpre x (by simpa using hx)⟩; have hk := (lay_keeps vs _ _ _ l2 hI v2).1; rw [lt_all hpre] at hk; have hcp := lay_cp vs _ _ _ l2 (fun x hx => cp_small (hpre x hx)) v2; have hle := lay_dts l2 h63 hcp l2.length 128 0 128 0 (by omega) (Nat.le_refl _) (by simp); rw [hk] at hle; have hvs := lay_inj vs _ _ _ _ l2 hI v2 hle; unfold penc; rw [if_pos ⟨h63, by simpa using hcp⟩, hk, ← hvs, ← v1, d3, fwd_bytes]; have e1 : (pre.map UInt8.toNat = []) = (pre = []) := by simp
            simp only [e1]; rw [← es]
          · simp at hh
    cases hcut : cutAt s with
    | none =>
      rw [hcut] at h; simp only [Option.bind_some] at h; exact key [] s (by simp) (fun b hb => hb) (by simp) h
    | some k =>
      rw [hcut] at h
      cases k with
      | zero => simp at h
      | succ k =>
        simp only [Option.bind_some] at h; obtain ⟨c1, c2, c3⟩ := cutAt_is hcut; refine key (s.take (k + 1)) (s.drop (k + 2)) (fun b hb => List.mem_of_mem_take hb) (fun b hb => List.mem_of_mem_drop hb) ?_ h; have hne : s.take (k + 1) ≠ [] := by
          intro e; have : (s.take (k + 1)).length = 0 := by rw [e]; rfl
          rw [List.length_take] at this; omega
        rw [if_neg hne]
        conv => lhs; rw [c2]
        simp
  · simp at h
end Go.Proofs.YtenlampiiodkhaaGreatDoor
namespace Go.Proofs.YtenlampiiodkhaaGreatDoor
set_option linter.unusedVariables false
open Go.RowKit
theorem weight_big {i w : Nat} (hw : w = 1 ∨ w ≤ 35 * i) (h : 1099511627776 < w) : 71303168 ≤ i := by omega
theorem weight_next {i w d t : Nat} (hd : t ≤ d) (ht : 1 ≤ t) : w * (36 - t) ≤ 35 * (i + w * d) := by
  have h1 : w * (36 - t) ≤ w * 35 := Nat.mul_le_mul_left _ (by omega); have h2 : w * 1 ≤ w * d := Nat.mul_le_mul_left _ (by omega); omega
theorem digit_big {i w d : Nat} (hw : 1 ≤ w) (hi : i ≤ 1125899906842624) (h : (1125899906842624 - i) / w < d) : 71303168 ≤ i + w * d := by
  have h1 : 1125899906842624 - i < d * w := by
    rw [← Nat.div_lt_iff_lt_mul (by omega)]; exact h
  rw [Nat.mul_comm] at h1; omega
theorem digit_fits {i w d : Nat} (hw : 1 ≤ w) (hi : i ≤ 1125899906842624) (h : ¬ (1125899906842624 - i) / w < d) : i + w * d ≤ 1125899906842624 := by
  have h1 : d ≤ (1125899906842624 - i) / w := by omega
  have h2 : d * w ≤ 1125899906842624 - i := by
    rw [Nat.le_div_iff_mul_le (by omega)] at h1; exact h1
  rw [Nat.mul_comm] at h2; omega
end Go.Proofs.YtenlampiiodkhaaGreatDoor
