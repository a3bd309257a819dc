/-
  EncP.
-/
import Derived.Test.YtenlampiiodkhaaGreatDoorBVc
import Derived.Test.YtenlampiiodkhaaGreatDoorBPc
namespace Go.Proofs.YtenlampiiodkhaaGreatDoor
set_option linter.unusedVariables false
open Go.RowKit
def sub (ns : List Nat) (S : Nat → Bool) : List Nat := ((List.range ns.length).filter S).map fun x => ns.getD x 0
theorem take_range (ns : List Nat) (a : Nat) (h : a ≤ ns.length) : ns.take a = (List.range a).map fun x => ns.getD x 0 := by
  apply List.ext_getElem
  · simp; omega
  · intro i h1 h2; have hi : i < a := by simpa using h2
    have hl : i < ns.length := by omega
    simp [List.getD, hl]
theorem range_cut (a n : Nat) (h : a < n) : List.range n = List.range a ++ a :: List.range' (a + 1) (n - (a + 1)) := by
  rw [List.range_eq_range', List.range_eq_range', show n = a + (n - a) by omega, ← List.range'_append_1]; congr 1; rw [show a + (n - a) - (a + 1) = n - a - 1 by omega, show n - a = (n - a - 1) + 1 by omega, List.range'_succ]; simp
theorem sub_ins (ns : List Nat) (S S' : Nat → Bool) (a : Nat) (ha : a < ns.length) (hS : S a = false) (hS' : ∀ x, S' x = (S x || x == a)) : sub ns S' = ins (sub ns S) ((List.range a).filter S).length (ns.getD a 0) := by
  have h1 : (List.range a).filter S' = (List.range a).filter S := List.filter_congr fun x hx => by
    rw [hS' x]; have : x < a := List.mem_range.1 hx; have e : (x == a) = false := beq_eq_false_iff_ne.2 (by omega); rw [e, Bool.or_false]
  have h2 : (List.range' (a + 1) (ns.length - (a + 1))).filter S' = (List.range' (a + 1) (ns.length - (a + 1))).filter S := List.filter_congr fun x hx => by
    rw [hS' x]; have : a + 1 ≤ x := (List.mem_range'_1.1 hx).1; have e : (x == a) = false := beq_eq_false_iff_ne.2 (by omega); rw [e, Bool.or_false]
  unfold sub; rw [range_cut a ns.length ha, List.filter_append, List.filter_append, List.filter_cons, List.filter_cons, hS, hS' a, h1, h2]; simp only [Bool.or_true, beq_self_eq_true, if_true, Bool.false_eq_true, if_false, List.map_append, List.map_cons]; rw [← ins_mid, List.length_map]
section
variable (ns : List Nat) (g : Nat → Nat)
def dn (k x : Nat) : Bool := decide (ns.getD x 0 < 128) || (List.range k).any fun i => g i == x
def cur (k : Nat) : List Nat := sub ns (dn ns g k)
def cd (k : Nat) : Nat := ns.getD (g k) 0
def pl (k : Nat) : Nat := (ns.take (g k)).countP fun x => decide (x ≤ ns.getD (g k) 0)
def Cc : Nat → Nat
  | 0 => 128
  | k + 1 => cd ns g k
def Pp : Nat → Nat
  | 0 => 0
  | k + 1 => pl ns g k + 1
def dl (bl k : Nat) : Nat := (cd ns g k - Cc ns g k) * (bl + k + 1) + pl ns g k - Pp ns g k
end
theorem cur_zero (ns : List Nat) (g : Nat → Nat) : cur ns g 0 = lt 128 ns := by
  unfold cur sub lt; have e : ns = (List.range ns.length).map fun x => ns.getD x 0 := by
    have := take_range ns ns.length (Nat.le_refl _)
    rwa [List.take_length] at this
  conv => rhs; rw [e]
  rw [List.filter_map]; congr 1; apply List.filter_congr; intro x _; simp [dn]
theorem cur_all {ns : List Nat} {n : Nat} {g : Nat → Nat} (h : Oths ns n g) : cur ns g n = ns := by
  have e : ns = (List.range ns.length).map fun x => ns.getD x 0 := by
    have := take_range ns ns.length (Nat.le_refl _)
    rwa [List.take_length] at this
  conv => rhs; rw [e]
  unfold cur sub; congr 1; refine List.filter_eq_self.2 fun x hx => ?_; have hx' := List.mem_range.1 hx; unfold dn; by_cases c : ns.getD x 0 < 128
  · simp only [c, decide_true, Bool.true_or]
  · obtain ⟨i, hi, e⟩ := h.all x hx' (by omega); have : ((List.range n).any fun i => g i == x) = true := List.any_eq_true.2 ⟨i, List.mem_range.2 hi, by simp [e]⟩; rw [this, Bool.or_true]
theorem dn_iff (ns : List Nat) (g : Nat → Nat) (k x : Nat) : dn ns g k x = true ↔ ns.getD x 0 < 128 ∨ ∃ i, i < k ∧ g i = x := by
  unfold dn; simp [List.any_eq_true]
theorem dn_place {ns : List Nat} {n : Nat} {g : Nat → Nat} (h : Oths ns n g) {k : Nat} (hk : k < n) : ((List.range (g k)).filter (dn ns g k)).length = pl ns g k := by
  have ha := (h.mem k hk).1; unfold pl; rw [take_range ns (g k) (by omega), List.countP_map, ← List.countP_eq_length_filter]; refine List.countP_congr fun x hx => ?_; have hx' := List.mem_range.1 hx; rw [dn_iff]; simp only [Function.comp, decide_eq_true_eq]; constructor
  · rintro (c | ⟨i, hi, e⟩)
    · have := (h.mem k hk).2; omega
    · rcases h.ord i k hi hk with o | o
      · rw [e] at o; omega
      · rw [e] at o; omega
  · intro c; by_cases c2 : ns.getD x 0 < 128
    · exact .inl c2
    · obtain ⟨i, hi, e⟩ := h.all x (by omega) (by omega); refine .inr ⟨i, ?_, e⟩; rcases Nat.lt_trichotomy i k with c3 | c3 | c3
      · exact c3
      · rw [c3] at e; omega
      · rcases h.ord k i c3 hi with o | o
        · rw [e] at o; omega
        · rw [e] at o; omega
theorem dn_not {ns : List Nat} {n : Nat} {g : Nat → Nat} (h : Oths ns n g) {k : Nat} (hk : k < n) : dn ns g k (g k) = false := by
  rw [← Bool.not_eq_true, dn_iff]; rintro (c | ⟨i, hi, e⟩)
  · have := (h.mem k hk).2; omega
  · rcases h.ord i k hi hk with o | o
    · rw [e] at o; omega
    · rw [e] at o; omega
theorem cur_succ {ns : List Nat} {n : Nat} {g : Nat → Nat} (h : Oths ns n g) {k : Nat} (hk : k < n) : cur ns g (k + 1) = ins (cur ns g k) (pl ns g k) (cd ns g k) := by
  unfold cur cd; rw [← dn_place h hk]; refine sub_ins ns _ _ (g k) (h.mem k hk).1 (dn_not h hk) fun x => ?_; unfold dn; rw [List.range_succ, List.any_append]; simp only [List.any_cons, List.any_nil, Bool.or_false, Bool.or_assoc]; rw [show (g k == x) = (x == g k) from Bool.beq_comm]
theorem cur_len {ns : List Nat} {n : Nat} {g : Nat → Nat} (h : Oths ns n g) : ∀ k, k ≤ n → (cur ns g k).length = (lt 128 ns).length + k
  | 0, _ => by rw [cur_zero]; rfl
  | k + 1, hk => by rw [cur_succ h (by omega), ins_len, cur_len h k (by omega)]; omega
theorem pl_le {ns : List Nat} {n : Nat} {g : Nat → Nat} (h : Oths ns n g) {k : Nat} (hk : k < n) : pl ns g k ≤ (lt 128 ns).length + k := by
  rw [← cur_len h k (by omega), ← dn_place h hk]; unfold cur sub; rw [List.length_map, range_cut (g k) ns.length (h.mem k hk).1, List.filter_append, List.length_append]; exact Nat.le_add_right _ _
theorem Cc_le {ns : List Nat} {n : Nat} {g : Nat → Nat} (h : Oths ns n g) {k : Nat} (hk : k < n) : Cc ns g k ≤ cd ns g k := by
  cases k with
  | zero => exact (h.mem 0 hk).2
  | succ k =>
    have := h.ord k (k + 1) (by omega) hk; show cd ns g k ≤ cd ns g (k + 1); unfold cd; omega
theorem dl_eq {ns : List Nat} {n : Nat} {g : Nat → Nat} (h : Oths ns n g) {k : Nat} (hk : k < n) : (cd ns g k - Cc ns g k) * ((lt 128 ns).length + k + 1) + pl ns g k = dl ns g (lt 128 ns).length k + Pp ns g k := by
  have key : Pp ns g k ≤ (cd ns g k - Cc ns g k) * ((lt 128 ns).length + k + 1) + pl ns g k := by
    cases k with
    | zero => exact Nat.zero_le _
    | succ k =>
      show pl ns g k + 1 ≤ (cd ns g (k + 1) - cd ns g k) * _ + _; have hp := pl_le h (k := k) (by omega); rcases h.ord k (k + 1) (by omega) hk with o | o
      · have h1 : 1 ≤ cd ns g (k + 1) - cd ns g k := by unfold cd; omega
        have := Nat.mul_le_mul_right ((lt 128 ns).length + (k + 1) + 1) h1; omega
      · have hlt : pl ns g k + 1 ≤ pl ns g (k + 1) := by
          unfold pl; rw [← o.1]; have ha := (h.mem k (by omega)).1; have hb := (h.mem (k + 1) hk).1; have e : ns.take (g (k + 1)) = ns.take (g k + 1) ++ (ns.take (g (k + 1))).drop (g k + 1) := by
            conv => lhs; rw [← List.take_append_drop (g k + 1) (ns.take (g (k + 1)))]
            rw [List.take_take, Nat.min_eq_left (by omega)]
          rw [e, List.countP_append, take_snoc ns (g k) 0 ha, List.countP_append]; simp
        omega
  unfold dl; omega
theorem lay_from {ns : List Nat} {n : Nat} {g : Nat → Nat} (h : Oths ns n g) (hn : (lt 128 ns).length + n ≤ 63) (hcp : ∀ x ∈ ns, cp x = true) : ∀ (m k : Nat), k + m = n → lay (Cc ns g k) (Pp ns g k) (cur ns g k) ((List.range' k m).map (dl ns g (lt 128 ns).length)) = some ns
  | 0, k, e => by
    rw [show k = n by omega]; simp [lay, cur_all h]
  | m + 1, k, e => by
    have hk : k < n := by omega
    rw [List.range'_succ, List.map_cons, lay]; have hl := cur_len h k (by omega); have hd := dl_eq h hk; have hp := pl_le h hk; have hc := Cc_le h hk; have e1 : Pp ns g k + dl ns g (lt 128 ns).length k = pl ns g k + ((cur ns g k).length + 1) * (cd ns g k - Cc ns g k) := by
      rw [hl, Nat.mul_comm ((lt 128 ns).length + k + 1)]; omega
    have e2 : (Pp ns g k + dl ns g (lt 128 ns).length k) / ((cur ns g k).length + 1) = cd ns g k - Cc ns g k := by
      rw [e1, Nat.add_mul_div_left _ _ (by omega), Nat.div_eq_of_lt (by omega), Nat.zero_add]
    have e3 : (Pp ns g k + dl ns g (lt 128 ns).length k) % ((cur ns g k).length + 1) = pl ns g k := by
      rw [e1, Nat.add_mul_mod_self_left, Nat.mod_eq_of_lt (by omega)]
    rw [e2, e3, show Cc ns g k + (cd ns g k - Cc ns g k) = cd ns g k by omega, if_pos ⟨hcp _ (getD_in (h.mem k hk).1), by omega⟩, ← cur_succ h hk]; exact lay_from h hn hcp m (k + 1) (by omega)
theorem dts_is {ns : List Nat} {n : Nat} {g : Nat → Nat} (h : Oths ns n g) (hl : ns.length ≤ 63) (hcp : ∀ x ∈ ns, cp x = true) : dts ns.length 128 0 (lt 128 ns).length ns = (List.range' 0 n).map (dl ns g (lt 128 ns).length) := by
  have hn : (lt 128 ns).length + n = ns.length := by
    rw [← cur_len h n (Nat.le_refl _), cur_all h]
  have h1 := lay_from h (by omega) hcp n 0 (by omega); rw [cur_zero] at h1; have h2 := lay_dts ns hl hcp ns.length 128 0 128 0 (by omega) (Nat.le_refl _) (by simp); exact lay_inj _ _ 128 0 (lt 128 ns) ns ⟨fun x hx => Nat.le_of_lt (lt_mem hx).1, fun x hx => (lt_mem (List.mem_of_mem_drop hx)).1⟩ h2 h1
theorem oths_len {ns : List Nat} {n : Nat} {g : Nat → Nat} (h : Oths ns n g) : (lt 128 ns).length + n = ns.length := by
  rw [← cur_len h n (Nat.le_refl _), cur_all h]
theorem dl_le {ns : List Nat} {n : Nat} {g : Nat → Nat} (h : Oths ns n g) (hl : ns.length ≤ 63) (hcp : ∀ x ∈ ns, cp x = true) {k : Nat} (hk : k < n) : dl ns g (lt 128 ns).length k ≤ 71303168 ∧ cd ns g k ≤ 1114111 ∧ pl ns g k ≤ 63 ∧ Pp ns g k ≤ 64 := by
  have hn := oths_len h; have hp := pl_le h hk; have hd := dl_eq h hk; have hc : cd ns g k ≤ 1114111 := cp_le (hcp _ (getD_in (h.mem k hk).1)); have hm : (cd ns g k - Cc ns g k) * ((lt 128 ns).length + k + 1) ≤ 1114111 * 63 := Nat.mul_le_mul (by omega) (by omega); refine ⟨by omega, hc, by omega, ?_⟩
  cases k with
  | zero => exact Nat.zero_le _
  | succ k =>
    have := pl_le h (k := k) (by omega); show pl ns g k + 1 ≤ 64; omega
end Go.Proofs.YtenlampiiodkhaaGreatDoor
