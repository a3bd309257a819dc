/-
  A rule for a statement whose operations come in an order that is left open and that only make new memory: what each operation gives is said once, of whatever memory it meets; then it holds in every order.
-/
import Derived.Test.YtilmkmplaehcaaaDoorGen
namespace Go.Proofs.YtilmkmplaehcaaaDoor
set_option linter.unusedVariables false
open Go.RowKit

def dstSlots (ops : Array Oper) : List Tmp := ops.toList.filterMap (·.dst)
def depSlots (ops : Array Oper) (o : Oper) : List Tmp := o.after.toList.filterMap fun e => if Region.binds .any e then (ops[e.on]?).bind (·.dst) else none

/-- Each operation has a slot of its own, and waits for elder ones alone. -/
def fineB (ops : Array Oper) (n : Nat) : Bool :=
  (List.range ops.size).all fun i =>
    match ops[i]? with
    | some o =>
      (match o.dst with | some d => decide (d < n) | none => false) &&
      (o.after.toList.all fun e => decide (e.on < i)) &&
      ((List.range ops.size).all fun j => i == j || (ops[j]?).map (·.dst) != some o.dst)
    | none => true

structure Fine (ops : Array Oper) (n : Nat) : Prop where
  slot : ∀ (i : Nat) (o : Oper), ops[i]? = some o → ∃ d, o.dst = some d ∧ d < n
  low : ∀ (i : Nat) (o : Oper) (e : Edge), ops[i]? = some o → e ∈ o.after → e.on < i
  apart : ∀ (i j : Nat) (o o' : Oper), ops[i]? = some o → ops[j]? = some o' → i ≠ j → o'.dst ≠ o.dst

theorem fine_of (ops : Array Oper) (n : Nat) (h : fineB ops n = true) : Fine ops n := by
  have key : ∀ (i : Nat) (o : Oper), ops[i]? = some o → ((match o.dst with | some d => decide (d < n) | none => false) &&
      (o.after.toList.all fun e => decide (e.on < i)) && ((List.range ops.size).all fun j => i == j || (ops[j]?).map (·.dst) != some o.dst)) = true := by
    intro i o ho
    have hi : i < ops.size := (Array.getElem?_eq_some_iff.1 ho).1
    have := List.all_eq_true.1 h i (List.mem_range.2 hi)
    simpa only [ho] using this
  refine ⟨fun i o ho => ?_, fun i o e ho he => ?_, fun i j o o' ho ho' hij => ?_⟩
  · have := key i o ho
    simp only [Bool.and_eq_true] at this
    obtain ⟨⟨h1, _⟩, _⟩ := this
    cases hd : o.dst with
    | none => rw [hd] at h1; simp at h1
    | some d => rw [hd] at h1; exact ⟨d, rfl, by simpa using h1⟩
  · have := key i o ho
    simp only [Bool.and_eq_true] at this
    obtain ⟨⟨_, h2⟩, _⟩ := this
    have := List.all_eq_true.1 h2 e (by simpa using he)
    simpa using this
  · have := key i o ho
    simp only [Bool.and_eq_true] at this
    obtain ⟨_, h3⟩ := this
    have hj : j < ops.size := (Array.getElem?_eq_some_iff.1 ho').1
    have := List.all_eq_true.1 h3 j (List.mem_range.2 hj)
    simp only [ho', Option.map_some, Bool.or_eq_true, beq_iff_eq, bne_iff_ne, ne_eq, Option.some.injEq] at this
    rcases this with h | h
    · exact absurd h hij
    · exact h

section
variable {P : Program} {ops : Array Oper} {Q : Exit → Act → World → Prop} {A : Tmp → Value → World → Prop} {a0 : Act} {w0 : World}

/-- What is asked of one operation. -/
def StepOk (P : Program) (ops : Array Oper) (Q : Exit → Act → World → Prop) (A : Tmp → Value → World → Prop) (a0 : Act) (w0 : World) (o : Oper) : Prop :=
  ∀ a w, Ext w0 w → (∀ t, (dstSlots ops).contains t = false → a.tmps.getD t undef = a0.tmps.getD t undef) →
    (∀ t, (depSlots ops o).contains t = true → A t (a.tmps.getD t undef) w) →
    ∀ K : Act → World → Prop, (∀ v w', (∀ d, o.dst = some d → A d v w') → Ext w w' → K (a.put o.dst v) w') →
      if Region.wanted o (yielded ops a.tmps) = true then o.wp P a w K Q else K (a.put o.dst undef) w

structure RInv (ops : Array Oper) (A : Tmp → Value → World → Prop) (a0 : Act) (w0 : World) (listed : Array Bool) (a : Act) (w : World) : Prop where
  ext : Ext w0 w
  size : a.tmps.size = a0.tmps.size
  defers : a.defers = a0.defers
  keep : ∀ t, (dstSlots ops).contains t = false → a.tmps.getD t undef = a0.tmps.getD t undef
  holds : ∀ (i : Nat) (o : Oper) (d : Tmp), listed.getD i false = true → ops[i]? = some o → o.dst = some d → A d (a.tmps.getD d undef) w

def left (ops : Array Oper) (listed : Array Bool) : Nat := (List.range ops.size).countP fun j => !listed.getD j true

theorem getD_lt {listed : Array Bool} {i : Nat} (h : i < listed.size) (b c : Bool) : listed.getD i b = listed.getD i c := by
  simp [Array.getD, h]

theorem countP_lt {l : List Nat} {p q : Nat → Bool} (h : ∀ x, p x = true → q x = true) (i : Nat) (hi : i ∈ l) (hq : q i = true) (hp : p i = false) : l.countP p < l.countP q := by
  induction l with
  | nil => cases hi
  | cons x r ih =>
    have hle : r.countP p ≤ r.countP q := List.countP_mono_left fun y _ => h y
    rw [List.countP_cons, List.countP_cons]
    rcases List.mem_cons.1 hi with rfl | hr
    · simp [hp, hq]; omega
    · have := ih hr
      cases hpx : p x
      · simp; omega
      · simp [h x hpx]; omega

theorem all_of_ready {n : Nat} (fine : Fine ops n) {listed : Array Bool} (hs : listed.size = ops.size) (hr : Region.ready .any ops listed = []) : ∀ i, i < ops.size → listed.getD i false = true := by
  intro i
  induction i using Nat.strongRecOn with
  | _ i ih =>
    intro hi
    cases hl : listed.getD i false with
    | true => rfl
    | false =>
      exfalso
      have : i ∈ Region.ready .any ops listed := by
        rw [mem_ready]
        refine ⟨by rw [getD_lt (by omega) true false]; exact hl, ops[i], Array.getElem?_eq_getElem hi, fun e he _ => ?_⟩
        have hlow := fine.low i ops[i] e (Array.getElem?_eq_getElem hi) he
        exact ih e.on hlow (by omega)
      rw [hr] at this
      cases this

theorem dst_contains {i : Nat} {o : Oper} {d : Tmp} (ho : ops[i]? = some o) (hd : o.dst = some d) : (dstSlots ops).contains d = true := by
  rw [List.contains_iff_mem]
  unfold dstSlots
  rw [List.mem_filterMap]
  refine ⟨o, ?_, hd⟩
  obtain ⟨h, e⟩ := Array.getElem?_eq_some_iff.1 ho
  rw [← e]
  simp

theorem any_of_steps (fine : Fine ops a0.tmps.size) (hA : ∀ t v w w', A t v w → Ext w w' → A t v w')
    (steps : ∀ (i : Nat) (o : Oper), ops[i]? = some o → StepOk P ops Q A a0 w0 o)
    (hend : ∀ a w, Ext w0 w → a.tmps.size = a0.tmps.size → a.defers = a0.defers → (∀ t, (dstSlots ops).contains t = false → a.tmps.getD t undef = a0.tmps.getD t undef) →
      (∀ t, (dstSlots ops).contains t = true → A t (a.tmps.getD t undef) w) → Q .normal a w) :
    ∀ fuel listed a w, RInv ops A a0 w0 listed a w → listed.size = ops.size → left ops listed ≤ fuel → wpAny P .any ops Q fuel listed a w := by
  have fin : ∀ listed a w, RInv ops A a0 w0 listed a w → (∀ i, i < ops.size → listed.getD i false = true) → Q .normal a w := by
    intro listed a w inv hall
    refine hend a w inv.ext inv.size inv.defers inv.keep fun t ht => ?_
    rw [List.contains_iff_mem] at ht
    unfold dstSlots at ht
    obtain ⟨o, ho, hd⟩ := List.mem_filterMap.1 ht
    obtain ⟨i, hi, e⟩ := List.mem_iff_getElem.1 ho
    have hi' : i < ops.size := by simpa using hi
    exact inv.holds i o t (hall i hi') (by rw [Array.getElem?_eq_getElem hi']; simpa using e) hd
  intro fuel
  induction fuel with
  | zero =>
    intro listed a w inv hs hl
    have hall : ∀ i, i < ops.size → listed.getD i false = true := by
      intro i hi
      have h0 : left ops listed = 0 := by omega
      have := List.countP_eq_zero.1 h0 i (List.mem_range.2 hi)
      rw [getD_lt (by omega) false true]
      simpa using this
    refine ⟨?_, fin listed a w inv hall⟩
    cases hr : Region.ready .any ops listed with
    | nil => rfl
    | cons x xs =>
      exfalso
      have hx : x ∈ Region.ready .any ops listed := by rw [hr]; simp
      obtain ⟨h1, o, ho, _⟩ := mem_ready.1 hx
      have hi : x < ops.size := (Array.getElem?_eq_some_iff.1 ho).1
      rw [getD_lt (by omega) true false, hall x hi] at h1
      cases h1
  | succ fuel ih =>
    intro listed a w inv hs hl
    refine ⟨fun hr => fin listed a w inv (all_of_ready fine hs hr), fun i hi => ?_⟩
    obtain ⟨h1, o, ho, hpre⟩ := mem_ready.1 hi
    have hi' : i < ops.size := (Array.getElem?_eq_some_iff.1 ho).1
    obtain ⟨d, hd, hdn⟩ := fine.slot i o ho
    have key := steps i o ho a w inv.ext inv.keep (fun t ht => by
      rw [List.contains_iff_mem] at ht
      unfold depSlots at ht
      obtain ⟨e, he, hb⟩ := List.mem_filterMap.1 ht
      by_cases hbin : Region.binds .any e = true
      · rw [if_pos hbin] at hb
        obtain ⟨oj, hoj, hdj⟩ := Option.bind_eq_some_iff.1 hb
        exact inv.holds e.on oj t (hpre e (by simpa using he) hbin) hoj hdj
      · rw [if_neg hbin] at hb
        cases hb) (wpAny P .any ops Q fuel (listed.setIfInBounds i true)) (fun v w' hv hext => by
      refine ih _ _ _ ?_ (by simpa using hs) ?_
      · refine ⟨inv.ext.trans hext, ?_, ?_, fun t ht => ?_, fun j oj dj hj hoj hdj => ?_⟩
        · rw [hd]; simpa [Act.put] using inv.size
        · rw [hd]; exact inv.defers
        · have htd : t ≠ d := by
            intro e
            rw [e, dst_contains ho hd] at ht
            cases ht
          rw [hd, ← inv.keep t ht]
          simp [Act.put, Array.getElem?_setIfInBounds_ne (Ne.symm htd)]
        · by_cases hij : i = j
          · subst hij
            rw [ho] at hoj
            cases hoj
            rw [hd] at hdj
            cases hdj
            rw [hd]
            have : (a.put (some d) v).tmps.getD d undef = v := by
              have hlt : d < a.tmps.size := by rw [inv.size]; exact hdn
              simp [Act.put, hlt]
            rw [this]
            exact hv d hd
          · have hne : dj ≠ d := by
              intro e
              exact fine.apart i j o oj ho hoj hij (by rw [hd, hdj, e])
            have hj' : listed.getD j false = true := by rw [getD_set_ne false hij] at hj; exact hj
            have := inv.holds j oj dj hj' hoj hdj
            rw [hd]
            have e2 : (a.put (some d) v).tmps.getD dj undef = a.tmps.getD dj undef := by
              simp [Act.put, Array.getElem?_setIfInBounds_ne (Ne.symm hne)]
            rw [e2]
            exact hA _ _ _ _ this hext
      · have hlt : left ops (listed.setIfInBounds i true) < left ops listed := by
          refine countP_lt (fun x hx => ?_) i (List.mem_range.2 hi') (by simp [h1]) ?_
          · by_cases hxi : i = x
            · subst hxi
              simp [h1]
            · rw [getD_set_ne true hxi] at hx
              exact hx
          · have : (listed.setIfInBounds i true).getD i true = true := by
              simp [show i < listed.size by omega]
            simp [this]
        omega)
    unfold wpOp
    simp only [ho]
    split
    · rename_i hw
      rw [if_pos hw] at key
      exact .inl key
    · rename_i hw
      rw [if_neg hw] at key
      exact key

/-- THE RULE. -/
theorem wp_region_open {id : Nat} (hm : P.follows .mixedOrders = true) (fine : fineB ops a0.tmps.size = true) (hA : ∀ t v w w', A t v w → Ext w w' → A t v w')
    (steps : ∀ (i : Nat) (o : Oper), ops[i]? = some o → StepOk P ops Q A a0 w0 o)
    (hend : ∀ a w, Ext w0 w → a.tmps.size = a0.tmps.size → a.defers = a0.defers → (∀ t, (dstSlots ops).contains t = false → a.tmps.getD t undef = a0.tmps.getD t undef) →
      (∀ t, (dstSlots ops).contains t = true → A t (a.tmps.getD t undef) w) → Q .normal a w) : (Code.region id ops true).wp P Q a0 w0 := by
  refine wp_region_any hm (any_of_steps (fine_of _ _ fine) hA steps hend ops.size _ a0 _ ⟨Ext.drew w0, rfl, rfl, fun _ _ => rfl, fun i o d hi ho _ => ?_⟩ (by simp) ?_)
  · have : i < ops.size := (Array.getElem?_eq_some_iff.1 ho).1
    simp [this] at hi
  · unfold left
    exact Nat.le_trans (List.countP_le_length) (by simp)

end
end Go.Proofs.YtilmkmplaehcaaaDoor
