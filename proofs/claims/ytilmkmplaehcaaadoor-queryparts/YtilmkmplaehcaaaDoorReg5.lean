/-
  The rule for open-order statements whose last operations wait for all the others: the others in any order, by what is known of their slots; then the last ones, one by one.
-/
import Derived.Test.YtilmkmplaehcaaaDoorReg3
namespace Go.Proofs.YtilmkmplaehcaaaDoor
set_option linter.unusedVariables false
open Go.RowKit

/-- What an operation waits for, and what that waits for. -/
def waits (ops : Array Oper) (i : Nat) : List Nat :=
  match ops[i]? with
  | some o => o.after.toList.filterMap fun e => if Region.binds .any e then some e.on else none
  | none => []
def anc (ops : Array Oper) : Nat → Nat → List Nat
  | 0, _ => []
  | f + 1, i => waits ops i ++ (waits ops i).flatMap (anc ops f)
/-- From the k-th on each operation waits for all ahead of it. -/
def tailB (ops : Array Oper) (k : Nat) : Bool := decide (k < ops.size) && (List.range ops.size).all fun i => decide (i < k) || (List.range i).all fun j => (anc ops ops.size i).contains j
def dsK (ops : Array Oper) (k : Nat) : List Tmp := (ops.toList.take k).filterMap (·.dst)

section
variable {P : Program} {ops : Array Oper} {Q : Exit → Act → World → Prop} {A : Tmp → Value → World → Prop} {a0 : Act} {w0 : World}

theorem mem_waits {i x : Nat} (h : x ∈ waits ops i) : ∃ o e, ops[i]? = some o ∧ e ∈ o.after ∧ Region.binds .any e = true ∧ e.on = x := by
  unfold waits at h
  split at h
  · rename_i o ho
    obtain ⟨e, he, hb⟩ := List.mem_filterMap.1 h
    by_cases hbin : Region.binds .any e = true
    · rw [if_pos hbin] at hb
      cases hb
      exact ⟨o, e, ho, by simpa using he, hbin, rfl⟩
    · rw [if_neg hbin] at hb
      cases hb
  · simp at h

/-- What is listed is shut: so what an operation waits for, all that is listed too. -/
theorem anc_listed {listed : Array Bool} (shut : ∀ (j : Nat) (oj : Oper) (e : Edge), listed.getD j false = true → ops[j]? = some oj → e ∈ oj.after → Region.binds .any e = true → listed.getD e.on false = true) :
    ∀ (f i : Nat), (∀ x ∈ waits ops i, listed.getD x false = true) → ∀ x ∈ anc ops f i, listed.getD x false = true
  | 0, i, _, x, hx => by simp [anc] at hx
  | f + 1, i, h, x, hx => by
    rw [anc] at hx
    rcases List.mem_append.1 hx with hx | hx
    · exact h x hx
    · obtain ⟨y, hy, hxy⟩ := List.mem_flatMap.1 hx
      refine anc_listed shut f y (fun z hz => ?_) x hxy
      obtain ⟨o, e, ho, he, hb, rfl⟩ := mem_waits hz
      exact shut y o e (h y hy) ho he hb

theorem tail_all {k : Nat} (ht : tailB ops k = true) {listed : Array Bool} (shut : ∀ (j : Nat) (oj : Oper) (e : Edge), listed.getD j false = true → ops[j]? = some oj → e ∈ oj.after → Region.binds .any e = true → listed.getD e.on false = true)
    {i : Nat} (hi : i ∈ Region.ready .any ops listed) (hk : k ≤ i) : ∀ j < i, listed.getD j false = true := by
  intro j hj
  obtain ⟨_, o, ho, hpre⟩ := mem_ready.1 hi
  have hi' : i < ops.size := (Array.getElem?_eq_some_iff.1 ho).1
  unfold tailB at ht
  rw [Bool.and_eq_true] at ht
  have h2 := List.all_eq_true.1 ht.2 i (List.mem_range.2 hi')
  rw [Bool.or_eq_true] at h2
  rcases h2 with h2 | h2
  · have := of_decide_eq_true h2
    omega
  · have h3 := List.all_eq_true.1 h2 j (List.mem_range.2 hj)
    rw [List.contains_iff_mem] at h3
    refine anc_listed shut ops.size i (fun x hx => ?_) j h3
    obtain ⟨o', e, ho', he, hb, rfl⟩ := mem_waits hx
    rw [ho] at ho'
    cases ho'
    exact hpre e he hb

theorem waits_shut {listed : Array Bool} {i : Nat} {o : Oper} (ho : ops[i]? = some o) (hpre : ∀ e ∈ o.after, Region.binds .any e = true → listed.getD e.on false = true)
    (shut : ∀ (j : Nat) (oj : Oper) (e : Edge), listed.getD j false = true → ops[j]? = some oj → e ∈ oj.after → Region.binds .any e = true → listed.getD e.on false = true) :
    ∀ (j : Nat) (oj : Oper) (e : Edge), (listed.setIfInBounds i true).getD j false = true → ops[j]? = some oj → e ∈ oj.after → Region.binds .any e = true → (listed.setIfInBounds i true).getD e.on false = true := by
  intro j oj e hj hoj he hbin
  by_cases hij : i = j
  · subst hij
    rw [ho] at hoj
    cases hoj
    exact listed_mono (hpre e he hbin)
  · rw [getD_set_ne false hij] at hj
    exact listed_mono (shut j oj e hj hoj he hbin)

/-- The last ones, one by one. -/
theorem any_tail {n k : Nat} (fine : Fine ops n) (ht : tailB ops k = true) : ∀ (fuel m : Nat) (listed : Array Bool) (a : Act) (w : World), k ≤ m → m ≤ ops.size → listed.size = ops.size → (∀ j < m, listed.getD j false = true) → (∀ j, m ≤ j → listed.getD j false = false) →
    (∀ (j : Nat) (oj : Oper) (e : Edge), listed.getD j false = true → ops[j]? = some oj → e ∈ oj.after → Region.binds .any e = true → listed.getD e.on false = true) →
    ops.size - m ≤ fuel → wpList P ops Q (ops.toList.drop m) a w → wpAny P .any ops Q fuel listed a w := by
  intro fuel
  have fin : ∀ (m : Nat) (a : Act) (w : World), ops.size ≤ m → wpList P ops Q (ops.toList.drop m) a w → Q .normal a w := by
    intro m a w hm h
    rw [List.drop_of_length_le (by simpa using hm)] at h
    exact h
  induction fuel with
  | zero =>
    intro m listed a w hk hm hs hl hn shut hf h
    refine ⟨?_, fin m a w (by omega) h⟩
    cases hr : Region.ready .any ops listed with
    | nil => rfl
    | cons x xs =>
      exfalso
      have hx : x ∈ Region.ready .any ops listed := by rw [hr]; simp
      obtain ⟨h1, o, ho, _⟩ := mem_ready.1 hx
      have hi : x < ops.size := (Array.getElem?_eq_some_iff.1 ho).1
      rw [getD_lt (by omega) true false, hl x (by omega)] at h1
      cases h1
  | succ fuel ih =>
    intro m listed a w hk hm hs hl hn shut hf h
    refine ⟨fun hr => ?_, fun i hi => ?_⟩
    · have hall := all_of_ready fine hs hr
      refine fin m a w ?_ h
      rcases Nat.lt_or_ge m ops.size with hlt | hge
      · have := hall m hlt
        rw [hn m (Nat.le_refl _)] at this
        cases this
      · exact hge
    · obtain ⟨h1, o, ho, hpre⟩ := mem_ready.1 hi
      have hi' : i < ops.size := (Array.getElem?_eq_some_iff.1 ho).1
      have hif : listed.getD i false = false := by rw [getD_lt (by omega) false true]; exact h1
      have him : m ≤ i := by
        rcases Nat.lt_or_ge i m with hlt | hge
        · rw [hl i hlt] at hif
          cases hif
        · exact hge
      have hbef := tail_all ht shut hi (by omega)
      have e : i = m := by
        rcases Nat.lt_or_ge m i with hlt | hge
        · have := hbef m hlt
          rw [hn m (Nat.le_refl _)] at this
          cases this
        · omega
      subst e
      have hd : ops.toList.drop i = o :: ops.toList.drop (i + 1) := by
        have hl : i < ops.toList.length := by simpa using hi'
        rw [List.drop_eq_getElem_cons hl]
        congr 1
        have := Array.getElem?_eq_getElem hi'
        rw [ho] at this
        simpa using (Option.some.inj this).symm
      rw [hd] at h
      have h2 : wpOp P ops Q i (wpList P ops Q (ops.toList.drop (i + 1))) a w := by
        unfold wpOp
        simp only [ho]
        exact h
      refine wpOp_mono (fun a' w' h' => ?_) h2
      refine ih (i + 1) _ a' w' (by omega) (by omega) (by simpa using hs) (fun j hj => ?_) (fun j hj => ?_) (waits_shut ho hpre shut) (by omega) h'
      · by_cases hij : i = j
        · subst hij
          simp [show i < listed.size by omega]
        · rw [getD_set_ne false hij]
          exact hl j (by omega)
      · rw [getD_set_ne false (by omega)]
        exact hn j (by omega)

theorem any_of_steps5 {k : Nat} (fine : Fine ops a0.tmps.size) (ht : tailB ops k = true) (hA : ∀ t v w w', A t v w → Ext w w' → A t v w')
    (steps : ∀ (i : Nat) (o : Oper), i < k → ops[i]? = some o → StepOk3 P ops Q A a0 w0 i o)
    (hend : ∀ a w, Ext w0 w → a.tmps.size = a0.tmps.size → a.defers = a0.defers → (∀ t, (dsK ops k).contains t = false → a.tmps.getD t undef = a0.tmps.getD t undef) →
      (∀ t, (dsK ops k).contains t = true → A t (a.tmps.getD t undef) w) → wpList P ops Q (ops.toList.drop k) a w) :
    ∀ fuel listed a w, RInv3 ops A a0 w0 listed a w → (∀ j, k ≤ j → listed.getD j false = false) → listed.size = ops.size → left ops listed ≤ fuel → wpAny P .any ops Q fuel listed a w := by
  have hk : k < ops.size := by
    unfold tailB at ht
    rw [Bool.and_eq_true] at ht
    exact of_decide_eq_true ht.1
  have fin : ∀ fuel listed a w, RInv3 ops A a0 w0 listed a w → (∀ j, k ≤ j → listed.getD j false = false) → listed.size = ops.size → left ops listed ≤ fuel → (∀ i, i < k → listed.getD i false = true) → wpAny P .any ops Q fuel listed a w := by
    intro fuel listed a w inv hno hs hl hall
    refine any_tail fine ht fuel k listed a w (Nat.le_refl _) (by omega) hs hall hno inv.shut ?_ ?_
    · have : ((List.range ops.size).drop k).countP (fun j => !listed.getD j true) ≤ left ops listed := by
        unfold left
        exact List.Sublist.countP_le (List.drop_sublist _ _)
      have e2 : ((List.range ops.size).drop k).countP (fun j => !listed.getD j true) = ((List.range ops.size).drop k).length := by
        rw [List.countP_eq_length]
        intro j hj
        rw [List.mem_iff_getElem?] at hj
        obtain ⟨i, hi⟩ := hj
        rw [List.getElem?_drop] at hi
        obtain ⟨h1, h2⟩ := List.getElem?_eq_some_iff.1 hi
        rw [List.length_range] at h1
        rw [List.getElem_range] at h2
        rw [getD_lt (by omega) true false, hno j (by omega)]
        rfl
      rw [e2, List.length_drop, List.length_range] at this
      omega
    · refine hend a w inv.ext inv.size inv.defers (fun t htt => inv.keep t fun j oj hj hdj => ?_) fun t htt => ?_
      · rcases Nat.lt_or_ge j k with hlt | hge
        · have : (dsK ops k).contains t = true := by
            rw [List.contains_iff_mem]
            unfold dsK
            rw [List.mem_filterMap]
            refine ⟨oj, ?_, hdj⟩
            rw [List.mem_iff_getElem?]
            exact ⟨j, by rw [List.getElem?_take, if_pos hlt, Array.getElem?_toList]; exact hj⟩
          rw [htt] at this
          cases this
        · exact hno j hge
      · rw [List.contains_iff_mem] at htt
        unfold dsK at htt
        obtain ⟨o, ho, hd⟩ := List.mem_filterMap.1 htt
        obtain ⟨i, hi⟩ := List.mem_iff_getElem?.1 ho
        rw [List.getElem?_take] at hi
        split at hi
        · rename_i hik
          rw [Array.getElem?_toList] at hi
          exact inv.holds i o t (hall i hik) hi hd
        · cases hi
  intro fuel
  induction fuel with
  | zero =>
    intro listed a w inv hno hs hl
    refine fin 0 listed a w inv hno hs hl fun i hi => ?_
    have h0 : left ops listed = 0 := by omega
    have := List.countP_eq_zero.1 h0 i (List.mem_range.2 (by omega))
    rw [getD_lt (by omega) false true]
    simpa using this
  | succ fuel ih =>
    intro listed a w inv hno hs hl
    by_cases hall : ∀ i, i < k → listed.getD i false = true
    · exact fin (fuel + 1) listed a w inv hno hs hl hall
    refine ⟨fun hr => absurd (fun i hi => all_of_ready fine hs hr i (by omega)) hall, fun i hi => ?_⟩
    obtain ⟨h1, o, ho, hpre⟩ := mem_ready.1 hi
    have hi' : i < ops.size := (Array.getElem?_eq_some_iff.1 ho).1
    have hik : i < k := by
      rcases Nat.lt_or_ge i k with hlt | hge
      · exact hlt
      · exact absurd (fun j hj => tail_all ht inv.shut hi hge j (by omega)) hall
    have hif : listed.getD i false = false := by rw [getD_lt (by omega) false true]; exact h1
    obtain ⟨d, hd, hdn⟩ := fine.slot i o ho
    have key := steps i o hik ho a w inv.ext (fun t ht => inv.keep t fun j oj hj hdj => by
        unfold stillB at ht
        have hmem : oj ∈ ops.toList := by
          obtain ⟨h, e⟩ := Array.getElem?_eq_some_iff.1 hj
          rw [← e]
          simp
        have h2 := List.all_eq_true.1 ht oj hmem
        rw [Bool.or_eq_true] at h2
        rcases h2 with h2 | h2
        · rw [bne_iff_ne] at h2
          exact absurd hdj h2
        · rw [List.any_eq_true] at h2
          obtain ⟨e, he, heb⟩ := h2
          rw [Bool.and_eq_true, beq_iff_eq] at heb
          cases hlj : listed.getD j false with
          | false => rfl
          | true =>
            have := inv.shut j oj e hlj hj (by simpa using he) heb.2
            rw [heb.1, hif] at this
            cases this)
      (fun t ht => by
      rw [List.contains_iff_mem] at ht
      unfold depSlots at ht
      obtain ⟨e, he, hb⟩ := List.mem_filterMap.1 ht
      by_cases hbin : Region.binds .any e = true
      · rw [if_pos hbin] at hb
        obtain ⟨oj, hoj, hdj⟩ := Option.bind_eq_some_iff.1 hb
        exact inv.holds e.on oj t (hpre e (by simpa using he) hbin) hoj hdj
      · rw [if_neg hbin] at hb
        cases hb) (wpAny P .any ops Q fuel (listed.setIfInBounds i true)) (fun v w' hv hext => by
      refine ih _ _ _ ?_ (fun j hj => ?_) (by simpa using hs) ?_
      · refine ⟨inv.ext.trans hext, ?_, ?_, fun t ht => ?_, waits_shut ho hpre inv.shut, fun j oj dj hj hoj hdj => ?_⟩
        · rw [hd]; simpa [Act.put] using inv.size
        · rw [hd]; exact inv.defers
        · have htd : t ≠ d := by
            intro e
            have := ht i o ho (by rw [hd, e])
            simp [show i < listed.size by omega] at this
          rw [hd, ← inv.keep t fun j oj hj hdj => ?_]
          · simp [Act.put, Array.getElem?_setIfInBounds_ne (Ne.symm htd)]
          · by_cases hij : i = j
            · subst hij
              exact hif
            · have := ht j oj hj hdj
              rw [getD_set_ne false hij] at this
              exact this
        · by_cases hij : i = j
          · subst hij
            rw [ho] at hoj
            cases hoj
            rw [hd] at hdj
            cases hdj
            rw [hd]
            have : (a.put (some d) v).tmps.getD d undef = v := by
              have hlt : d < a.tmps.size := by rw [inv.size]; exact hdn
              simp [Act.put, hlt]
            rw [this]
            exact hv d hd
          · have hne : dj ≠ d := by
              intro e
              exact fine.apart i j o oj ho hoj hij (by rw [hd, hdj, e])
            have hj' : listed.getD j false = true := by rw [getD_set_ne false hij] at hj; exact hj
            have := inv.holds j oj dj hj' hoj hdj
            rw [hd]
            have e2 : (a.put (some d) v).tmps.getD dj undef = a.tmps.getD dj undef := by
              simp [Act.put, Array.getElem?_setIfInBounds_ne (Ne.symm hne)]
            rw [e2]
            exact hA _ _ _ _ this hext
      · rw [getD_set_ne false (by omega)]
        exact hno j hj
      · have hlt : left ops (listed.setIfInBounds i true) < left ops listed := by
          refine countP_lt (fun x hx => ?_) i (List.mem_range.2 hi') (by simp [h1]) ?_
          · by_cases hxi : i = x
            · subst hxi
              simp [h1]
            · rw [getD_set_ne true hxi] at hx
              exact hx
          · have : (listed.setIfInBounds i true).getD i true = true := by
              simp [show i < listed.size by omega]
            simp [this]
        omega)
    unfold wpOp
    simp only [ho]
    split
    · rename_i hw
      rw [if_pos hw] at key
      exact .inl key
    · rename_i hw
      rw [if_neg hw] at key
      exact key

/-- THE RULE. -/
theorem wp_region_tail {id : Nat} (k : Nat) (ds : List Nat) (hds : dsK ops k = ds) (ht : tailB ops k = true) (hm : P.follows .mixedOrders = true) (fine : fineB ops a0.tmps.size = true) (hA : ∀ t v w w', A t v w → Ext w w' → A t v w')
    (steps : ∀ (i : Nat) (o : Oper), i < k → ops[i]? = some o → StepOk3 P ops Q A a0 w0 i o)
    (hend : ∀ (vs : Nat → Value) w, Ext w0 w → (∀ t, ds.contains t = true → A t (vs t) w) → wpList P ops Q (ops.toList.drop k) (putAll vs ds a0) w) : (Code.region id ops true).wp P Q a0 w0 := by
  subst hds
  refine wp_region_any hm (any_of_steps5 (fine_of _ _ fine) ht hA steps (fun a w hx hsz hdef hfix hkn => by
    rw [act_puts a (dsK ops k) a0 hsz hdef hfix]
    exact hend (fun d => a.tmps.getD d undef) w hx hkn) ops.size _ a0 _ ⟨Ext.drew w0, rfl, rfl, fun _ _ => rfl, fun j oj e hj hoj _ _ => ?_, fun i o d hi ho _ => ?_⟩ (fun j _ => ?_) (by simp) ?_)
  · have : j < ops.size := (Array.getElem?_eq_some_iff.1 hoj).1
    simp [this] at hj
  · have : i < ops.size := (Array.getElem?_eq_some_iff.1 ho).1
    simp [this] at hi
  · by_cases h : j < ops.size
    · simp [h]
    · simp [h]
  · unfold left
    exact Nat.le_trans (List.countP_le_length) (by simp)

/-- The first ones, each with its place. -/
def AllAt (S : Nat → Oper → Prop) : Nat → List Oper → Prop
  | _, [] => True
  | i, o :: r => S i o ∧ AllAt S (i + 1) r
theorem allAt_mem {S : Nat → Oper → Prop} {l : List Oper} : ∀ {i : Nat}, AllAt S i l → ∀ (j : Nat) (o : Oper), l[j]? = some o → S (i + j) o := by
  induction l with
  | nil =>
    intro i _ j o ho
    simp at ho
  | cons x r ih =>
    intro i h j o ho
    cases j with
    | zero =>
      simp only [List.getElem?_cons_zero, Option.some.injEq] at ho
      rw [← ho]
      exact h.1
    | succ j =>
      have := ih h.2 j o (by simpa using ho)
      rw [show i + (j + 1) = i + 1 + j by omega]
      exact this
theorem steps_at {k : Nat} (h : AllAt (StepOk3 P ops Q A a0 w0) 0 (ops.toList.take k)) : ∀ (i : Nat) (o : Oper), i < k → ops[i]? = some o → StepOk3 P ops Q A a0 w0 i o := by
  intro i o hi ho
  have := allAt_mem h i o (by rw [List.getElem?_take, if_pos hi, Array.getElem?_toList]; exact ho)
  simpa using this
theorem allAt_nil {S : Nat → Oper → Prop} {i : Nat} : AllAt S i [] := trivial
theorem allAt_cons {S : Nat → Oper → Prop} {i : Nat} {o : Oper} {r : List Oper} (h : S i o) (k : AllAt S (i + 1) r) : AllAt S i (o :: r) := ⟨h, k⟩
end
end Go.Proofs.YtilmkmplaehcaaaDoor
