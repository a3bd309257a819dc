/-
  The rule for open-order statements where one operation reads what another one, that waits for it, will write.
-/
import Derived.Test.YtilmkmplaehcaaaDoorReg2
namespace Go.Proofs.YtilmkmplaehcaaaDoor
set_option linter.unusedVariables false
open Go.RowKit

/-- Whatever would write t waits for the i-th operation. -/
def stillB (ops : Array Oper) (i : Nat) (t : Tmp) : Bool := ops.toList.all fun oj => oj.dst != some t || oj.after.toList.any fun e => e.on == i && Region.binds .any e

section
variable {P : Program} {ops : Array Oper} {Q : Exit → Act → World → Prop} {A : Tmp → Value → World → Prop} {a0 : Act} {w0 : World}

def StepOk3 (P : Program) (ops : Array Oper) (Q : Exit → Act → World → Prop) (A : Tmp → Value → World → Prop) (a0 : Act) (w0 : World) (i : Nat) (o : Oper) : Prop :=
  ∀ a w, Ext w0 w → (∀ t, stillB ops i t = true → a.tmps.getD t undef = a0.tmps.getD t undef) →
    (∀ t, (depSlots ops o).contains t = true → A t (a.tmps.getD t undef) w) →
    ∀ K : Act → World → Prop, (∀ v w', (∀ d, o.dst = some d → A d v w') → Ext w w' → K (a.put o.dst v) w') →
      if Region.wanted o (yielded ops a.tmps) = true then o.wp P a w K Q else K (a.put o.dst undef) w

theorem still_free {i : Nat} {t : Tmp} (h : (dstSlots ops).contains t = false) : stillB ops i t = true := by
  unfold stillB
  rw [List.all_eq_true]
  intro oj hoj
  rw [Bool.or_eq_true]
  left
  rw [bne_iff_ne]
  intro e
  have : (dstSlots ops).contains t = true := by
    rw [List.contains_iff_mem]
    unfold dstSlots
    rw [List.mem_filterMap]
    exact ⟨oj, hoj, e⟩
  rw [h] at this
  cases this
theorem StepOk.three {o : Oper} (i : Nat) (h : StepOk P ops Q A a0 w0 o) : StepOk3 P ops Q A a0 w0 i o :=
  fun a w hx hf hd K hK => h a w hx (fun t ht => hf t (still_free ht)) hd K hK

/-- A move of what another one writes later. -/
theorem ok_still {o : Oper} {d : Tmp} (i : Nat) (hg : o.guard = none) (hdst : o.dst = some d) (x : Tmp) (v0 : Value) (ho : o.op = .move (.tmp x)) (hs : stillB ops i x = true)
    (hv : a0.tmps.getD x undef = v0) (hF : ∀ w, Ext w0 w → A d v0 w) : StepOk3 P ops Q A a0 w0 i o := by
  intro a w hx hf hd K hK
  rw [if_pos (by simp [Region.wanted, hg])]
  have e : a.tmps.getD x undef = v0 := by rw [hf x hs, hv]
  unfold Oper.wp
  have hr : (execOp a.eval o).run P w = .ok (.value v0) w := by simp only [execOp, ho, Act.eval, e]; simp
  rw [hr]
  exact hK v0 w (fun d' hd' => by rw [hdst] at hd'; cases hd'; exact hF w hx) (Ext.refl _)

structure RInv3 (ops : Array Oper) (A : Tmp → Value → World → Prop) (a0 : Act) (w0 : World) (listed : Array Bool) (a : Act) (w : World) : Prop where
  ext : Ext w0 w
  size : a.tmps.size = a0.tmps.size
  defers : a.defers = a0.defers
  keep : ∀ t, (∀ (j : Nat) (oj : Oper), ops[j]? = some oj → oj.dst = some t → listed.getD j false = false) → a.tmps.getD t undef = a0.tmps.getD t undef
  shut : ∀ (j : Nat) (oj : Oper) (e : Edge), listed.getD j false = true → ops[j]? = some oj → e ∈ oj.after → Region.binds .any e = true → listed.getD e.on false = true
  holds : ∀ (i : Nat) (o : Oper) (d : Tmp), listed.getD i false = true → ops[i]? = some o → o.dst = some d → A d (a.tmps.getD d undef) w

theorem listed_mono {listed : Array Bool} {i x : Nat} (h : listed.getD x false = true) : (listed.setIfInBounds i true).getD x false = true := by
  by_cases e : i = x
  · subst e
    have hlt : i < listed.size := by
      rcases Nat.lt_or_ge i listed.size with h' | h'
      · exact h'
      · simp [h'] at h
    simp [hlt]
  · rw [getD_set_ne false e]
    exact h

theorem any_of_steps3 (fine : Fine ops a0.tmps.size) (hA : ∀ t v w w', A t v w → Ext w w' → A t v w')
    (steps : ∀ (i : Nat) (o : Oper), ops[i]? = some o → StepOk3 P ops Q A a0 w0 i o)
    (hend : ∀ a w, Ext w0 w → a.tmps.size = a0.tmps.size → a.defers = a0.defers → (∀ t, (dstSlots ops).contains t = false → a.tmps.getD t undef = a0.tmps.getD t undef) →
      (∀ t, (dstSlots ops).contains t = true → A t (a.tmps.getD t undef) w) → Q .normal a w) :
    ∀ fuel listed a w, RInv3 ops A a0 w0 listed a w → listed.size = ops.size → left ops listed ≤ fuel → wpAny P .any ops Q fuel listed a w := by
  have fin : ∀ listed a w, RInv3 ops A a0 w0 listed a w → (∀ i, i < ops.size → listed.getD i false = true) → Q .normal a w := by
    intro listed a w inv hall
    refine hend a w inv.ext inv.size inv.defers (fun t ht => inv.keep t fun j oj hj hdj => ?_) fun t ht => ?_
    · rw [dst_contains hj hdj] at ht
      cases ht
    · rw [List.contains_iff_mem] at ht
      unfold dstSlots at ht
      obtain ⟨o, ho, hd⟩ := List.mem_filterMap.1 ht
      obtain ⟨i, hi, e⟩ := List.mem_iff_getElem.1 ho
      have hi' : i < ops.size := by simpa using hi
      exact inv.holds i o t (hall i hi') (by rw [Array.getElem?_eq_getElem hi']; simpa using e) hd
  intro fuel
  induction fuel with
  | zero =>
    intro listed a w inv hs hl
    have hall : ∀ i, i < ops.size → listed.getD i false = true := by
      intro i hi
      have h0 : left ops listed = 0 := by omega
      have := List.countP_eq_zero.1 h0 i (List.mem_range.2 hi)
      rw [getD_lt (by omega) false true]
      simpa using this
    refine ⟨?_, fin listed a w inv hall⟩
    cases hr : Region.ready .any ops listed with
    | nil => rfl
    | cons x xs =>
      exfalso
      have hx : x ∈ Region.ready .any ops listed := by rw [hr]; simp
      obtain ⟨h1, o, ho, _⟩ := mem_ready.1 hx
      have hi : x < ops.size := (Array.getElem?_eq_some_iff.1 ho).1
      rw [getD_lt (by omega) true false, hall x hi] at h1
      cases h1
  | succ fuel ih =>
    intro listed a w inv hs hl
    refine ⟨fun hr => fin listed a w inv (all_of_ready fine hs hr), fun i hi => ?_⟩
    obtain ⟨h1, o, ho, hpre⟩ := mem_ready.1 hi
    have hi' : i < ops.size := (Array.getElem?_eq_some_iff.1 ho).1
    have hif : listed.getD i false = false := by rw [getD_lt (by omega) false true]; exact h1
    obtain ⟨d, hd, hdn⟩ := fine.slot i o ho
    have key := steps i o ho a w inv.ext (fun t ht => inv.keep t fun j oj hj hdj => by
        unfold stillB at ht
        have hmem : oj ∈ ops.toList := by
          obtain ⟨h, e⟩ := Array.getElem?_eq_some_iff.1 hj
          rw [← e]
          simp
        have h2 := List.all_eq_true.1 ht oj hmem
        rw [Bool.or_eq_true] at h2
        rcases h2 with h2 | h2
        · rw [bne_iff_ne] at h2
          exact absurd hdj h2
        · rw [List.any_eq_true] at h2
          obtain ⟨e, he, heb⟩ := h2
          rw [Bool.and_eq_true, beq_iff_eq] at heb
          cases hlj : listed.getD j false with
          | false => rfl
          | true =>
            have := inv.shut j oj e hlj hj (by simpa using he) heb.2
            rw [heb.1, hif] at this
            cases this)
      (fun t ht => by
      rw [List.contains_iff_mem] at ht
      unfold depSlots at ht
      obtain ⟨e, he, hb⟩ := List.mem_filterMap.1 ht
      by_cases hbin : Region.binds .any e = true
      · rw [if_pos hbin] at hb
        obtain ⟨oj, hoj, hdj⟩ := Option.bind_eq_some_iff.1 hb
        exact inv.holds e.on oj t (hpre e (by simpa using he) hbin) hoj hdj
      · rw [if_neg hbin] at hb
        cases hb) (wpAny P .any ops Q fuel (listed.setIfInBounds i true)) (fun v w' hv hext => by
      refine ih _ _ _ ?_ (by simpa using hs) ?_
      · refine ⟨inv.ext.trans hext, ?_, ?_, fun t ht => ?_, fun j oj e hj hoj he hbin => ?_, fun j oj dj hj hoj hdj => ?_⟩
        · rw [hd]; simpa [Act.put] using inv.size
        · rw [hd]; exact inv.defers
        · have htd : t ≠ d := by
            intro e
            have := ht i o ho (by rw [hd, e])
            simp [show i < listed.size by omega] at this
          rw [hd, ← inv.keep t fun j oj hj hdj => ?_]
          · simp [Act.put, Array.getElem?_setIfInBounds_ne (Ne.symm htd)]
          · by_cases hij : i = j
            · subst hij
              exact hif
            · have := ht j oj hj hdj
              rw [getD_set_ne false hij] at this
              exact this
        · by_cases hij : i = j
          · subst hij
            rw [ho] at hoj
            cases hoj
            exact listed_mono (hpre e he hbin)
          · rw [getD_set_ne false hij] at hj
            exact listed_mono (inv.shut j oj e hj hoj he hbin)
        · by_cases hij : i = j
          · subst hij
            rw [ho] at hoj
            cases hoj
            rw [hd] at hdj
            cases hdj
            rw [hd]
            have : (a.put (some d) v).tmps.getD d undef = v := by
              have hlt : d < a.tmps.size := by rw [inv.size]; exact hdn
              simp [Act.put, hlt]
            rw [this]
            exact hv d hd
          · have hne : dj ≠ d := by
              intro e
              exact fine.apart i j o oj ho hoj hij (by rw [hd, hdj, e])
            have hj' : listed.getD j false = true := by rw [getD_set_ne false hij] at hj; exact hj
            have := inv.holds j oj dj hj' hoj hdj
            rw [hd]
            have e2 : (a.put (some d) v).tmps.getD dj undef = a.tmps.getD dj undef := by
              simp [Act.put, Array.getElem?_setIfInBounds_ne (Ne.symm hne)]
            rw [e2]
            exact hA _ _ _ _ this hext
      · have hlt : left ops (listed.setIfInBounds i true) < left ops listed := by
          refine countP_lt (fun x hx => ?_) i (List.mem_range.2 hi') (by simp [h1]) ?_
          · by_cases hxi : i = x
            · subst hxi
              simp [h1]
            · rw [getD_set_ne true hxi] at hx
              exact hx
          · have : (listed.setIfInBounds i true).getD i true = true := by
              simp [show i < listed.size by omega]
            simp [this]
        omega)
    unfold wpOp
    simp only [ho]
    split
    · rename_i hw
      rw [if_pos hw] at key
      exact .inl key
    · rename_i hw
      rw [if_neg hw] at key
      exact key

/-- THE RULE, with its end in the walk's own words. -/
theorem wp_region_open3 {id : Nat} (ds : List Nat) (hds : dstSlots ops = ds) (hm : P.follows .mixedOrders = true) (fine : fineB ops a0.tmps.size = true) (hA : ∀ t v w w', A t v w → Ext w w' → A t v w')
    (steps : ∀ (i : Nat) (o : Oper), ops[i]? = some o → StepOk3 P ops Q A a0 w0 i o)
    (hend : ∀ (vs : Nat → Value) w, Ext w0 w → (∀ t, ds.contains t = true → A t (vs t) w) → Q .normal (putAll vs ds a0) w) : (Code.region id ops true).wp P Q a0 w0 := by
  subst hds
  refine wp_region_any hm (any_of_steps3 (fine_of _ _ fine) hA steps (fun a w hx hsz hdef hfix hkn => by
    rw [act_puts a (dstSlots ops) a0 hsz hdef hfix]
    exact hend (fun d => a.tmps.getD d undef) w hx hkn) ops.size _ a0 _ ⟨Ext.drew w0, rfl, rfl, fun _ _ => rfl, fun j oj e hj hoj _ _ => ?_, fun i o d hi ho _ => ?_⟩ (by simp) ?_)
  · have : j < ops.size := (Array.getElem?_eq_some_iff.1 hoj).1
    simp [this] at hj
  · have : i < ops.size := (Array.getElem?_eq_some_iff.1 ho).1
    simp [this] at hi
  · unfold left
    exact Nat.le_trans (List.countP_le_length) (by simp)

/-- The first operation by itself, the others as ever. -/
theorem steps_first {o0 : Oper} (h0 : ops[0]? = some o0) (hf : StepOk3 P ops Q A a0 w0 0 o0) (hr : AllOps (StepOk P ops Q A a0 w0) (ops.toList.drop 1)) : ∀ (i : Nat) (o : Oper), ops[i]? = some o → StepOk3 P ops Q A a0 w0 i o := by
  intro i o ho
  cases i with
  | zero =>
    rw [h0] at ho
    cases ho
    exact hf
  | succ i =>
    refine StepOk.three _ (allOps_mem hr o ?_)
    obtain ⟨h, e⟩ := Array.getElem?_eq_some_iff.1 ho
    rw [List.mem_iff_getElem?]
    refine ⟨i, ?_⟩
    rw [List.getElem?_drop, Nat.add_comm, Array.getElem?_toList]
    exact ho
end
end Go.Proofs.YtilmkmplaehcaaaDoor
