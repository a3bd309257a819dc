/-
  The rule for open-order statements with its end in the walk's own words: the slots of the statement are laid, one by one, into what stood there ahead of it.
-/
import Derived.Test.YtilmkmplaehcaaaDoorOps
namespace Go.Proofs.YtilmkmplaehcaaaDoor
set_option linter.unusedVariables false
open Go.RowKit

def putAll (vs : Nat → Value) : List Nat → Act → Act
  | [], x => x
  | d :: r, x => putAll vs r (x.put (some d) (vs d))

theorem act_puts (a : Act) (ds : List Nat) : ∀ x : Act, a.tmps.size = x.tmps.size → a.defers = x.defers → (∀ t, ds.contains t = false → a.tmps.getD t undef = x.tmps.getD t undef) → a = putAll (fun d => a.tmps.getD d undef) ds x := by
  induction ds with
  | nil =>
    intro x hs hd hf
    obtain ⟨t, df⟩ := a
    obtain ⟨t', df'⟩ := x
    simp only at hs hd hf
    subst hd
    have e : t = t' := by
      apply Array.ext hs
      intro i h1 h2
      have := hf i (by simp)
      simpa [h1, h2] using this
    rw [e]
    rfl
  | cons d r ih =>
    intro x hs hd hf
    refine ih (x.put (some d) (a.tmps.getD d undef)) (by simpa [Act.put] using hs) hd fun t ht => ?_
    by_cases e : t = d
    · subst e
      rcases Nat.lt_or_ge t x.tmps.size with h | h
      · simp [Act.put, h]
      · have h2 : a.tmps.size ≤ t := by omega
        simp [Act.put, h, h2]
    · have hne : d ≠ t := fun h => e h.symm
      rw [hf t (by simp only [List.contains_cons, ht, Bool.or_false]; simpa using e)]
      simp [Act.put, hne]

section
variable {P : Program} {ops : Array Oper} {Q : Exit → Act → World → Prop} {A : Tmp → Value → World → Prop} {a0 : Act} {w0 : World}

theorem wp_region_open2 {id : Nat} (ds : List Nat) (hds : dstSlots ops = ds) (hm : P.follows .mixedOrders = true) (fine : fineB ops a0.tmps.size = true) (hA : ∀ t v w w', A t v w → Ext w w' → A t v w')
    (steps : ∀ (i : Nat) (o : Oper), ops[i]? = some o → StepOk P ops Q A a0 w0 o)
    (hend : ∀ (vs : Nat → Value) w, Ext w0 w → (∀ t, ds.contains t = true → A t (vs t) w) → Q .normal (putAll vs ds a0) w) : (Code.region id ops true).wp P Q a0 w0 := by
  subst hds
  refine wp_region_open hm fine hA steps fun a w hx hsz hdef hfix hkn => ?_
  rw [act_puts a (dstSlots ops) a0 hsz hdef hfix]
  exact hend (fun d => a.tmps.getD d undef) w hx hkn
end
end Go.Proofs.YtilmkmplaehcaaaDoor
