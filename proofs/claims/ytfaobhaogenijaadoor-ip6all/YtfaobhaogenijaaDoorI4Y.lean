/-
  The document's parts and Ends.
-/
import Derived.Test.YtfaobhaogenijaaDoorI4X
import Derived.Test.YtfaobhaogenijaaDoorCut
namespace Go.Proofs.YtfaobhaogenijaaDoor
set_option linter.unusedVariables false
open Go.RowKit

theorem lastP_mem (c : UInt8) (s : List UInt8) : lastP c s ∈ pcs c s := List.mem_of_getElem? (last_at c s)

/-- Digits 0 to 9. -/
def isDec (b : UInt8) : Bool := decide (48 ≤ b.toNat) && decide (b.toNat ≤ 57)
theorem isDec_iff : ∀ b : Fin 256, isDec (UInt8.ofNat b.val) = decide (dgV (UInt8.ofNat b.val) < 10) := by decide +kernel
theorem isDec_eq (b : UInt8) : isDec b = decide (dgV b < 10) := by
  have := isDec_iff ⟨b.toNat, b.toNat_lt⟩
  simpa using this
def hasX (x : List UInt8) : Bool := decide (2 ≤ x.length) && (x.getD 1 0 == 120 || x.getD 1 0 == 88)
theorem okD_dec (x : List UInt8) : x.all isDec = okD 10 x := by
  unfold okD
  congr 1
  funext b
  exact isDec_eq b
theorem dec_x : isDec 120 = false ∧ isDec 88 = false := by decide
theorem all_at {x : List UInt8} (h : x.all isDec = true) (i : Nat) (hi : i < x.length) : isDec (x.getD i 0) = true := List.all_eq_true.1 h _ (getD_mem x i hi)
theorem hasX_not {x : List UInt8} (h : hasX x = true) : x.all isDec = false := by
  rw [Bool.eq_false_iff]
  intro ha
  unfold hasX at h
  simp only [Bool.and_eq_true, decide_eq_true_eq, Bool.or_eq_true, beq_iff_eq] at h
  have := all_at ha 1 (by omega)
  rcases h.2 with e | e <;> rw [e] at this
  · rw [dec_x.1] at this
    cases this
  · rw [dec_x.2] at this
    cases this
theorem rends_eq (x : List UInt8) : endB x = ((!x.isEmpty && x.all isDec) || ((rnum x).isSome && hasX x)) := by
  cases hm : mrk x with
  | true =>
    have hX : hasX x = true := by
      unfold mrk at hm
      unfold hasX
      simp only [Bool.and_eq_true] at hm ⊢
      exact ⟨hm.1.1, hm.2⟩
    have hne : x ≠ [] := by
      rintro rfl
      cases hm
    rw [hasX_not hX, hX]
    unfold endB rnum
    have eD : digs x = x.drop 2 := by unfold digs; rw [hm]; rfl
    have eB : bas x = 16 := by unfold bas; rw [hm]; rfl
    rw [hm, eD, eB]
    cases okD 16 (x.drop 2) <;> simp [hne]
  | false =>
    unfold endB
    rw [hm, okD_dec]
    simp only [Bool.false_eq_true, if_false]
    cases hX : hasX x with
    | false => simp
    | true =>
      have h0 := hasX_not hX
      have ho : oct x = false := by
        unfold mrk at hm
        unfold hasX at hX
        unfold oct
        simp only [Bool.and_eq_true] at hX
        rw [hX.1, hX.2] at hm
        simp only [Bool.true_and, Bool.and_true] at hm
        rw [hm, Bool.and_false]
      have eD : digs x = x := by unfold digs; rw [hm, ho]; rfl
      have eB : bas x = 10 := by unfold bas; rw [hm, ho]; rfl
      have hr : rnum x = none := by
        unfold rnum
        rw [eD, eB, if_neg]
        rintro ⟨_, h2⟩
        rw [← okD_dec, h0] at h2
        cases h2
      rw [okD_dec] at h0
      rw [hr, h0]
      simp

end Go.Proofs.YtfaobhaogenijaaDoor
