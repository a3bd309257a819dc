/-
  Plain facts of what is written with per cent signs: what was written once is written as it is; what was written without one is read as it was. Nothing is proved of the program here.
-/
import Derived.Test.YtilmkmplaehcaaaDoorPctD
namespace Go.Proofs.YtilmkmplaehcaaaDoor.Pct
set_option linter.unusedVariables false
open Go.RowKit

theorem out_37 : ∀ k : Fin 6, inS (k.val : Int) 37 = false := by decide +kernel
theorem out_dig : ∀ (k : Fin 6) (n : Fin 16), inS (k.val : Int) (dig n.val) = false := by decide +kernel

theorem piece_out (k : Nat) (hk : k < 6) (x : UInt8) : ∀ y ∈ piece (k : Int) x, inS (k : Int) y = false := by
  intro y hy
  unfold piece at hy
  rw [if_neg (by omega)] at hy
  have hx := x.toNat_lt
  cases h : inS (k : Int) x
  · rw [h] at hy
    simp only [Bool.false_eq_true, if_false, List.mem_singleton] at hy
    rw [hy]; exact h
  · rw [h] at hy
    simp only [if_true, List.mem_cons, List.not_mem_nil, or_false] at hy
    rcases hy with rfl | rfl | rfl
    · exact out_37 ⟨k, hk⟩
    · exact out_dig ⟨k, hk⟩ ⟨x.toNat / 16, by omega⟩
    · exact out_dig ⟨k, hk⟩ ⟨x.toNat % 16, by omega⟩

theorem encd_out (k : Nat) (hk : k < 6) (bs : List UInt8) : ∀ y ∈ encd (k : Int) bs, inS (k : Int) y = false := by
  intro y hy
  unfold encd at hy
  obtain ⟨x, _, hx⟩ := List.mem_flatMap.1 hy
  exact piece_out k hk x y hx

theorem encd_same (k : Nat) (hk : k < 6) (t : List UInt8) (h : ∀ y ∈ t, inS (k : Int) y = false) : encd (k : Int) t = t := by
  induction t with
  | nil => rfl
  | cons x r ih =>
    have e : encd (k : Int) (x :: r) = piece (k : Int) x ++ encd (k : Int) r := by simp [encd]
    rw [e, ih fun y hy => h y (List.mem_cons_of_mem _ hy)]
    unfold piece
    rw [if_neg (by omega), if_neg (by rw [h x (List.mem_cons_self ..)]; simp)]
    rfl

/-- '+' is read as a space. -/
def plus (x : UInt8) : UInt8 := if x = 43 then 32 else x

theorem dig_isx : ∀ n : Fin 16, isx (dig n.val) = true ∧ hx (dig n.val) = n.val ∧ plus (dig n.val) = dig n.val := by decide +kernel

theorem two_dig (x : UInt8) : two (dig (x.toNat / 16)) (dig (x.toNat % 16)) = x := by
  have h := x.toNat_lt
  have h1 := (dig_isx ⟨x.toNat / 16, by omega⟩).2.1
  have h2 := (dig_isx ⟨x.toNat % 16, by omega⟩).2.1
  simp only at h1 h2
  unfold two
  rw [h1, h2]
  apply UInt8.toNat_inj.1
  rw [UInt8.toNat_ofNat']
  omega

theorem decd_pct (x : UInt8) (r : List UInt8) : decd (37 :: dig (x.toNat / 16) :: dig (x.toNat % 16) :: r) = x :: decd r := by
  have h := x.toNat_lt
  have h1 := (dig_isx ⟨x.toNat / 16, by omega⟩).1
  have h2 := (dig_isx ⟨x.toNat % 16, by omega⟩).1
  simp only at h1 h2
  rw [decd, if_pos (by rw [h1, h2]; rfl), two_dig]

theorem decd_other (x : UInt8) (r : List UInt8) (h : x ≠ 37) : decd (x :: r) = x :: decd r := by
  have hf : frontIs (x :: r) = false := by
    unfold frontIs
    have : ((x :: r).getD 0 0 == 37) = false := by simpa using h
    rw [this]
    simp
  exact decd_no hf (by simp)

/-- What was written without a per cent sign is read as it was: of the first six sets. -/
theorem back_six (k : Nat) (hk : k < 6) (bs : List UInt8) (h : ∀ y ∈ bs, y ≠ 37) : decd (encd (k : Int) bs) = bs := by
  induction bs with
  | nil => rfl
  | cons x r ih =>
    have ih := ih fun y hy => h y (List.mem_cons_of_mem _ hy)
    have e : encd (k : Int) (x :: r) = piece (k : Int) x ++ encd (k : Int) r := by simp [encd]
    rw [e]
    unfold piece
    rw [if_neg (by omega)]
    split
    · rw [show [37, dig (x.toNat / 16), dig (x.toNat % 16)] ++ encd (k : Int) r = 37 :: dig (x.toNat / 16) :: dig (x.toNat % 16) :: encd (k : Int) r from rfl, decd_pct, ih]
    · rw [show [x] ++ encd (k : Int) r = x :: encd (k : Int) r from rfl, decd_other x _ (h x (List.mem_cons_self ..)), ih]

theorem form_43 : inS 6 43 = true := by decide +kernel
theorem form_37 : inS 6 37 = true := by decide +kernel

/-- And of Form, with spaces for plus signs. -/
theorem back_form (bs : List UInt8) : decd ((encd 6 bs).map plus) = bs := by
  induction bs with
  | nil => rfl
  | cons x r ih =>
    have e : encd 6 (x :: r) = piece 6 x ++ encd 6 r := by simp [encd]
    have hx := x.toNat_lt
    rw [e, List.map_append]
    unfold piece
    split
    · rename_i h
      obtain ⟨_, rfl⟩ := h
      show decd (32 :: (encd 6 r).map plus) = _
      rw [decd_other 32 _ (by decide), ih]
    · split
      · have h1 := (dig_isx ⟨x.toNat / 16, by omega⟩).2.2
        have h2 := (dig_isx ⟨x.toNat % 16, by omega⟩).2.2
        simp only at h1 h2
        show decd (plus 37 :: plus (dig (x.toNat / 16)) :: plus (dig (x.toNat % 16)) :: (encd 6 r).map plus) = _
        rw [h1, h2, show plus 37 = 37 from rfl, decd_pct, ih]
      · rename_i h2 h3
        have h43 : x ≠ 43 := by rintro rfl; exact h3 form_43
        have h37 : x ≠ 37 := by rintro rfl; exact h3 form_37
        show decd (plus x :: (encd 6 r).map plus) = _
        rw [show plus x = x from by unfold plus; rw [if_neg h43], decd_other x _ h37, ih]
end Go.Proofs.YtilmkmplaehcaaaDoor.Pct
