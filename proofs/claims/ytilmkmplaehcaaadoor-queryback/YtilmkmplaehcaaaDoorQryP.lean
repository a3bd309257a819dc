/-
  Questions as plain facts: which pairs a text is, how pairs are shown, and what follows. Nothing is proved of the program here.
-/
import Derived.Test.YtilmkmplaehcaaaDoorPcs
import Derived.Test.YtilmkmplaehcaaaDoorPctP
import Derived.Test.YtilmkmplaehcaaaDoorUtfP
namespace Go.Proofs.YtilmkmplaehcaaaDoor
set_option linter.unusedVariables false
open Go.RowKit

/-- A text as UTF-8. -/
def rgt (s : List UInt8) : List UInt8 := enc (dec s)
/-- What a name or a value stands for. -/
def plainB (s : List UInt8) : List UInt8 := rgt (Pct.decd (s.map Pct.plus))
/-- What stands ahead of the first sign, and behind it. -/
def cut1 (c : UInt8) : List UInt8 → List UInt8 × List UInt8
  | [] => ([], [])
  | x :: r => if x = c then ([], r) else (x :: (cut1 c r).1, (cut1 c r).2)
abbrev Pr := List UInt8 × List UInt8
def pairOf (p : List UInt8) : Pr := (plainB (cut1 61 p).1, plainB (cut1 61 p).2)
/-- All pairs. -/
def prs (s : List UInt8) : List Pr := ((pcs 38 s).filter fun p => !p.isEmpty).map pairOf
/-- Parse. -/
def parQ (s : List UInt8) : List Pr := (prs s).take 40
abbrev encF (s : List UInt8) : List UInt8 := Pct.encd 6 s
def shw1 (p : Pr) : List UInt8 := encF p.1 ++ 61 :: encF p.2
/-- Show. -/
def shwQ : List Pr → List UInt8
  | [] => []
  | p :: r => shw1 p ++ (r.flatMap fun q => 38 :: shw1 q)
def rgtP (p : Pr) : Pr := (rgt p.1, rgt p.2)

theorem cut1_app (c : UInt8) (b : List UInt8) : ∀ a : List UInt8, (∀ x ∈ a, x ≠ c) → cut1 c (a ++ c :: b) = (a, b)
  | [], _ => by simp [cut1]
  | x :: a, h => by
    have hx := h x (by simp)
    have ih := cut1_app c b a (fun y hy => h y (by simp [hy]))
    simp [cut1, hx, ih]
theorem cut1_none (c : UInt8) : ∀ a : List UInt8, (∀ x ∈ a, x ≠ c) → cut1 c a = (a, [])
  | [], _ => rfl
  | x :: a, h => by
    have hx := h x (by simp)
    have ih := cut1_none c a (fun y hy => h y (by simp [hy]))
    simp [cut1, hx, ih]
theorem cut1_miss (c : UInt8) (s : List UInt8) (h : Lib.indexByte s c = -1) : cut1 c s = (s, []) :=
  cut1_none c s fun x hx => by
    rintro rfl
    obtain ⟨k, hk⟩ := List.getElem?_of_mem hx
    exact Lib.indexByte_none h k hk
theorem cut1_hit (c : UInt8) (s : List UInt8) (i : Nat) (h : Lib.indexByte s c = i) : cut1 c s = (s.take i, s.drop (i + 1)) := by
  obtain ⟨hx, hn⟩ := Lib.indexByte_some h
  have hlt := (List.getElem?_eq_some_iff.1 hx).1
  have e : s = s.take i ++ c :: s.drop (i + 1) := by
    have e1 := List.take_append_drop i s
    have e2 : s.drop i = c :: s.drop (i + 1) := by
      rw [List.drop_eq_getElem_cons hlt]
      congr 1
      have := List.getElem?_eq_getElem hlt
      rw [hx] at this
      exact (Option.some.inj this).symm
    rw [e2] at e1
    exact e1.symm
  conv => lhs; rw [e]
  refine cut1_app c _ _ fun x hx2 => ?_
  rintro rfl
  obtain ⟨j, hj⟩ := List.getElem?_of_mem hx2
  rw [List.getElem?_take] at hj
  split at hj
  · exact hn j (by assumption) hj
  · cases hj
theorem cut1_len (c : UInt8) : ∀ s : List UInt8, (cut1 c s).1.length ≤ s.length ∧ (cut1 c s).2.length ≤ s.length
  | [] => by simp [cut1]
  | x :: r => by
    have ih := cut1_len c r
    unfold cut1
    split <;> simp <;> omega

theorem rgt_rgt (s : List UInt8) : rgt (rgt s) = rgt s := by
  have key : ∀ l : List Int, enc (l.map fix) = enc l := fun l => by
    unfold enc
    rw [List.flatMap_map]
    congr 1
    funext r
    exact one_fix r
  unfold rgt
  rw [dec_enc, key]
theorem rgt_nil : rgt [] = [] := rfl
theorem rgt_len (s : List UInt8) : (rgt s).length ≤ 4 * s.length := by
  have h1 := enc_len (dec s)
  have h2 := dec_len s
  unfold rgt
  omega
theorem plainB_len (s : List UInt8) : (plainB s).length ≤ 4 * s.length := by
  have h1 := rgt_len (Pct.decd (s.map Pct.plus))
  have h2 := Pct.decd_len (s.map Pct.plus)
  rw [List.length_map] at h2
  unfold plainB
  omega

theorem encF_out (s : List UInt8) : ∀ y ∈ encF s, y ≠ 38 ∧ y ≠ 61 := by
  intro y hy
  simp only [encF, Pct.encd, List.mem_flatMap] at hy
  obtain ⟨z, hz, hy⟩ := hy
  have hd : ∀ n : Fin 16, Pct.dig n.val ≠ 38 ∧ Pct.dig n.val ≠ 61 := by decide
  have h1 := hd ⟨z.toNat / 16, by have := UInt8.toNat_lt z; omega⟩
  have h2 := hd ⟨z.toNat % 16, by omega⟩
  unfold Pct.piece at hy
  split at hy
  · simp only [List.mem_cons, List.not_mem_nil, or_false] at hy
    subst hy
    decide
  · split at hy
    · simp only [List.mem_cons, List.not_mem_nil, or_false] at hy
      rcases hy with rfl | rfl | rfl
      · decide
      · exact h1
      · exact h2
    · rename_i hin
      simp only [List.mem_cons, List.not_mem_nil, or_false] at hy
      subst hy
      refine ⟨?_, ?_⟩
      · rintro rfl
        exact hin (by decide +kernel)
      · rintro rfl
        exact hin (by decide +kernel)
theorem plainB_encF (s : List UInt8) : plainB (encF s) = rgt s := by
  unfold plainB
  rw [Pct.back_form]
theorem shw1_out (p : Pr) : ∀ y ∈ shw1 p, y ≠ 38 := by
  intro y hy
  unfold shw1 at hy
  rcases List.mem_append.1 hy with h | h
  · exact (encF_out _ y h).1
  · rcases List.mem_cons.1 h with rfl | h
    · decide
    · exact (encF_out _ y h).1
theorem pairOf_shw1 (p : Pr) : pairOf (shw1 p) = rgtP p := by
  unfold pairOf shw1
  rw [cut1_app 61 _ _ (fun x hx => (encF_out _ x hx).2), plainB_encF, plainB_encF]
  rfl
theorem pcs_shwQ : ∀ (p : Pr) (r : List Pr), pcs 38 (shwQ (p :: r)) = (p :: r).map shw1
  | p, [] => by
    simp only [shwQ, List.flatMap_nil, List.append_nil]
    exact pcs_one 38 _ (shw1_out p)
  | p, q :: r => by
    have e : shwQ (p :: q :: r) = shw1 p ++ 38 :: shwQ (q :: r) := by simp [shwQ]
    rw [e, pcs_app 38 _ _ (shw1_out p), pcs_shwQ q r]
    rfl
/-- What is shown is parsed as it was, as UTF-8. -/
theorem prs_shwQ (l : List Pr) : prs (shwQ l) = l.map rgtP := by
  cases l with
  | nil => rfl
  | cons p r =>
    unfold prs
    rw [pcs_shwQ]
    have e : ((p :: r).map shw1).filter (fun p => !p.isEmpty) = (p :: r).map shw1 := by
      rw [List.filter_eq_self]
      intro x hx
      obtain ⟨q, _, rfl⟩ := List.mem_map.1 hx
      simp [shw1]
    rw [e, List.map_map]
    exact List.map_congr_left fun q _ => pairOf_shw1 q
theorem parQ_shwQ (l : List Pr) (h : l.length ≤ 40) : parQ (shwQ l) = l.map rgtP := by
  unfold parQ
  rw [prs_shwQ, List.take_of_length_le (by simpa using h)]
theorem rgtP_rgtP (p : Pr) : rgtP (rgtP p) = rgtP p := by
  unfold rgtP
  rw [rgt_rgt, rgt_rgt]
theorem map_rgtP (l : List Pr) : (l.map rgtP).map rgtP = l.map rgtP := by
  rw [List.map_map]
  exact List.map_congr_left fun q _ => rgtP_rgtP q

/-- Questions side by side. -/
theorem prs_app (a b : List UInt8) : prs (a ++ 38 :: b) = prs a ++ prs b := by
  unfold prs
  rw [pcs_app2, List.filter_append, List.map_append]
theorem parQ_app (a b : List UInt8) (h : (parQ a).length + (parQ b).length ≤ 40) : parQ (a ++ 38 :: b) = parQ a ++ parQ b := by
  unfold parQ at h ⊢
  rw [List.length_take, List.length_take] at h
  rw [prs_app]
  by_cases ha : (prs a).length ≤ 40
  · by_cases hb : (prs b).length ≤ 40
    · rw [List.take_of_length_le ha, List.take_of_length_le hb, List.take_of_length_le (by rw [List.length_append]; omega)]
    · have hz : (prs a).length = 0 := by omega
      rw [List.eq_nil_of_length_eq_zero hz]
      rfl
  · have hz : (prs b).length = 0 := by omega
    rw [List.eq_nil_of_length_eq_zero hz]
    simp

/-- So many pairs. -/
def mst : Nat → List UInt8
  | 0 => []
  | k + 1 => mst k ++ [38] ++ [UInt8.ofNat (97 + k % 26)] ++ [61, 49, 38]
theorem mst_len : ∀ k : Nat, (mst k).length = 5 * k
  | 0 => rfl
  | k + 1 => by
    have := mst_len k
    simp only [mst, List.length_append, List.length_cons, List.length_nil]
    omega
theorem mst_prs : ∀ k : Nat, (prs (mst k)).length = k
  | 0 => rfl
  | k + 1 => by
    have ih := mst_prs k
    have hx : ∀ n : Fin 26, UInt8.ofNat (97 + n.val) ≠ 38 := by decide
    have hx := hx ⟨k % 26, by omega⟩
    have e : mst (k + 1) = mst k ++ 38 :: ([UInt8.ofNat (97 + k % 26), 61, 49] ++ 38 :: []) := by simp [mst]
    have e2 : prs [UInt8.ofNat (97 + k % 26), 61, 49] = [pairOf [UInt8.ofNat (97 + k % 26), 61, 49]] := by
      unfold prs
      rw [pcs_one 38 _ (by
        intro y hy
        simp only [List.mem_cons, List.not_mem_nil, or_false] at hy
        rcases hy with rfl | rfl | rfl
        · exact hx
        · decide
        · decide)]
      rfl
    rw [e, prs_app, prs_app, e2, List.length_append, ih, List.length_append]
    rfl
theorem mst_par (k : Nat) : (parQ (mst k)).length = min k 40 := by
  unfold parQ
  rw [List.length_take, mst_prs, Nat.min_comm]
end Go.Proofs.YtilmkmplaehcaaaDoor
