/-
  Code points as letters, and back: what is written is read as it was, and what is read is written as it was. Nothing is proved of the program here.
-/
import Derived.Test.YtgnkhfmpooomkaaDoorPunyI
namespace Go.Proofs.YtgnkhfmpooomkaaDoor
set_option linter.unusedVariables false
open Go.RowKit

/-- A digit's letter; a letter's digit. -/
def letter (n : Nat) : UInt8 := if n < 26 then UInt8.ofNat (97 + n) else UInt8.ofNat (22 + n)
def dv (b : UInt8) : Option Nat := if 97 ≤ b.toNat ∧ b.toNat ≤ 122 then some (b.toNat - 97) else if 48 ≤ b.toNat ∧ b.toNat ≤ 57 then some (b.toNat - 22) else if 65 ≤ b.toNat ∧ b.toNat ≤ 90 then some (b.toNat - 65) else none

theorem letter_ok : ∀ n : Fin 36, dv (letter n.val) = some n.val ∧ letter n.val ≠ 45 ∧ (letter n.val).toNat ≤ 127 := by decide +kernel
theorem dv_ok : ∀ b : Fin 256, ∀ n : Fin 36, dv (UInt8.ofNat b.val) = some n.val → (65 ≤ b.val ∧ b.val ≤ 90) ∨ letter n.val = UInt8.ofNat b.val := by decide +kernel

theorem dv_lt {b : UInt8} {n : Nat} (h : dv b = some n) : n < 36 := by
  unfold dv at h
  split at h
  · simp only [Option.some.injEq] at h; omega
  · split at h
    · simp only [Option.some.injEq] at h; omega
    · split at h
      · simp only [Option.some.injEq] at h; omega
      · simp at h

/-- Where the last delimiter is. -/
def cutAt : List UInt8 → Option Nat
  | [] => none
  | x :: r => match cutAt r with | some k => some (k + 1) | none => if x = 45 then some 0 else none

theorem cutAt_none : ∀ {s : List UInt8}, (∀ x ∈ s, x ≠ 45) → cutAt s = none
  | [], _ => rfl
  | x :: r, h => by
    rw [cutAt, cutAt_none fun y hy => h y (List.mem_cons_of_mem _ hy)]
    simp only
    rw [if_neg (h x (List.mem_cons_self ..))]
theorem cutAt_some : ∀ (a b : List UInt8), (∀ x ∈ b, x ≠ 45) → cutAt (a ++ 45 :: b) = some a.length
  | [], b, h => by
    rw [List.nil_append, cutAt, cutAt_none h]
    rfl
  | x :: a, b, h => by
    rw [List.cons_append, cutAt, cutAt_some a b h]
    rfl
theorem cutAt_is : ∀ {s : List UInt8} {k : Nat}, cutAt s = some k → k < s.length ∧ s = s.take k ++ 45 :: s.drop (k + 1) ∧ ∀ x ∈ s.drop (k + 1), x ≠ 45
  | [], k, h => by simp [cutAt] at h
  | x :: r, k, h => by
    rw [cutAt] at h
    cases hr : cutAt r with
    | some j =>
      rw [hr] at h
      simp only [Option.some.injEq] at h
      subst h
      obtain ⟨h1, h2, h3⟩ := cutAt_is hr
      refine ⟨by simp; omega, ?_, by simpa using h3⟩
      rw [List.take_succ_cons, List.drop_succ_cons, List.cons_append, ← h2]
    | none =>
      rw [hr] at h
      simp only at h
      split at h
      · rename_i hx
        simp only [Option.some.injEq] at h
        subst h
        subst hx
        refine ⟨by simp, by simp, fun y hy e => ?_⟩
        simp only [Nat.zero_add, List.drop_succ_cons, List.drop_zero] at hy
        subst e
        have hm : ∃ k, cutAt r = some k := cutAt_mem hy
        obtain ⟨k, hk⟩ := hm
        rw [hk] at hr
        cases hr
      · simp at h
where
  cutAt_mem : ∀ {r : List UInt8}, (45 : UInt8) ∈ r → ∃ k, cutAt r = some k
  | [], h => by cases h
  | y :: r, h => by
    rw [cutAt]
    cases hr : cutAt r with
    | some j => exact ⟨j + 1, rfl⟩
    | none =>
      rcases List.mem_cons.1 h with e | h
      · exact ⟨0, by simp [← e]⟩
      · obtain ⟨k, hk⟩ := cutAt_mem h
        rw [hk] at hr
        cases hr

def dvs : List UInt8 → Option (List Nat)
  | [] => some []
  | b :: r => match dv b with | none => none | some n => (dvs r).map (n :: ·)

theorem dvs_letters : ∀ (ds : List Nat), (∀ d ∈ ds, d < 36) → dvs (ds.map letter) = some ds
  | [], _ => rfl
  | d :: ds, h => by
    rw [List.map_cons, dvs, (letter_ok ⟨d, h d (List.mem_cons_self ..)⟩).1]
    simp only
    rw [dvs_letters ds fun x hx => h x (List.mem_cons_of_mem _ hx)]
    rfl
theorem dvs_is : ∀ {s : List UInt8} {ds : List Nat}, dvs s = some ds → (∀ d ∈ ds, d < 36) ∧ ds.length = s.length ∧ ((∀ b ∈ s, ¬ (65 ≤ b.toNat ∧ b.toNat ≤ 90)) → ds.map letter = s)
  | [], ds, h => by
    simp only [dvs, Option.some.injEq] at h
    subst h
    exact ⟨by simp, rfl, fun _ => rfl⟩
  | b :: r, ds, h => by
    rw [dvs] at h
    cases hb : dv b with
    | none => rw [hb] at h; simp at h
    | some n =>
      rw [hb] at h
      simp only at h
      cases hr : dvs r with
      | none => rw [hr] at h; simp at h
      | some es =>
        rw [hr] at h
        simp only [Option.map_some, Option.some.injEq] at h
        subst h
        obtain ⟨k1, k2, k3⟩ := dvs_is hr
        have hn := dv_lt hb
        refine ⟨fun d hd => ?_, by simp [k2], fun hu => ?_⟩
        · rcases List.mem_cons.1 hd with rfl | hd
          · exact hn
          · exact k1 d hd
        · rw [List.map_cons, k3 fun x hx => hu x (List.mem_cons_of_mem _ hx)]
          congr 1
          have := dv_ok ⟨b.toNat, b.toNat_lt⟩ ⟨n, hn⟩
          simp only [UInt8.ofNat_toNat] at this
          rcases this hb with c | c
          · exact absurd c (hu b (List.mem_cons_self ..))
          · exact c

/-- The document's Encode: none is ErrArg. -/
def penc (l : List Nat) : Option (List UInt8) :=
  if l.length ≤ 63 ∧ l.all cp = true then some ((lt 128 l).map UInt8.ofNat ++ (if lt 128 l = [] then [] else [45]) ++ (digs 72 (lt 128 l).length true (dts l.length 128 0 (lt 128 l).length l)).map letter) else none
/-- The document's Decode: none is ErrForm. -/
def pdec (s : List UInt8) : Option (List Nat) :=
  if s.length ≤ 200 ∧ s.all (fun b => decide (b.toNat ≤ 127)) = true then
    (match cutAt s with
      | none => some ([], s)
      | some 0 => none
      | some (k + 1) => some (s.take (k + 1), s.drop (k + 2))).bind fun p =>
    (dvs p.2).bind fun ds =>
    (rd ds.length 128 0 72 (p.1.map UInt8.toNat) ds).bind fun l => if l.length ≤ 63 then some l else none
  else none

theorem vEnc_lt (bias : Nat) : ∀ (f k q : Nat), q ≤ f → ∀ d ∈ vEnc bias f k q, d < 36
  | 0, k, q, h, d, hd => by
    simp only [vEnc, List.mem_singleton] at hd
    omega
  | f + 1, k, q, h, d, hd => by
    have hp := thr_pos k bias
    have hl := thr_le k bias
    rw [vEnc] at hd
    split at hd
    · simp only [List.mem_singleton] at hd
      omega
    · rcases List.mem_cons.1 hd with rfl | hd
      · have := Nat.mod_lt (q - thr k bias) (show 0 < 36 - thr k bias by omega)
        omega
      · have := div_less q (thr k bias) (by omega) hp hl
        exact vEnc_lt bias f _ _ (by omega) d hd
theorem digs_lt : ∀ (vs : List Nat) (bias len : Nat) (first : Bool), ∀ d ∈ digs bias len first vs, d < 36
  | [], bias, len, first, d, hd => by simp [digs] at hd
  | v :: vs, bias, len, first, d, hd => by
    rw [digs] at hd
    rcases List.mem_append.1 hd with hd | hd
    · exact vEnc_lt bias v 36 v (Nat.le_refl _) d hd
    · exact digs_lt vs _ _ _ d hd
theorem digs_len : ∀ (vs : List Nat) (bias len : Nat) (first : Bool), vs.length ≤ (digs bias len first vs).length
  | [], bias, len, first => by simp
  | v :: vs, bias, len, first => by
    rw [digs]
    have := digs_len vs (adp v (len + 1) first) (len + 1) false
    have h2 : 0 < (vEnc bias v 36 v).length := List.length_pos_iff.2 (vEnc_ne _ _ _ _)
    simp
    omega

theorem lt_mem {n x : Nat} {l : List Nat} (h : x ∈ lt n l) : x < n ∧ x ∈ l := by
  unfold lt at h
  have := List.mem_filter.1 h
  exact ⟨by simpa using this.2, this.1⟩

theorem back_bytes {l : List Nat} (h : ∀ x ∈ l, x < 128) : (l.map UInt8.ofNat).map UInt8.toNat = l := by
  rw [List.map_map]
  conv => rhs; rw [← List.map_id l]
  apply List.map_congr_left
  intro x hx
  have := h x hx
  simp only [Function.comp, id]
  rw [UInt8.toNat_ofNat']
  omega

/-- What is written is read as it was. -/
theorem pdec_penc {l : List Nat} {s : List UInt8} (h : penc l = some s) (hs : s.length ≤ 200) : pdec s = some l := by
  unfold penc at h
  split at h
  · rename_i hc
    obtain ⟨hl, hv⟩ := hc
    have hv' : ∀ x ∈ l, cp x = true := by simpa using hv
    simp only [Option.some.injEq] at h
    have hvs : lay 128 0 (lt 128 l) (dts l.length 128 0 (lt 128 l).length l) = some l := lay_dts l hl hv' l.length 128 0 128 0 (by omega) (Nat.le_refl _) (by simp)
    have hlt : ∀ x ∈ lt 128 l, x < 128 := fun x hx => (lt_mem hx).1
    generalize lt 128 l = bsc at *
    generalize dts l.length 128 0 bsc.length l = vs at *
    have hd := digs_lt vs 72 bsc.length true
    have hfu := digs_len vs 72 bsc.length true
    have hrd := rd_digs vs (digs 72 bsc.length true vs).length 128 0 72 bsc hfu
    rw [show ((0 : Nat) == 0) = true from rfl, hvs] at hrd
    generalize digs 72 bsc.length true vs = ds at *
    have hno : ∀ x ∈ ds.map letter, x ≠ 45 := by
      intro x hx
      obtain ⟨d, hdm, rfl⟩ := List.mem_map.1 hx
      exact (letter_ok ⟨d, hd d hdm⟩).2.1
    have hsm : s.all (fun b => decide (b.toNat ≤ 127)) = true := by
      rw [List.all_eq_true]
      intro x hx
      simp only [decide_eq_true_eq]
      rw [← h] at hx
      rcases List.mem_append.1 hx with hx | hx
      · rcases List.mem_append.1 hx with hx | hx
        · obtain ⟨y, hy, rfl⟩ := List.mem_map.1 hx
          have := hlt y hy
          rw [UInt8.toNat_ofNat']
          omega
        · split at hx
          · cases hx
          · rw [List.mem_singleton] at hx
            subst hx
            decide
      · obtain ⟨d, hdm, rfl⟩ := List.mem_map.1 hx
        exact (letter_ok ⟨d, hd d hdm⟩).2.2
    unfold pdec
    rw [if_pos ⟨hs, hsm⟩]
    by_cases hb : bsc = []
    · subst hb
      simp only [List.map_nil, if_true, List.nil_append] at h
      rw [← h, cutAt_none hno]
      simp only [Option.bind_some, dvs_letters ds hd, List.map_nil, hrd]
      rw [if_pos hl]
    · rw [if_neg hb] at h
      have e : s = bsc.map UInt8.ofNat ++ 45 :: ds.map letter := by rw [← h]; simp
      have hlen : (bsc.map UInt8.ofNat).length = bsc.length := by simp
      have hc := cutAt_some (bsc.map UInt8.ofNat) (ds.map letter) hno
      rw [← e, hlen] at hc
      rw [hc]
      cases hbl : bsc.length with
      | zero => exact absurd (List.eq_nil_of_length_eq_zero hbl) hb
      | succ k =>
        simp only [Option.bind_some]
        have e1 : s.take (k + 1) = bsc.map UInt8.ofNat := by
          rw [e, List.take_append_of_le_length (by rw [hlen]; omega), List.take_of_length_le (by rw [hlen]; omega)]
        have e2 : s.drop (k + 2) = ds.map letter := by
          rw [e, show k + 2 = (bsc.map UInt8.ofNat).length + 1 by rw [hlen]; omega, List.drop_append]
          simp
        rw [e1, e2, dvs_letters ds hd]
        simp only [Option.bind_some, back_bytes hlt, hrd]
        rw [if_pos hl]
  · simp at h

theorem lay_cp : ∀ (vs : List Nat) (n i : Nat) (cur l : List Nat), (∀ x ∈ cur, cp x = true) → lay n i cur vs = some l → ∀ x ∈ l, cp x = true
  | [], n, i, cur, l, h, e => by
    simp only [lay, Option.some.injEq] at e
    subst e
    exact h
  | v :: vs, n, i, cur, l, h, e => by
    rw [lay] at e
    split at e
    · rename_i hc
      refine lay_cp vs _ _ _ l (fun x hx => ?_) e
      rcases ins_mem hx with rfl | hx
      · exact hc.1
      · exact h x hx
    · simp at e

theorem cp_small {n : Nat} (h : n < 128) : cp n = true := by unfold cp; simp; omega

theorem fwd_bytes (s : List UInt8) : (s.map UInt8.toNat).map UInt8.ofNat = s := by
  rw [List.map_map]
  conv => rhs; rw [← List.map_id s]
  apply List.map_congr_left
  intro x hx
  simp

/-- What is read is written as it was, but for large letters. -/
theorem penc_pdec {s : List UInt8} {l : List Nat} (h : pdec s = some l) (hu : ∀ b ∈ s, ¬ (65 ≤ b.toNat ∧ b.toNat ≤ 90)) : penc l = some s := by
  unfold pdec at h
  split at h
  · rename_i hc
    obtain ⟨h200, h127⟩ := hc
    have h127' : ∀ b ∈ s, b.toNat ≤ 127 := by simpa using h127
    have key : ∀ (pre tail : List UInt8), (∀ b ∈ pre, b ∈ s) → (∀ b ∈ tail, b ∈ s) → s = pre ++ (if pre = [] then [] else [45]) ++ tail → ((dvs tail).bind fun ds => (rd ds.length 128 0 72 (pre.map UInt8.toNat) ds).bind fun l => if l.length ≤ 63 then some l else none) = some l → penc l = some s := by
      intro pre tail hp ht es hh
      cases hd : dvs tail with
      | none => rw [hd] at hh; simp at hh
      | some ds =>
        rw [hd] at hh
        simp only [Option.bind_some] at hh
        obtain ⟨d1, d2, d3⟩ := dvs_is hd
        have d3 := d3 fun b hb => hu b (ht b hb)
        cases hr : rd ds.length 128 0 72 (pre.map UInt8.toNat) ds with
        | none => rw [hr] at hh; simp at hh
        | some l2 =>
          rw [hr] at hh
          simp only [Option.bind_some] at hh
          split at hh
          · rename_i h63
            simp only [Option.some.injEq] at hh
            subst hh
            obtain ⟨vs, v1, v2⟩ := digs_rd _ _ _ _ _ ds l2 d1 hr
            rw [show ((0 : Nat) == 0) = true from rfl] at v1
            have hpre : ∀ x ∈ pre.map UInt8.toNat, x < 128 := by
              intro x hx
              obtain ⟨b, hb, rfl⟩ := List.mem_map.1 hx
              have := h127' b (hp b hb)
              omega
            have hI : Inv 128 0 (pre.map UInt8.toNat) := ⟨fun x hx => Nat.le_of_lt (hpre x hx), fun x hx => hpre x (by simpa using hx)⟩
            have hk := (lay_keeps vs _ _ _ l2 hI v2).1
            rw [lt_all hpre] at hk
            have hcp := lay_cp vs _ _ _ l2 (fun x hx => cp_small (hpre x hx)) v2
            have hle := lay_dts l2 h63 hcp l2.length 128 0 128 0 (by omega) (Nat.le_refl _) (by simp)
            rw [hk] at hle
            have hvs := lay_inj vs _ _ _ _ l2 hI v2 hle
            unfold penc
            rw [if_pos ⟨h63, by simpa using hcp⟩, hk, ← hvs, ← v1, d3, fwd_bytes]
            have e1 : (pre.map UInt8.toNat = []) = (pre = []) := by simp
            simp only [e1]
            rw [← es]
          · simp at hh
    cases hcut : cutAt s with
    | none =>
      rw [hcut] at h
      simp only [Option.bind_some] at h
      exact key [] s (by simp) (fun b hb => hb) (by simp) h
    | some k =>
      rw [hcut] at h
      cases k with
      | zero => simp at h
      | succ k =>
        simp only [Option.bind_some] at h
        obtain ⟨c1, c2, c3⟩ := cutAt_is hcut
        refine key (s.take (k + 1)) (s.drop (k + 2)) (fun b hb => List.mem_of_mem_take hb) (fun b hb => List.mem_of_mem_drop hb) ?_ h
        have hne : s.take (k + 1) ≠ [] := by
          intro e
          have : (s.take (k + 1)).length = 0 := by rw [e]; rfl
          rw [List.length_take] at this
          omega
        rw [if_neg hne]
        conv => lhs; rw [c2]
        simp
  · simp at h
end Go.Proofs.YtgnkhfmpooomkaaDoor
