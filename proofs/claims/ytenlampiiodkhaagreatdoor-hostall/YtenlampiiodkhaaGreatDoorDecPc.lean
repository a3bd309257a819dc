/-
  DecP.
-/
import Derived.Test.YtenlampiiodkhaaGreatDoorBPc
import Derived.Test.YtenlampiiodkhaaGreatDoorBSc
namespace Go.Proofs.YtenlampiiodkhaaGreatDoor
set_option linter.unusedVariables false
open Go.RowKit
def cutN (bias : Nat) : List UInt8 → Nat → Option (Nat × List UInt8)
  | [], _ => none
  | b :: r, k => match dv b with
    | none => none
    | some d => if d < thr k bias then some (d, r) else (cutN bias r (k + 36)).map fun p => (d + (36 - thr k bias) * p.1, p.2)
theorem cut_rel (bias : Nat) : ∀ (t : List UInt8) (k : Nat),
    (cutN bias t k = none → ∀ ds, dvs t = some ds → vDec bias ds k = none) ∧
    (∀ v rb, cutN bias t k = some (v, rb) → rb.length < t.length ∧ (∀ ds, dvs t = some ds → ∃ r, vDec bias ds k = some (v, r) ∧ dvs rb = some r) ∧ (dvs t = none → dvs rb = none))
  | [], k => ⟨fun _ ds h => by
      simp [dvs] at h; subst h; rfl, fun v rb h => by simp [cutN] at h⟩
  | b :: t, k => by
    obtain ⟨ih1, ih2⟩ := cut_rel bias t (k + 36)
    cases hd : dv b with
    | none =>
      refine ⟨fun _ ds h => by simp [dvs, hd] at h, fun v rb h => by simp [cutN, hd] at h⟩
    | some d =>
      have hcut : cutN bias (b :: t) k = if d < thr k bias then some (d, t) else (cutN bias t (k + 36)).map fun p => (d + (36 - thr k bias) * p.1, p.2) := by
        rw [cutN, hd]
      have hdvs : dvs (b :: t) = (dvs t).map (d :: ·) := by rw [dvs, hd]
      rw [hcut, hdvs]; by_cases c : d < thr k bias
      · rw [if_pos c]; refine ⟨fun h => by simp at h, fun v rb h => ?_⟩; simp only [Option.some.injEq, Prod.mk.injEq] at h; obtain ⟨rfl, rfl⟩ := h; refine ⟨by simp, fun ds h => ?_, fun h => by simpa using h⟩
        cases ht : dvs t with
        | none => rw [ht] at h; simp at h
        | some ds' =>
          rw [ht] at h; simp only [Option.map_some, Option.some.injEq] at h; rw [← h]; exact ⟨ds', by rw [vDec, if_pos c], rfl⟩
      · rw [if_neg c]; refine ⟨fun h ds h2 => ?_, fun v rb h => ?_⟩
        · have hn : cutN bias t (k + 36) = none := by simpa using h
          cases ht : dvs t with
          | none => rw [ht] at h2; simp at h2
          | some ds' =>
            rw [ht] at h2; simp only [Option.map_some, Option.some.injEq] at h2; rw [← h2, vDec, if_neg c, ih1 hn ds' ht]; rfl
        · cases hc : cutN bias t (k + 36) with
          | none => rw [hc] at h; simp at h
          | some p =>
            obtain ⟨u, rb'⟩ := p; rw [hc] at h; simp only [Option.map_some, Option.some.injEq, Prod.mk.injEq] at h; obtain ⟨rfl, rfl⟩ := h; obtain ⟨j1, j2, j3⟩ := ih2 u rb' hc; refine ⟨by simp; omega, fun ds h2 => ?_, fun h2 => j3 (by simpa using h2)⟩
            cases ht : dvs t with
            | none => rw [ht] at h2; simp at h2
            | some ds' =>
              rw [ht] at h2; simp only [Option.map_some, Option.some.injEq] at h2; obtain ⟨r, e1, e2⟩ := j2 ds' ht; refine ⟨r, ?_, e2⟩; rw [← h2, vDec, if_neg c, e1]; rfl
def rdB : Nat → Nat → Nat → Nat → List Nat → List UInt8 → Option (List Nat)
  | _, n, i, bias, l, [] => some l
  | 0, n, i, bias, l, _ :: _ => none
  | f + 1, n, i, bias, l, b :: t =>
    match cutN bias (b :: t) 36 with
    | none => none
    | some (v, r) =>
      if cp (n + (i + v) / (l.length + 1)) = true ∧ l.length < 63 then rdB f (n + (i + v) / (l.length + 1)) ((i + v) % (l.length + 1) + 1) (adp v (l.length + 1) (i == 0)) (ins l ((i + v) % (l.length + 1)) (n + (i + v) / (l.length + 1))) r else none
theorem rdB_is : ∀ (f n i bias : Nat) (l : List Nat) (t : List UInt8), t.length ≤ f → rdB f n i bias l t = (dvs t).bind fun ds => rd f n i bias l ds
  | f, n, i, bias, l, [], h => by cases f <;> simp [rdB, dvs, rd]
  | 0, n, i, bias, l, b :: t, h => by simp at h
  | f + 1, n, i, bias, l, b :: t, h => by
    rw [rdB]; obtain ⟨ih1, ih2⟩ := cut_rel bias (b :: t) 36
    cases hc : cutN bias (b :: t) 36 with
    | none =>
      simp only
      cases hd : dvs (b :: t) with
      | none => rfl
      | some ds =>
        simp only [Option.bind_some]; have hv := ih1 hc ds hd
        cases ds with
        | nil =>
          have := (dvs_is hd).2.1; simp at this
        | cons d ds =>
          rw [rd, hv]
    | some p =>
      obtain ⟨v, r⟩ := p; simp only; obtain ⟨j1, j2, j3⟩ := ih2 v r hc
      cases hd : dvs (b :: t) with
      | none =>
        simp only [Option.bind_none]
        split
        · rw [rdB_is f _ _ _ _ r (by simp at h j1; omega), j3 hd]; rfl
        · rfl
      | some ds =>
        simp only [Option.bind_some]; obtain ⟨r', e1, e2⟩ := j2 ds hd
        cases ds with
        | nil =>
          have := (dvs_is hd).2.1; simp at this
        | cons d ds =>
          rw [rd, e1]; simp only
          split
          · rw [rdB_is f _ _ _ _ r (by simp at h j1; omega), e2]; rfl
          · rfl
def prt (s : List UInt8) : List UInt8 × List UInt8 := match cutAt s with | some (k + 1) => (s.take (k + 1), s.drop (k + 2)) | _ => ([], s)
theorem rd_len : ∀ (f n i bias : Nat) (l ds out : List Nat), rd f n i bias l ds = some out → l.length ≤ 63 → out.length ≤ 63
  | f, n, i, bias, l, [], out, h, hl => by
    have : some l = some out := by cases f <;> simpa [rd] using h
    simp only [Option.some.injEq] at this; rw [← this]; exact hl
  | 0, n, i, bias, l, d :: ds, out, h, hl => by simp [rd] at h
  | f + 1, n, i, bias, l, d :: ds, out, h, hl => by
    rw [rd] at h
    cases hv : vDec bias (d :: ds) 36 with
    | none => rw [hv] at h; simp at h
    | some p =>
      obtain ⟨v, r⟩ := p; rw [hv] at h; simp only at h
      split at h
      · rename_i hc; exact rd_len f _ _ _ _ r out h (by rw [ins_len]; omega)
      · simp at h
theorem rd_long (f n i bias : Nat) (l ds out : List Nat) (h : rd f n i bias l ds = some out) (hl : 63 < l.length) : 63 < out.length := by
  cases ds with
  | nil =>
    have : some l = some out := by cases f <;> simpa [rd] using h
    simp only [Option.some.injEq] at this; rw [← this]; exact hl
  | cons d ds =>
    cases f with
    | zero => simp [rd] at h
    | succ f =>
      rw [rd] at h
      cases hv : vDec bias (d :: ds) 36 with
      | none => rw [hv] at h; simp at h
      | some p =>
        obtain ⟨v, r⟩ := p; rw [hv] at h; simp only at h
        split at h
        · omega
        · simp at h
theorem dvs_high {t : List UInt8} (h : ¬ ∀ b ∈ t, b.toNat ≤ 127) : dvs t = none := by
  cases hd : dvs t with
  | none => rfl
  | some ds =>
    refine absurd (fun b hb => ?_) h; have key : ∀ (t : List UInt8) (ds : List Nat), dvs t = some ds → ∀ b ∈ t, (dv b).isSome = true := by
      intro t
      induction t with
      | nil => intro ds _ b hb; simp at hb
      | cons x t ih =>
        intro ds hd b hb
        cases hx : dv x with
        | none => simp [dvs, hx] at hd
        | some n =>
          rw [dvs, hx] at hd
          cases ht : dvs t with
          | none => simp [ht] at hd
          | some ds' =>
            rcases List.mem_cons.1 hb with rfl | hb
            · rw [hx]; rfl
            · exact ih ds' ht b hb
    have hs := key t ds hd b hb; unfold dv at hs
    split at hs
    · omega
    · split at hs
      · omega
      · split at hs
        · omega
        · simp at hs
theorem pdec_rdB (s : List UInt8) (hs : s.length ≤ 200) : pdec s = if (prt s).1.length ≤ 63 ∧ (∀ b ∈ (prt s).1, b.toNat ≤ 127) then rdB (prt s).2.length 128 0 72 ((prt s).1.map UInt8.toNat) (prt s).2 else none := by
  have core : ∀ p t : List UInt8, ((dvs t).bind fun ds => (rd ds.length 128 0 72 (p.map UInt8.toNat) ds).bind fun l => if l.length ≤ 63 then some l else none) = if p.length ≤ 63 then rdB t.length 128 0 72 (p.map UInt8.toNat) t else none := by
    intro p t; by_cases hp : p.length ≤ 63
    · rw [if_pos hp, rdB_is _ _ _ _ _ _ (Nat.le_refl _)]
      cases hd : dvs t with
      | none => rfl
      | some ds =>
        simp only [Option.bind_some]; rw [← (dvs_is hd).2.1]
        cases hr : rd ds.length 128 0 72 (p.map UInt8.toNat) ds with
        | none => rfl
        | some l =>
          simp only [Option.bind_some]; rw [if_pos (rd_len _ _ _ _ _ _ _ hr (by simpa using hp))]
    · rw [if_neg hp]
      cases hd : dvs t with
      | none => rfl
      | some ds =>
        simp only [Option.bind_some]
        cases hr : rd ds.length 128 0 72 (p.map UInt8.toNat) ds with
        | none => rfl
        | some l =>
          simp only [Option.bind_some]; rw [if_neg (by have := rd_long _ _ _ _ _ _ _ hr (by simp; omega); omega)]
  have high : ∀ t : List UInt8, (¬ ∀ b ∈ t, b.toNat ≤ 127) → ∀ f l, t.length ≤ f → rdB f 128 0 72 l t = none := by
    intro t ht f l hf; rw [rdB_is _ _ _ _ _ _ hf, dvs_high ht]; rfl
  unfold pdec; by_cases ha : s.all (fun b => decide (b.toNat ≤ 127)) = true
  · have ha' : ∀ b ∈ s, b.toNat ≤ 127 := fun b hb => by simpa using List.all_eq_true.1 ha b hb
    rw [if_pos ⟨hs, ha⟩]; unfold prt
    cases hc : cutAt s with
    | none =>
      simp only [Option.bind_some]; rw [core]; simp
    | some k =>
      cases k with
      | zero =>
        simp only [Option.bind_none]; obtain ⟨h1, h2, h3⟩ := cutAt_is hc; rw [if_pos ⟨by simp, by simp⟩]; rw [show s = 45 :: s.drop 1 by simpa using h2, List.length_cons, rdB, cutN]; rfl
      | succ k =>
        simp only [Option.bind_some]; rw [core]; by_cases hp : (s.take (k + 1)).length ≤ 63
        · rw [if_pos hp, if_pos ⟨hp, fun b hb => ha' b (List.mem_of_mem_take hb)⟩]
        · rw [if_neg hp, if_neg (fun h => hp h.1)]
  · rw [if_neg (fun h => ha h.2)]; have ha' : ¬ ∀ b ∈ s, b.toNat ≤ 127 := fun h => ha (List.all_eq_true.2 fun b hb => by simpa using h b hb)
    split
    · rename_i h; symm; refine high _ (fun ht => ha' ?_) _ _ (Nat.le_refl _); revert h ht; unfold prt
      cases hc : cutAt s with
      | none => exact fun _ ht => ht
      | some k =>
        cases k with
        | zero => exact fun _ ht => ht
        | succ k =>
          intro h ht b hb; obtain ⟨h1, h2, h3⟩ := cutAt_is hc; rw [h2] at hb; rcases List.mem_append.1 hb with hb | hb
          · exact h.2 b hb
          · rcases List.mem_cons.1 hb with rfl | hb
            · decide
            · exact ht b hb
    · rfl
theorem sat_add (i d w t : Nat) : min (min i t + d * min w t) t = min (i + d * w) t := by
  by_cases hd : d = 0
  · subst hd; simp
  · by_cases hw : w ≤ t
    · rw [Nat.min_eq_left hw]; generalize d * w = m; omega
    · rw [Nat.min_eq_right (a := w) (by omega)]; have h1 : t ≤ d * t := Nat.le_mul_of_pos_left _ (by omega); have h2 : d * t ≤ d * w := Nat.mul_le_mul_left _ (by omega); omega
theorem sat_mul (w m t : Nat) (hm : 1 ≤ m) : min (min w t * m) t = min (w * m) t := by
  by_cases hw : w ≤ t
  · rw [Nat.min_eq_left hw]
  · rw [Nat.min_eq_right (a := w) (by omega)]; have h1 : t ≤ t * m := Nat.le_mul_of_pos_right _ (by omega); have h2 : t * m ≤ w * m := Nat.mul_le_mul_right _ (by omega); omega
end Go.Proofs.YtenlampiiodkhaaGreatDoor
