/-
  UtfP, FoldP, DomP, DomQ.
-/
import Derived.Test.YtenlampiiodkhaaGreatDoorBAc
import Derived.Test.YtenlampiiodkhaaGreatDoorBSc
namespace Go.Proofs.YtenlampiiodkhaaGreatDoor
def ush (r : Int) : Nat :=
  if r < 0 ∨ 1114111 < r ∨ (55296 ≤ r ∧ r ≤ 57343) then 0 else if r < 128 then 1 else if r < 2048 then 2 else if r < 65536 then 3 else 4
def raw : Nat → Nat → List UInt8
  | 1, x => [UInt8.ofNat x]
  | 2, x => [UInt8.ofNat (192 + x / 64), UInt8.ofNat (128 + x % 64)]
  | 3, x => [UInt8.ofNat (224 + x / 4096), UInt8.ofNat (128 + x / 64 % 64), UInt8.ofNat (128 + x % 64)]
  | _, x => [UInt8.ofNat (240 + x / 262144), UInt8.ofNat (128 + x / 4096 % 64), UInt8.ofNat (128 + x / 64 % 64), UInt8.ofNat (128 + x % 64)]
def one (r : Int) : List UInt8 := if ush r = 0 then raw 3 65533 else raw (ush r) r.toNat
def enc (rs : List Int) : List UInt8 := rs.flatMap one
def cand (bs : List UInt8) : Nat → Nat
  | 1 => (bs.getD 0 0).toNat
  | 2 => (bs.getD 0 0).toNat % 32 * 64 + (bs.getD 1 0).toNat % 64
  | 3 => ((bs.getD 0 0).toNat % 16 * 64 + (bs.getD 1 0).toNat % 64) * 64 + (bs.getD 2 0).toNat % 64
  | _ => (((bs.getD 0 0).toNat % 8 * 64 + (bs.getD 1 0).toNat % 64) * 64 + (bs.getD 2 0).toNat % 64) * 64 + (bs.getD 3 0).toNat % 64
def okAt (bs : List UInt8) (n : Nat) : Bool := decide (n ≤ bs.length) && decide (ush (cand bs n) = n) && (one (cand bs n) == bs.take n)
def at1 (bs : List UInt8) : Option (Nat × Nat) :=
  if okAt bs 1 then some (cand bs 1, 1) else if okAt bs 2 then some (cand bs 2, 2) else if okAt bs 3 then some (cand bs 3, 3) else if okAt bs 4 then some (cand bs 4, 4) else none
theorem sh_le (r : Int) : ush r ≤ 4 := by
  unfold ush
  repeat' split
  all_goals omega
theorem raw_len (n x : Nat) (h1 : 1 ≤ n) (h4 : n ≤ 4) : (raw n x).length = n := by
  match n, h1, h4 with
  | 1, _, _ => rfl
  | 2, _, _ => rfl
  | 3, _, _ => rfl
  | 4, _, _ => rfl
theorem sh_bound {r : Int} {n : Nat} (h : ush r = n) (hn : n ≠ 0) : 0 ≤ r ∧ r ≤ 1114111 ∧ ¬ (55296 ≤ r ∧ r ≤ 57343) ∧ (n = 1 → r < 128) ∧ (n = 2 → 128 ≤ r ∧ r < 2048) ∧ (n = 3 → 2048 ≤ r ∧ r < 65536) ∧ (n = 4 → 65536 ≤ r) ∧ n ≤ 4 := by
  unfold ush at h
  repeat' split at h
  all_goals omega
theorem one_len (r : Int) : 1 ≤ (one r).length ∧ (one r).length ≤ 4 := by
  unfold one
  split
  · decide
  · rw [raw_len _ _ (by omega) (sh_le r)]; exact ⟨by omega, sh_le r⟩
theorem one_ok {r : Int} (h : ush r ≠ 0) : one r = raw (ush r) r.toNat := by unfold one; rw [if_neg h]
theorem toNat_ofNat (x : Nat) (h : x < 256) : (UInt8.ofNat x).toNat = x := by
  rw [UInt8.toNat_ofNat']; exact Nat.mod_eq_of_lt h
theorem cand_one {r : Int} (h : ush r ≠ 0) (t : List UInt8) : cand (one r ++ t) (ush r) = r.toNat := by
  rw [one_ok h]; obtain ⟨h0, hm, hs, b1, b2, b3, b4, h4⟩ := sh_bound (r := r) rfl h; obtain ⟨x, rfl⟩ := Int.eq_ofNat_of_zero_le h0; simp only [Int.toNat_natCast]; generalize ush (x : Int) = n at *
  match n, h, h4 with
  | 1, _, _ =>
    have := b1 rfl; simp [raw, cand]; omega
  | 2, _, _ =>
    have := b2 rfl; simp only [raw, cand, List.cons_append, List.nil_append, List.getD_cons_zero, List.getD_cons_succ]; rw [toNat_ofNat _ (by omega), toNat_ofNat _ (by omega)]; omega
  | 3, _, _ =>
    have := b3 rfl; simp only [raw, cand, List.cons_append, List.nil_append, List.getD_cons_zero, List.getD_cons_succ]; rw [toNat_ofNat _ (by omega), toNat_ofNat _ (by omega), toNat_ofNat _ (by omega)]; omega
  | 4, _, _ =>
    have := b4 rfl; simp only [raw, cand, List.cons_append, List.nil_append, List.getD_cons_zero, List.getD_cons_succ]; rw [toNat_ofNat _ (by omega), toNat_ofNat _ (by omega), toNat_ofNat _ (by omega), toNat_ofNat _ (by omega)]; omega
theorem one_length {r : Int} (h : ush r ≠ 0) : (one r).length = ush r := by rw [one_ok h, raw_len _ _ (by omega) (sh_le r)]
theorem okAt_one {r : Int} (h : ush r ≠ 0) (t : List UInt8) : okAt (one r ++ t) (ush r) = true := by
  obtain ⟨h0, _⟩ := sh_bound (r := r) rfl h; unfold okAt; rw [cand_one h t]; have e : ((r.toNat : Nat) : Int) = r := Int.toNat_of_nonneg h0; have hl := one_length h; rw [e]; simp [hl]
theorem okAt_spec {bs : List UInt8} {n : Nat} (h : okAt bs n = true) : n ≤ bs.length ∧ ush (cand bs n) = n ∧ one (cand bs n) = bs.take n := by
  unfold okAt at h; simp only [Bool.and_eq_true, decide_eq_true_eq, beq_iff_eq] at h; exact ⟨h.1.1, h.1.2, h.2⟩
theorem okAt_first {bs : List UInt8} {n : Nat} (h : okAt bs n = true) (hn : n ≠ 0) :
    (n = 1 → (bs.getD 0 0).toNat < 128) ∧ (n = 2 → 192 ≤ (bs.getD 0 0).toNat ∧ (bs.getD 0 0).toNat < 224) ∧ (n = 3 → 224 ≤ (bs.getD 0 0).toNat ∧ (bs.getD 0 0).toNat < 240) ∧ (n = 4 → 240 ≤ (bs.getD 0 0).toNat) := by
  obtain ⟨h1, h2, h3⟩ := okAt_spec h; obtain ⟨_, hm, _, b1, b2, b3, b4, h4⟩ := sh_bound h2 hn; have hne : ush (cand bs n) ≠ 0 := by omega
  rw [one_ok hne, h2] at h3; simp only [Int.toNat_natCast] at h3; have hd : (bs.take n).getD 0 0 = bs.getD 0 0 := by
    simp [List.getD, show 0 < n by omega]
  have e := congrArg (fun l : List UInt8 => (l.getD 0 0).toNat) h3; simp only [hd] at e; refine ⟨fun e1 => ?_, fun e1 => ?_, fun e1 => ?_, fun e1 => ?_⟩
  · subst e1; have := b1 rfl; simp only [raw, List.getD_cons_zero] at e; rw [toNat_ofNat _ (by omega)] at e; omega
  · subst e1; have := b2 rfl; simp only [raw, List.getD_cons_zero] at e; rw [toNat_ofNat _ (by omega)] at e; omega
  · subst e1; have := b3 rfl; simp only [raw, List.getD_cons_zero] at e; rw [toNat_ofNat _ (by omega)] at e; omega
  · subst e1; have := b4 rfl; simp only [raw, List.getD_cons_zero] at e; rw [toNat_ofNat _ (by omega)] at e; omega
theorem okAt_zero (bs : List UInt8) (n : Nat) (h : okAt bs n = true) : n ≠ 0 := by
  intro e; subst e; obtain ⟨_, h2, h3⟩ := okAt_spec h; have := one_len (cand bs 0); rw [h3] at this; simp at this
theorem okAt_le (bs : List UInt8) (n : Nat) (h : okAt bs n = true) : n ≤ 4 := by
  obtain ⟨_, h2, _⟩ := okAt_spec h; have := sh_le (cand bs n); omega
theorem at1_some {bs : List UInt8} {n : Nat} (h : okAt bs n = true) : at1 bs = some (cand bs n, n) := by
  have hn := okAt_zero bs n h; have h4 := okAt_le bs n h; obtain ⟨f1, f2, f3, f4⟩ := okAt_first h hn; have no : ∀ m, m ≠ n → okAt bs m = false := by
    intro m hm
    cases hb : okAt bs m with
    | false => rfl
    | true =>
      exfalso; have hm0 := okAt_zero bs m hb; have hm4 := okAt_le bs m hb; obtain ⟨g1, g2, g3, g4⟩ := okAt_first hb hm0; have : (bs.getD 0 0).toNat < 256 := (bs.getD 0 0).toNat_lt; have c1 : n = 1 ∨ n = 2 ∨ n = 3 ∨ n = 4 := by omega
      have c2 : m = 1 ∨ m = 2 ∨ m = 3 ∨ m = 4 := by omega
      rcases c1 with rfl | rfl | rfl | rfl <;> rcases c2 with rfl | rfl | rfl | rfl <;> simp at f1 f2 f3 f4 g1 g2 g3 g4 hm <;> omega
  unfold at1; have c1 : n = 1 ∨ n = 2 ∨ n = 3 ∨ n = 4 := by omega
  rcases c1 with rfl | rfl | rfl | rfl
  · rw [h]; rfl
  · rw [no 1 (by decide), h]; rfl
  · rw [no 1 (by decide), no 2 (by decide), h]; rfl
  · rw [no 1 (by decide), no 2 (by decide), no 3 (by decide), h]; rfl
theorem at1_none {bs : List UInt8} (h : ∀ n, okAt bs n = false) : at1 bs = none := by
  unfold at1; rw [h 1, h 2, h 3, h 4]; rfl
theorem at1_one {r : Int} (h : ush r ≠ 0) (t : List UInt8) : at1 (one r ++ t) = some (r.toNat, ush r) := by
  rw [at1_some (okAt_one h t), cand_one h t]
theorem at1_len {bs : List UInt8} {r n : Nat} (h : at1 bs = some (r, n)) : okAt bs n = true ∧ r = cand bs n ∧ 1 ≤ n ∧ n ≤ 4 ∧ n ≤ bs.length ∧ ush r = n ∧ one r = bs.take n := by
  have key : okAt bs n = true ∧ r = cand bs n := by
    unfold at1 at h
    repeat' split at h
    all_goals simp at h
    all_goals (obtain ⟨rfl, rfl⟩ := h; exact ⟨by assumption, rfl⟩)
  obtain ⟨h1, rfl⟩ := key; have h0 := okAt_zero bs n h1; obtain ⟨s1, s2, s3⟩ := okAt_spec h1; exact ⟨h1, rfl, by omega, okAt_le bs n h1, s1, s2, s3⟩
def decF : Nat → List UInt8 → List Int
  | 0, _ => []
  | f + 1, bs =>
    if bs = [] then [] else
    match at1 bs with
    | some (r, n) => (r : Int) :: decF f (bs.drop n)
    | none => 65533 :: decF f (bs.drop 1)
def dec (bs : List UInt8) : List Int := decF bs.length bs
def vldF : Nat → List UInt8 → Bool
  | 0, _ => true
  | f + 1, bs =>
    if bs = [] then true else
    match at1 bs with
    | some (_, n) => vldF f (bs.drop n)
    | none => false
def vld (bs : List UInt8) : Bool := vldF bs.length bs
theorem decF_enough (f g : Nat) (bs : List UInt8) (hf : bs.length ≤ f) (hg : bs.length ≤ g) : decF f bs = decF g bs := by
  induction f generalizing g bs with
  | zero =>
    have e : bs = [] := List.eq_nil_of_length_eq_zero (by omega); subst e
    cases g <;> simp [decF]
  | succ f ih =>
    cases g with
    | zero =>
      have e : bs = [] := List.eq_nil_of_length_eq_zero (by omega); subst e; simp [decF]
    | succ g =>
      simp only [decF]; by_cases hb : bs = []
      · rw [if_pos hb, if_pos hb]
      · rw [if_neg hb, if_neg hb]; have hpos : 0 < bs.length := List.length_pos_iff.2 hb
        cases ha : at1 bs with
        | none =>
          simp only; rw [ih g (bs.drop 1) (by simp; omega) (by simp; omega)]
        | some p =>
          obtain ⟨r, n⟩ := p; obtain ⟨_, _, h1, _⟩ := at1_len ha; simp only; rw [ih g (bs.drop n) (by simp; omega) (by simp; omega)]
theorem vldF_enough (f g : Nat) (bs : List UInt8) (hf : bs.length ≤ f) (hg : bs.length ≤ g) : vldF f bs = vldF g bs := by
  induction f generalizing g bs with
  | zero =>
    have e : bs = [] := List.eq_nil_of_length_eq_zero (by omega); subst e
    cases g <;> simp [vldF]
  | succ f ih =>
    cases g with
    | zero =>
      have e : bs = [] := List.eq_nil_of_length_eq_zero (by omega); subst e; simp [vldF]
    | succ g =>
      simp only [vldF]; by_cases hb : bs = []
      · rw [if_pos hb, if_pos hb]
      · rw [if_neg hb, if_neg hb]; have hpos : 0 < bs.length := List.length_pos_iff.2 hb
        cases ha : at1 bs with
        | none => rfl
        | some p =>
          obtain ⟨r, n⟩ := p; obtain ⟨_, _, h1, _⟩ := at1_len ha; simp only; rw [ih g (bs.drop n) (by simp; omega) (by simp; omega)]
theorem dec_nil : dec [] = [] := rfl
theorem dec_some {bs : List UInt8} {r n : Nat} (h : at1 bs = some (r, n)) : dec bs = (r : Int) :: dec (bs.drop n) := by
  obtain ⟨_, _, h1, _, hl, _⟩ := at1_len h; unfold dec; obtain ⟨m, hm⟩ : ∃ m, bs.length = m + 1 := ⟨bs.length - 1, by omega⟩; rw [hm]; simp only [decF]; rw [if_neg (by intro e; rw [e] at hm; simp at hm), h]; simp only; rw [decF_enough m (bs.drop n).length (bs.drop n) (by simp; omega) (Nat.le_refl _)]
theorem dec_none {bs : List UInt8} (h : at1 bs = none) (hb : bs ≠ []) : dec bs = 65533 :: dec (bs.drop 1) := by
  have hpos : 0 < bs.length := List.length_pos_iff.2 hb; unfold dec; obtain ⟨m, hm⟩ : ∃ m, bs.length = m + 1 := ⟨bs.length - 1, by omega⟩; rw [hm]; simp only [decF]; rw [if_neg hb, h]; simp only; rw [decF_enough m (bs.drop 1).length (bs.drop 1) (by simp; omega) (Nat.le_refl _)]
theorem vld_some {bs : List UInt8} {r n : Nat} (h : at1 bs = some (r, n)) : vld bs = vld (bs.drop n) := by
  obtain ⟨_, _, h1, _, hl, _⟩ := at1_len h; unfold vld; obtain ⟨m, hm⟩ : ∃ m, bs.length = m + 1 := ⟨bs.length - 1, by omega⟩; rw [hm]; simp only [vldF]; rw [if_neg (by intro e; rw [e] at hm; simp at hm), h]; simp only; rw [vldF_enough m (bs.drop n).length (bs.drop n) (by simp; omega) (Nat.le_refl _)]
theorem vld_none {bs : List UInt8} (h : at1 bs = none) (hb : bs ≠ []) : vld bs = false := by
  have hpos : 0 < bs.length := List.length_pos_iff.2 hb; unfold vld; obtain ⟨m, hm⟩ : ∃ m, bs.length = m + 1 := ⟨bs.length - 1, by omega⟩; rw [hm]; simp only [vldF]; rw [if_neg hb, h]
def fix (r : Int) : Int := if ush r = 0 then 65533 else r
theorem sh_fix (r : Int) : ush (fix r) ≠ 0 := by
  unfold fix
  split
  · decide
  · assumption
theorem one_fix (r : Int) : one (fix r) = one r := by
  by_cases h : ush r = 0
  · have e : fix r = 65533 := by unfold fix; rw [if_pos h]
    rw [e]; unfold one; rw [if_pos h]; rfl
  · have e : fix r = r := by unfold fix; rw [if_neg h]
    rw [e]
theorem dec_one (r : Int) (t : List UInt8) : dec (one r ++ t) = fix r :: dec t := by
  have h := at1_one (sh_fix r) t; rw [one_fix] at h; rw [dec_some h]; have hl : (one r).length = ush (fix r) := by rw [← one_fix, one_length (sh_fix r)]
  rw [← hl, List.drop_left]; have : ((fix r).toNat : Int) = fix r := Int.toNat_of_nonneg (sh_bound rfl (sh_fix r)).1; rw [this]
theorem vld_one (r : Int) (t : List UInt8) : vld (one r ++ t) = vld t := by
  have h := at1_one (sh_fix r) t; rw [one_fix] at h; rw [vld_some h]; have hl : (one r).length = ush (fix r) := by rw [← one_fix, one_length (sh_fix r)]
  rw [← hl, List.drop_left]
theorem dec_enc (rs : List Int) : dec (enc rs) = rs.map fix := by
  induction rs with
  | nil => rfl
  | cons r t ih =>
    have e : enc (r :: t) = one r ++ enc t := by simp [enc]
    rw [e, dec_one, ih]; rfl
theorem vld_enc (rs : List Int) : vld (enc rs) = true := by
  induction rs with
  | nil => rfl
  | cons r t ih =>
    have e : enc (r :: t) = one r ++ enc t := by simp [enc]
    rw [e, vld_one, ih]
theorem vld_iff (bs : List UInt8) : vld bs = true ↔ enc (dec bs) = bs := by
  constructor
  · intro h; have key : ∀ f (bs : List UInt8), bs.length ≤ f → vld bs = true → enc (dec bs) = bs := by
      intro f
      induction f with
      | zero =>
        intro bs hl _; have e : bs = [] := List.eq_nil_of_length_eq_zero (by omega); subst e; rfl
      | succ f ih =>
        intro bs hl h; by_cases hb : bs = []
        · subst hb; rfl
        · have hpos : 0 < bs.length := List.length_pos_iff.2 hb
          cases ha : at1 bs with
          | none => rw [vld_none ha hb] at h; cases h
          | some p =>
            obtain ⟨r, n⟩ := p; obtain ⟨_, _, h1, _, _, _, ho⟩ := at1_len ha; rw [vld_some ha] at h; have := ih (bs.drop n) (by simp; omega) h; rw [dec_some ha]; have e : enc ((r : Int) :: dec (bs.drop n)) = one r ++ enc (dec (bs.drop n)) := by simp [enc]
            rw [e, this, ho, List.take_append_drop]
    exact key bs.length bs (Nat.le_refl _) h
  · intro h; rw [← h]; exact vld_enc _
theorem dec_append (a b : List UInt8) (h : vld a = true) : dec (a ++ b) = dec a ++ dec b := by
  have e := (vld_iff a).1 h; have key : ∀ rs : List Int, dec (enc rs ++ b) = rs.map fix ++ dec b := by
    intro rs
    induction rs with
    | nil => rfl
    | cons r t ih =>
      have e : enc (r :: t) = one r ++ enc t := by simp [enc]
      rw [e, List.append_assoc, dec_one, ih]; rfl
  have k := key (dec a); rw [e] at k; rw [k]; have d := dec_enc (dec a); rw [e] at d; rw [← d]
theorem dec_len (bs : List UInt8) : (dec bs).length ≤ bs.length := by
  have key : ∀ f (bs : List UInt8), bs.length ≤ f → (dec bs).length ≤ bs.length := by
    intro f
    induction f with
    | zero =>
      intro bs hl; have e : bs = [] := List.eq_nil_of_length_eq_zero (by omega); subst e; simp [dec_nil]
    | succ f ih =>
      intro bs hl; by_cases hb : bs = []
      · subst hb; simp [dec_nil]
      · have hpos : 0 < bs.length := List.length_pos_iff.2 hb
        cases ha : at1 bs with
        | none =>
          rw [dec_none ha hb]; have := ih (bs.drop 1) (by simp; omega); simp at this ⊢; omega
        | some p =>
          obtain ⟨r, n⟩ := p; obtain ⟨_, _, h1, _⟩ := at1_len ha; rw [dec_some ha]; have := ih (bs.drop n) (by simp; omega); simp at this ⊢; omega
  exact key bs.length bs (Nat.le_refl _)
end Go.Proofs.YtenlampiiodkhaaGreatDoor
namespace Go.Proofs.YtenlampiiodkhaaGreatDoor
set_option linter.unusedVariables false
open Go.RowKit
def lost (r : Int) : Bool := decide (r = 173) || (decide (8203 ≤ r) && decide (r ≤ 8205)) || decide (r = 8288) || decide (r = 65279)
def wide (r : Int) : Int := if 65281 ≤ r ∧ r ≤ 65374 then r - 65248 else r
def small (r : Int) : Int :=
  if r = 12290 ∨ r = 65377 then 46
  else if (65 ≤ r ∧ r ≤ 90) ∨ (192 ≤ r ∧ r ≤ 222 ∧ r ≠ 215) ∨ (913 ≤ r ∧ r ≤ 937 ∧ r ≠ 930) ∨ (1040 ≤ r ∧ r ≤ 1071) then r + 32
  else if 1024 ≤ r ∧ r ≤ 1039 then r + 80
  else if 256 ≤ r ∧ r ≤ 303 then r + (1 - r % 2)
  else r
def mpo (r : Int) : Int := if lost r then 0 else small (wide r)
def mpk (r : Int) : Bool := !lost r
theorem lost_iff (r : Int) : lost r = true ↔ (r = 173 ∨ (8203 ≤ r ∧ r ≤ 8205) ∨ r = 8288 ∨ r = 65279) := by
  unfold lost; simp only [Bool.or_eq_true, Bool.and_eq_true, decide_eq_true_eq]; omega
theorem lost_false {r : Int} (h : ¬ (r = 173 ∨ (8203 ≤ r ∧ r ≤ 8205) ∨ r = 8288 ∨ r = 65279)) : lost r = false := by
  cases e : lost r
  · rfl
  · exact absurd ((lost_iff r).1 e) h
theorem small_cases (r : Int) : ((r = 12290 ∨ r = 65377) ∧ small r = 46) ∨ (((65 ≤ r ∧ r ≤ 90) ∨ (192 ≤ r ∧ r ≤ 222 ∧ r ≠ 215) ∨ (913 ≤ r ∧ r ≤ 937 ∧ r ≠ 930) ∨ (1040 ≤ r ∧ r ≤ 1071)) ∧ small r = r + 32) ∨ ((1024 ≤ r ∧ r ≤ 1039) ∧ small r = r + 80)
    ∨ ((256 ≤ r ∧ r ≤ 303) ∧ small r = r + (1 - r % 2)) ∨ ((¬ (r = 12290 ∨ r = 65377) ∧ ¬ ((65 ≤ r ∧ r ≤ 90) ∨ (192 ≤ r ∧ r ≤ 222 ∧ r ≠ 215) ∨ (913 ≤ r ∧ r ≤ 937 ∧ r ≠ 930) ∨ (1040 ≤ r ∧ r ≤ 1071)) ∧ ¬ (1024 ≤ r ∧ r ≤ 1039) ∧ ¬ (256 ≤ r ∧ r ≤ 303)) ∧ small r = r) := by
  unfold small
  split
  · rename_i h; exact .inl ⟨h, rfl⟩
  · rename_i h0
    split
    · rename_i h; exact .inr (.inl ⟨h, rfl⟩)
    · rename_i h1
      split
      · rename_i h; exact .inr (.inr (.inl ⟨h, rfl⟩))
      · rename_i h2
        split
        · rename_i h; exact .inr (.inr (.inr (.inl ⟨h, rfl⟩)))
        · rename_i h3; exact .inr (.inr (.inr (.inr ⟨⟨h0, h1, h2, h3⟩, rfl⟩)))
theorem wide_cases (r : Int) : ((65281 ≤ r ∧ r ≤ 65374) ∧ wide r = r - 65248) ∨ (¬ (65281 ≤ r ∧ r ≤ 65374) ∧ wide r = r) := by
  unfold wide
  split
  · rename_i h; exact .inl ⟨h, rfl⟩
  · rename_i h; exact .inr ⟨h, rfl⟩
theorem stay_of (q : Int) (h1 : ¬ (65281 ≤ q ∧ q ≤ 65374)) (h2 : ¬ (q = 12290 ∨ q = 65377)) (h3 : ¬ ((65 ≤ q ∧ q ≤ 90) ∨ (192 ≤ q ∧ q ≤ 222 ∧ q ≠ 215) ∨ (913 ≤ q ∧ q ≤ 937 ∧ q ≠ 930) ∨ (1040 ≤ q ∧ q ≤ 1071))) (h4 : ¬ (1024 ≤ q ∧ q ≤ 1039)) (h5 : 256 ≤ q ∧ q ≤ 303 → q % 2 = 1) : small (wide q) = q := by
  have e : wide q = q := by unfold wide; rw [if_neg h1]
  rw [e]; unfold small; rw [if_neg h2, if_neg h3, if_neg h4]
  split
  · rename_i h; have := h5 h; omega
  · rfl
def Lost (q : Int) : Prop := q = 173 ∨ (8203 ≤ q ∧ q ≤ 8205) ∨ q = 8288 ∨ q = 65279
theorem key1 (z : Int) (hs : z = 12290 ∨ z = 65377) : ¬ Lost 46 ∧ small (wide 46) = 46 := by
  unfold Lost; exact ⟨by omega, stay_of _ (by omega) (by omega) (by omega) (by omega) (by omega)⟩
theorem key2 (z : Int) (hs : (65 ≤ z ∧ z ≤ 90) ∨ (192 ≤ z ∧ z ≤ 222 ∧ z ≠ 215) ∨ (913 ≤ z ∧ z ≤ 937 ∧ z ≠ 930) ∨ (1040 ≤ z ∧ z ≤ 1071)) : ¬ Lost (z + 32) ∧ small (wide (z + 32)) = z + 32 := by
  unfold Lost; exact ⟨by omega, stay_of _ (by omega) (by omega) (by omega) (by omega) (by omega)⟩
theorem key3 (z : Int) (hs : 1024 ≤ z ∧ z ≤ 1039) : ¬ Lost (z + 80) ∧ small (wide (z + 80)) = z + 80 := by
  unfold Lost; exact ⟨by omega, stay_of _ (by omega) (by omega) (by omega) (by omega) (by omega)⟩
theorem key4 (z : Int) (hs : 256 ≤ z ∧ z ≤ 303) : ¬ Lost (z + (1 - z % 2)) ∧ small (wide (z + (1 - z % 2))) = z + (1 - z % 2) := by
  unfold Lost; exact ⟨by omega, stay_of _ (by omega) (by omega) (by omega) (by omega) (by omega)⟩
theorem small_stays (z : Int) (hw : ¬ (65281 ≤ z ∧ z ≤ 65374)) (hn : ¬ Lost z) : ¬ Lost (small z) ∧ small (wide (small z)) = small z := by
  rcases small_cases z with ⟨hs, es⟩ | ⟨hs, es⟩ | ⟨hs, es⟩ | ⟨hs, es⟩ | ⟨hs, es⟩
  · rw [es]; exact key1 z hs
  · rw [es]; exact key2 z hs
  · rw [es]; exact key3 z hs
  · rw [es]; exact key4 z hs
  · rw [es]; obtain ⟨h2, h3, h4, h5⟩ := hs; exact ⟨hn, stay_of z hw h2 h3 h4 fun h => absurd h h5⟩
theorem mpo_of {r : Int} (h : lost r = false) : mpo r = small (wide r) := by
  unfold mpo; rw [if_neg (by rw [h]; simp)]
theorem mpk_of {r : Int} (h : lost r = false) : mpk r = true := by
  unfold mpk; rw [h, Bool.not_false]
theorem mp_stays (r : Int) (h : mpk r = true) : mpk (mpo r) = true ∧ mpo (mpo r) = mpo r := by
  have hl : lost r = false := by simpa [mpk] using h
  have hn : ¬ Lost r := by
    intro e; rw [(lost_iff r).2 e] at hl
    cases hl
  rw [mpo_of hl]; have key : ¬ Lost (small (wide r)) ∧ small (wide (small (wide r))) = small (wide r) := by
    rcases wide_cases r with ⟨hw, ew⟩ | ⟨hw, ew⟩
    · rw [ew]; exact small_stays _ (by omega) (by unfold Lost; omega)
    · rw [ew]; exact small_stays _ hw hn
  obtain ⟨k1, k2⟩ := key; have k3 := lost_false k1; exact ⟨mpk_of k3, by rw [mpo_of k3]; exact k2⟩
def txt : List Int → List Int
  | [] => []
  | r :: l => if mpk r then mpo r :: txt l else txt l
theorem txt_app (a b : List Int) : txt (a ++ b) = txt a ++ txt b := by
  induction a with
  | nil => rfl
  | cons r l ih =>
    rw [List.cons_append, txt, txt]
    split
    · rw [ih]; rfl
    · exact ih
theorem txt_snoc (a : List Int) (r : Int) : txt (a ++ [r]) = txt a ++ (if mpk r then [mpo r] else []) := by
  rw [txt_app]; congr 1
theorem txt_len (a : List Int) : (txt a).length ≤ a.length := by
  induction a with
  | nil => simp [txt]
  | cons r l ih =>
    rw [txt]
    split <;> simp <;> omega
end Go.Proofs.YtenlampiiodkhaaGreatDoor
namespace Go.Proofs.YtenlampiiodkhaaGreatDoor
set_option linter.unusedVariables false
open Go.RowKit
def rows : List Int → List (List Int)
  | [] => [[]]
  | r :: l => if r = 46 then [] :: rows l else match rows l with | [] => [[r]] | h :: t => (r :: h) :: t
def joinD : List (List UInt8) → List UInt8
  | [] => []
  | [s] => s
  | s :: t => s ++ 46 :: joinD t
def lowB (l : List Int) : List UInt8 := l.map fun r => UInt8.ofNat r.toNat
def asI (s : List UInt8) : List Int := s.map fun b => (b.toNat : Int)
def xn : List UInt8 := [120, 110, 45, 45]
def known (t : List UInt8) : Bool := match pdec t with | none => false | some ns => ns.any (fun x => decide (127 < x)) && (penc ns == some t) && (txt (ints ns) == ints ns)
def labOf (l : List Int) : Option (List UInt8) :=
  if l.all (fun r => decide (r ≤ 127)) = true then (if (lowB l).take 4 = xn ∧ known ((lowB l).drop 4) = false then none else some (lowB l)) else (penI l).map (xn ++ ·)
def labs : Bool → List (List Int) → Option (List (List UInt8))
  | _, [] => some []
  | first, r :: t => match labOf r with
    | none => none
    | some s => if s.length ≤ 63 ∧ (s ≠ [] ∨ (t = [] ∧ first = false)) then (labs false t).map (s :: ·) else none
def badB (b : UInt8) : Bool := decide (b.toNat ≤ 32) || decide (b.toNat = 127) || [35, 47, 58, 60, 62, 63, 64, 91, 92, 93, 94, 124, 37].contains b
def outOk (s : List UInt8) : Bool := s.all (fun b => !badB b) && decide (s.length - (if s.getLast? = some 46 then 1 else 0) ≤ 253)
def nam (b : List UInt8) : Option (List UInt8) :=
  if b.length ≤ 400 ∧ ¬ (65533 : Int) ∈ txt (dec b) then (labs true (rows (txt (dec b)))).bind fun ls => if outOk (joinD ls) = true then some (joinD ls) else none else none
theorem rows_ne (l : List Int) : rows l ≠ [] := by
  cases l with
  | nil => simp [rows]
  | cons r l =>
    rw [rows]
    split
    · simp
    · split <;> simp
theorem rows_mem : ∀ (l : List Int) (row : List Int), row ∈ rows l → ∀ r ∈ row, r ∈ l ∧ r ≠ 46
  | [], row, h, r, hr => by
    simp [rows] at h; subst h
    cases hr
  | x :: l, row, h, r, hr => by
    rw [rows] at h; by_cases hx : x = 46
    · rw [if_pos hx] at h; rcases List.mem_cons.1 h with rfl | h
      · cases hr
      · have := rows_mem l row h r hr; exact ⟨List.mem_cons_of_mem _ this.1, this.2⟩
    · rw [if_neg hx] at h
      cases hl : rows l with
      | nil => exact absurd hl (rows_ne l)
      | cons y t =>
        rw [hl] at h; simp only at h; rcases List.mem_cons.1 h with rfl | h
        · rcases List.mem_cons.1 hr with rfl | hr
          · exact ⟨List.mem_cons_self .., hx⟩
          · have := rows_mem l y (by rw [hl]; exact List.mem_cons_self ..) r hr; exact ⟨List.mem_cons_of_mem _ this.1, this.2⟩
        · have := rows_mem l row (by rw [hl]; exact List.mem_cons_of_mem _ h) r hr; exact ⟨List.mem_cons_of_mem _ this.1, this.2⟩
theorem rows_app (a : List Int) (ha : ∀ r ∈ a, r ≠ 46) : ∀ l, rows (a ++ 46 :: l) = a :: rows l := by
  intro l
  induction a with
  | nil => rw [List.nil_append, rows, if_pos rfl]
  | cons x a ih =>
    rw [List.cons_append, rows, if_neg (ha x (List.mem_cons_self ..)), ih fun r hr => ha r (List.mem_cons_of_mem _ hr)]
theorem rows_one (a : List Int) (ha : ∀ r ∈ a, r ≠ 46) : rows a = [a] := by
  induction a with
  | nil => rfl
  | cons x a ih =>
    rw [rows, if_neg (ha x (List.mem_cons_self ..)), ih fun r hr => ha r (List.mem_cons_of_mem _ hr)]
theorem rows_join : ∀ (ls : List (List UInt8)), ls ≠ [] → (∀ s ∈ ls, ∀ b ∈ s, b ≠ 46) → rows (asI (joinD ls)) = ls.map asI
  | [], h, _ => absurd rfl h
  | [s], _, h => by
    refine rows_one _ fun r hr => ?_; obtain ⟨b, hb, rfl⟩ := List.mem_map.1 hr; intro e; exact h s (List.mem_singleton.2 rfl) b hb (UInt8.toNat_inj.1 (by show b.toNat = 46; omega))
  | s :: s' :: t, _, h => by
    have e : asI (joinD (s :: s' :: t)) = asI s ++ 46 :: asI (joinD (s' :: t)) := by
      rw [show joinD (s :: s' :: t) = s ++ 46 :: joinD (s' :: t) from rfl]; unfold asI; rw [List.map_append, List.map_cons]; rfl
    rw [e, rows_app _ (fun r hr => ?_), rows_join (s' :: t) (by simp) (fun x hx => h x (List.mem_cons_of_mem _ hx))]
    · rfl
    · obtain ⟨b, hb, rfl⟩ := List.mem_map.1 hr; intro e; exact h s (List.mem_cons_self ..) b hb (UInt8.toNat_inj.1 (by show b.toNat = 46; omega))
theorem txt_fixed {a : List Int} {r : Int} (h : r ∈ txt a) : mpk r = true ∧ mpo r = r := by
  induction a with
  | nil => cases h
  | cons x a ih =>
    rw [txt] at h
    split at h
    · rename_i hx; rcases List.mem_cons.1 h with rfl | h
      · exact mp_stays x hx
      · exact ih h
    · exact ih h
theorem txt_of_fixed {l : List Int} (h : ∀ r ∈ l, mpk r = true ∧ mpo r = r) : txt l = l := by
  induction l with
  | nil => rfl
  | cons x l ih =>
    obtain ⟨h1, h2⟩ := h x (List.mem_cons_self ..); rw [txt, if_pos h1, h2, ih fun r hr => h r (List.mem_cons_of_mem _ hr)]
theorem small_fixed : ∀ b : Fin 128, ¬ (65 ≤ b.val ∧ b.val ≤ 90) → mpk (b.val : Int) = true ∧ mpo (b.val : Int) = (b.val : Int) := by decide +kernel
theorem large_not : ∀ b : Fin 128, 65 ≤ b.val ∧ b.val ≤ 90 → mpo (b.val : Int) ≠ (b.val : Int) := by decide +kernel
def nameB (b : UInt8) : Prop := b.toNat ≤ 127 ∧ ¬ (65 ≤ b.toNat ∧ b.toNat ≤ 90) ∧ b ≠ 46
theorem asI_lowB {l : List Int} (h : ∀ r ∈ l, 0 ≤ r ∧ r ≤ 127) : asI (lowB l) = l := by
  induction l with
  | nil => rfl
  | cons x l ih =>
    have hx := h x (List.mem_cons_self ..); have e : (((UInt8.ofNat x.toNat).toNat : Nat) : Int) = x := by
      rw [UInt8.toNat_ofNat']; omega
    show (((UInt8.ofNat x.toNat).toNat : Nat) : Int) :: asI (lowB l) = x :: l; rw [e, ih fun r hr => h r (List.mem_cons_of_mem _ hr)]
theorem lowB_asI (s : List UInt8) : lowB (asI s) = s := by
  induction s with
  | nil => rfl
  | cons b s ih =>
    show UInt8.ofNat ((b.toNat : Int)).toNat :: lowB (asI s) = b :: s; rw [ih, Int.toNat_natCast, UInt8.ofNat_toNat]
theorem fine_low {l : List Int} (h : ∀ r ∈ l, 0 ≤ r ∧ r ≤ 127 ∧ mpo r = r ∧ r ≠ 46) : ∀ b ∈ lowB l, nameB b := by
  intro b hb; obtain ⟨r, hr, rfl⟩ := List.mem_map.1 hb; obtain ⟨h1, h2, h3, h4⟩ := h r hr; have e : (UInt8.ofNat r.toNat).toNat = r.toNat := by rw [UInt8.toNat_ofNat']; omega
  refine ⟨by omega, fun hl => ?_, fun e2 => ?_⟩
  · have := large_not ⟨r.toNat, by omega⟩ (by show 65 ≤ r.toNat ∧ r.toNat ≤ 90; omega); simp only at this; rw [Int.toNat_of_nonneg h1] at this; exact this h3
  · have : r.toNat = 46 := by rw [← e, e2]; rfl
    omega
theorem letter_fine : ∀ n : Fin 36, nameB (letter n.val) := by
  unfold nameB; decide +kernel
theorem fine_penc {l : List Int} {t : List UInt8} (hp : penI l = some t) (h : ∀ r ∈ l, mpo r = r ∧ r ≠ 46) : ∀ b ∈ t, nameB b := by
  unfold penI at hp
  split at hp
  · rename_i h0; unfold penc at hp
    split at hp
    · simp only [Option.some.injEq] at hp; rw [← hp]; intro b hb; rcases List.mem_append.1 hb with hb | hb
      · rcases List.mem_append.1 hb with hb | hb
        · obtain ⟨x, hx, rfl⟩ := List.mem_map.1 hb; obtain ⟨hx1, hx2⟩ := lt_mem hx; obtain ⟨r, hr, rfl⟩ := List.mem_map.1 hx2; have hr0 : 0 ≤ r := by simpa using List.all_eq_true.1 h0 r hr
          obtain ⟨h3, h4⟩ := h r hr; refine fine_low (l := [r]) (fun q hq => ?_) _ (List.mem_singleton.2 rfl); rw [List.mem_singleton] at hq; subst hq; exact ⟨hr0, by omega, h3, h4⟩
        · split at hb
          · cases hb
          · rw [List.mem_singleton] at hb; subst hb; unfold nameB; decide
      · obtain ⟨d, hd, rfl⟩ := List.mem_map.1 hb; exact letter_fine ⟨d, digs_lt _ _ _ _ d hd⟩
    · cases hp
  · cases hp
theorem lab_stays {l : List Int} {s : List UInt8} (hl : ∀ r ∈ l, 0 ≤ r ∧ mpk r = true ∧ mpo r = r ∧ r ≠ 46) (h : labOf l = some s) (h63 : s.length ≤ 63) : labOf (asI s) = some s ∧ ∀ b ∈ s, nameB b := by
  unfold labOf at h
  split at h
  · rename_i ha; have hr : ∀ r ∈ l, 0 ≤ r ∧ r ≤ 127 := fun r hr => ⟨(hl r hr).1, by simpa using List.all_eq_true.1 ha r hr⟩
    split at h
    · cases h
    · rename_i hk; simp only [Option.some.injEq] at h; subst h; refine ⟨?_, fine_low fun r hr' => ⟨(hr r hr').1, (hr r hr').2, (hl r hr').2.2⟩⟩; rw [asI_lowB hr]; unfold labOf; rw [if_pos ha, if_neg hk]
  · rename_i ha
    cases hp : penI l with
    | none => rw [hp] at h; cases h
    | some t =>
      rw [hp] at h; simp only [Option.map_some, Option.some.injEq] at h; subst h; have ht := fine_penc hp fun r hr => (hl r hr).2.2; have hx : ∀ b ∈ xn, nameB b := by unfold xn nameB; decide
      have hall : ∀ b ∈ xn ++ t, nameB b := fun b hb => (List.mem_append.1 hb).elim (hx b) (ht b); refine ⟨?_, hall⟩; obtain ⟨b1, b2⟩ := back_of hp (by simp at h63; omega); unfold labOf; rw [if_pos (List.all_eq_true.2 fun r hr => by
        obtain ⟨b, hb, rfl⟩ := List.mem_map.1 hr; have := (hall b hb).1; simp; omega), lowB_asI, if_neg]
      rintro ⟨_, hk⟩; have e4 : (xn ++ t).drop 4 = t := rfl; rw [e4] at hk; unfold known at hk; rw [b1] at hk; simp only at hk; have k1 : (l.map Int.toNat).any (fun x => decide (127 < x)) = true := by
        refine Classical.byContradiction fun hc => ha (List.all_eq_true.2 fun r hr => ?_); have : ¬ 127 < r.toNat := fun h2 => hc (List.any_eq_true.2 ⟨r.toNat, List.mem_map.2 ⟨r, hr, rfl⟩, by simpa using h2⟩); simp; omega
      have k2 : penc (l.map Int.toNat) = some t := by rw [← hp, ← b2, penI_ints, b2]
      have k3 : txt (ints (l.map Int.toNat)) = ints (l.map Int.toNat) := by
        rw [b2]; exact txt_of_fixed fun r hr => (hl r hr).2.1 |> fun h1 => ⟨h1, (hl r hr).2.2.1⟩
      rw [k1, k2, k3] at hk; simp at hk
theorem labs_stays : ∀ (rs : List (List Int)) (first : Bool) (ls : List (List UInt8)), (∀ row ∈ rs, ∀ r ∈ row, 0 ≤ r ∧ mpk r = true ∧ mpo r = r ∧ r ≠ 46) → labs first rs = some ls →
    labs first (ls.map asI) = some ls ∧ (∀ s ∈ ls, ∀ b ∈ s, nameB b) ∧ ls.length = rs.length
  | [], first, ls, _, h => by
    simp [labs] at h; subst h; exact ⟨rfl, fun s hs => (by cases hs), rfl⟩
  | row :: rs, first, ls, hr, h => by
    rw [labs] at h
    cases hl : labOf row with
    | none => rw [hl] at h; cases h
    | some s =>
      rw [hl] at h; simp only at h
      split at h
      · rename_i hc
        cases ht : labs false rs with
        | none => rw [ht] at h; cases h
        | some ls' =>
          rw [ht] at h; simp only [Option.map_some, Option.some.injEq] at h; subst h; obtain ⟨i1, i2, i3⟩ := labs_stays rs false ls' (fun x hx => hr x (List.mem_cons_of_mem _ hx)) ht; obtain ⟨j1, j2⟩ := lab_stays (hr row (List.mem_cons_self ..)) hl hc.1; refine ⟨?_, fun x hx => (List.mem_cons.1 hx).elim (fun e => by rw [e]; exact j2) (i2 x), by simp [i3]⟩; rw [List.map_cons, labs, j1]; simp only; have hnil : rs = [] → ls'.map asI = [] := fun e => by
            have : ls'.length = 0 := by rw [i3, e]; rfl
            rw [List.eq_nil_of_length_eq_zero this]; rfl
          rw [i1, if_pos ⟨hc.1, hc.2.imp id fun h2 => ⟨hnil h2.1, h2.2⟩⟩]; rfl
      · cases h
theorem joinD_mem : ∀ (ls : List (List UInt8)) (b : UInt8), b ∈ joinD ls → b = 46 ∨ ∃ s ∈ ls, b ∈ s
  | [], b, h => by cases h
  | [s], b, h => .inr ⟨s, List.mem_singleton.2 rfl, h⟩
  | s :: s' :: t, b, h => by
    rw [show joinD (s :: s' :: t) = s ++ 46 :: joinD (s' :: t) from rfl] at h; rcases List.mem_append.1 h with h | h
    · exact .inr ⟨s, List.mem_cons_self .., h⟩
    · rcases List.mem_cons.1 h with h | h
      · exact .inl h
      · rcases joinD_mem (s' :: t) b h with h | ⟨x, hx, hb⟩
        · exact .inl h
        · exact .inr ⟨x, List.mem_cons_of_mem _ hx, hb⟩
theorem one_ascii : ∀ b : Fin 128, one (b.val : Int) = [UInt8.ofNat b.val] ∧ fix (b.val : Int) = (b.val : Int) := by decide +kernel
theorem dec_ascii : ∀ (s : List UInt8), (∀ b ∈ s, b.toNat ≤ 127) → dec s = asI s
  | [], _ => rfl
  | b :: s, h => by
    have hb := h b (List.mem_cons_self ..); obtain ⟨e1, e2⟩ := one_ascii ⟨b.toNat, by omega⟩; simp only at e1 e2; have := dec_one (b.toNat : Int) s; rw [e1, e2, UInt8.ofNat_toNat, List.singleton_append, dec_ascii s fun x hx => h x (List.mem_cons_of_mem _ hx)] at this; exact this
theorem decF_nonneg : ∀ (f : Nat) (bs : List UInt8), ∀ r ∈ decF f bs, 0 ≤ r
  | 0, bs, r, h => by cases h
  | f + 1, bs, r, h => by
    rw [decF] at h
    split at h
    · cases h
    · split at h
      · rcases List.mem_cons.1 h with rfl | h
        · exact Int.natCast_nonneg _
        · exact decF_nonneg f _ r h
      · rcases List.mem_cons.1 h with rfl | h
        · omega
        · exact decF_nonneg f _ r h
theorem mpo_nonneg {r : Int} (h : 0 ≤ r) (hk : mpk r = true) : 0 ≤ mpo r := by
  have hl : lost r = false := by unfold mpk at hk; simpa using hk
  rw [mpo_of hl]; rcases wide_cases r with ⟨hw, ew⟩ | ⟨hw, ew⟩ <;> rw [ew] <;>
    rcases small_cases (wide r) with ⟨hs, es⟩ | ⟨hs, es⟩ | ⟨hs, es⟩ | ⟨hs, es⟩ | ⟨hs, es⟩ <;> rw [ew] at hs es <;> rw [es] <;> omega
theorem txt_nonneg : ∀ (l : List Int), (∀ r ∈ l, 0 ≤ r) → ∀ r ∈ txt l, 0 ≤ r
  | [], _, r, h => by cases h
  | x :: l, hl, r, h => by
    rw [txt] at h
    split at h
    · rename_i hk; rcases List.mem_cons.1 h with rfl | h
      · exact mpo_nonneg (hl x (List.mem_cons_self ..)) hk
      · exact txt_nonneg l (fun y hy => hl y (List.mem_cons_of_mem _ hy)) r h
    · exact txt_nonneg l (fun y hy => hl y (List.mem_cons_of_mem _ hy)) r h
theorem nam_stays {b s : List UInt8} (h : nam b = some s) : nam s = some s ∧ (∀ x ∈ s, 33 ≤ x.toNat ∧ x.toNat ≤ 126 ∧ ¬ (65 ≤ x.toNat ∧ x.toNat ≤ 90)) ∧ s.length ≤ 254 := by
  unfold nam at h
  split at h
  · cases hl : labs true (rows (txt (dec b))) with
    | none => rw [hl] at h; cases h
    | some ls =>
      rw [hl] at h; simp only [Option.bind_some] at h
      split at h
      · rename_i ho; simp only [Option.some.injEq] at h; subst h; have hfix : ∀ row ∈ rows (txt (dec b)), ∀ r ∈ row, 0 ≤ r ∧ mpk r = true ∧ mpo r = r ∧ r ≠ 46 := fun row hrow r hr => by
          obtain ⟨m1, m2⟩ := rows_mem _ row hrow r hr; obtain ⟨f1, f2⟩ := txt_fixed m1; exact ⟨txt_nonneg _ (decF_nonneg _ _) r m1, f1, f2, m2⟩
        obtain ⟨i1, i2, i3⟩ := labs_stays _ true ls hfix hl; have hne : ls ≠ [] := fun e => by
          rw [e] at i3; exact rows_ne _ (List.eq_nil_of_length_eq_zero i3.symm)
        have hby : ∀ x ∈ joinD ls, x.toNat ≤ 127 ∧ ¬ (65 ≤ x.toNat ∧ x.toNat ≤ 90) := fun x hx => by
          rcases joinD_mem ls x hx with rfl | ⟨t, ht, hx⟩
          · decide
          · exact ⟨(i2 t ht x hx).1, (i2 t ht x hx).2.1⟩
        have hd : dec (joinD ls) = asI (joinD ls) := dec_ascii _ fun x hx => (hby x hx).1; have ht : txt (asI (joinD ls)) = asI (joinD ls) := txt_of_fixed fun r hr => by
          obtain ⟨x, hx, rfl⟩ := List.mem_map.1 hr; exact small_fixed ⟨x.toNat, by have := (hby x hx).1; omega⟩ (hby x hx).2
        have hr := rows_join ls hne fun t ht x hx => (i2 t ht x hx).2.2; have ho2 := ho; unfold outOk at ho2; simp only [Bool.and_eq_true, decide_eq_true_eq] at ho2; obtain ⟨o1, o2⟩ := ho2; have hlen : (joinD ls).length ≤ 254 := by
          split at o2 <;> omega
        refine ⟨?_, fun x hx => ?_, hlen⟩
        · have hno : ¬ (65533 : Int) ∈ asI (joinD ls) := fun hm => by
            obtain ⟨x, hx, e⟩ := List.mem_map.1 hm; have := (hby x hx).1; omega
          unfold nam; rw [hd, ht, if_pos ⟨by omega, hno⟩, hr, i1]; show (if outOk (joinD ls) = true then some (joinD ls) else none) = _; rw [if_pos ho]
        · have := List.all_eq_true.1 o1 x hx; unfold badB at this; simp at this; have h2 := hby x hx; exact ⟨by omega, by omega, h2.2⟩
      · cases h
  · cases h
end Go.Proofs.YtenlampiiodkhaaGreatDoor
namespace Go.Proofs.YtenlampiiodkhaaGreatDoor
set_option linter.unusedVariables false
open Go.RowKit
theorem rows_app2 : ∀ (a b : List Int), rows (a ++ 46 :: b) = rows a ++ rows b
  | [], b => by
    show rows (46 :: b) = [] :: rows b; rw [rows, if_pos rfl]
  | x :: a, b => by
    rw [List.cons_append, rows, rows, rows_app2 a b]
    split
    · rfl
    · cases h : rows a with
      | nil => exact absurd h (rows_ne a)
      | cons y t => rfl
theorem joinD_app : ∀ (a b : List (List UInt8)), a ≠ [] → b ≠ [] → joinD (a ++ b) = joinD a ++ 46 :: joinD b
  | [], b, h, _ => absurd rfl h
  | [s], b, _, hb => by
    cases b with
    | nil => exact absurd rfl hb
    | cons y t => rfl
  | s :: s' :: t, b, _, hb => by
    have ih := joinD_app (s' :: t) b (by simp) hb; rw [List.cons_append] at ih; rw [List.cons_append, List.cons_append]; show s ++ 46 :: joinD (s' :: (t ++ b)) = s ++ 46 :: joinD (s' :: t) ++ 46 :: joinD b; rw [ih, List.append_assoc, List.cons_append]
theorem vldF_of : ∀ (f : Nat) (bs : List UInt8), ¬ (65533 : Int) ∈ decF f bs → vldF f bs = true
  | 0, bs, _ => rfl
  | f + 1, bs, h => by
    rw [decF] at h; rw [vldF]
    split
    · rfl
    · rename_i hb; rw [if_neg hb] at h
      cases ha : at1 bs with
      | none =>
        rw [ha] at h; exact absurd (List.mem_cons_self ..) h
      | some p =>
        obtain ⟨r, n⟩ := p; rw [ha] at h; simp only at h ⊢; exact vldF_of f _ fun hm => h (List.mem_cons_of_mem _ hm)
theorem txt_keeps : ∀ (l : List Int) (r : Int), r ∈ l → mpk r = true → mpo r ∈ txt l
  | [], r, h, _ => by cases h
  | x :: l, r, h, hk => by
    rw [txt]; rcases List.mem_cons.1 h with rfl | h
    · rw [if_pos hk]; exact List.mem_cons_self ..
    · split
      · exact List.mem_cons_of_mem _ (txt_keeps l r h hk)
      · exact txt_keeps l r h hk
theorem fffd_keeps : mpk 65533 = true ∧ mpo 65533 = 65533 := by decide +kernel
theorem dot_keeps : mpk 46 = true ∧ mpo 46 = 46 := by decide +kernel
theorem dec_dot (a b : List UInt8) (h : ¬ (65533 : Int) ∈ txt (dec a)) : txt (dec (a ++ 46 :: b)) = txt (dec a) ++ 46 :: txt (dec b) := by
  have hv : vld a = true := vldF_of _ _ fun hm => h (by have := txt_keeps (dec a) 65533 hm fffd_keeps.1; rwa [fffd_keeps.2] at this); have e := dec_one 46 b; have e1 : one 46 = [46] := (one_ascii 46).1; have e2 : fix 46 = 46 := (one_ascii 46).2; rw [e1, e2, List.singleton_append] at e; rw [dec_append a _ hv, e, txt_app, txt, if_pos dot_keeps.1, dot_keeps.2]
def full (ls : List (List UInt8)) : Prop := ∀ s ∈ ls, s ≠ []
theorem labs_weak : ∀ (rs : List (List Int)) (ls : List (List UInt8)), labs true rs = some ls → labs false rs = some ls
  | [], ls, h => h
  | r :: rs, ls, h => by
    rw [labs] at h ⊢
    cases hl : labOf r with
    | none => rw [hl] at h; cases h
    | some s =>
      rw [hl] at h; simp only at h ⊢
      split at h
      · rename_i hc; have hs : s ≠ [] := by
          rcases hc.2 with h3 | h3
          · exact h3
          · exact absurd h3.2 (by simp)
        rw [if_pos ⟨hc.1, .inl hs⟩]; exact h
      · cases h
theorem labs_app : ∀ (r1 r2 : List (List Int)) (first : Bool) (l1 l2 : List (List UInt8)), labs first r1 = some l1 → full l1 → r1 ≠ [] → labs false r2 = some l2 → labs first (r1 ++ r2) = some (l1 ++ l2)
  | [], r2, first, l1, l2, _, _, hn, _ => absurd rfl hn
  | r :: r1, r2, first, l1, l2, h, hf, _, h2 => by
    rw [labs] at h; rw [List.cons_append, labs]
    cases hl : labOf r with
    | none => rw [hl] at h; cases h
    | some s =>
      rw [hl] at h; simp only at h ⊢
      split at h
      · rename_i hc
        cases ht : labs false r1 with
        | none => rw [ht] at h; cases h
        | some l1' =>
          rw [ht] at h; simp only [Option.map_some, Option.some.injEq] at h; subst h; rw [if_pos ⟨hc.1, .inl (hf s (List.mem_cons_self ..))⟩]
          cases r1 with
          | nil =>
            simp [labs] at ht; subst ht; rw [List.nil_append, h2]; rfl
          | cons x r1 =>
            rw [labs_app (x :: r1) r2 false l1' l2 ht (fun y hy => hf y (List.mem_cons_of_mem _ hy)) (by simp) h2]; rfl
      · cases h
theorem labs_full : ∀ (rs : List (List Int)) (first : Bool) (ls : List (List UInt8)), labs first rs = some ls → (joinD ls).getLast? ≠ some 46 → joinD ls ≠ [] → full ls
  | [], first, ls, h, _, hn => by
    simp [labs] at h; subst h; exact absurd rfl hn
  | r :: rs, first, ls, h, hg, hn => by
    rw [labs] at h
    cases hl : labOf r with
    | none => rw [hl] at h; cases h
    | some s =>
      rw [hl] at h; simp only at h
      split at h
      · rename_i hc
        cases ht : labs false rs with
        | none => rw [ht] at h; cases h
        | some ls' =>
          rw [ht] at h; simp only [Option.map_some, Option.some.injEq] at h; subst h
          cases ls' with
          | nil =>
            intro x hx; rw [List.mem_singleton] at hx; subst hx; exact hn
          | cons y t =>
            have hrs : rs ≠ [] := fun e => by
              rw [e] at ht; simp [labs] at ht
            rw [show joinD (s :: y :: t) = s ++ 46 :: joinD (y :: t) from rfl] at hg; have hne : joinD (y :: t) ≠ [] := fun e => by
              rw [e] at hg; simp at hg
            have hg2 : (joinD (y :: t)).getLast? ≠ some 46 := fun e => by
              apply hg; rw [List.getLast?_append, List.getLast?_cons, e]; rfl
            intro x hx; rcases List.mem_cons.1 hx with rfl | hx
            · rcases hc.2 with h3 | h3
              · exact h3
              · exact absurd h3.1 hrs
            · exact labs_full rs false (y :: t) ht hg2 hne x hx
      · cases h
theorem labs_each : ∀ (rs : List (List Int)) (first : Bool) (ls : List (List UInt8)), (∀ row ∈ rs, ∀ r ∈ row, 0 ≤ r ∧ mpk r = true ∧ mpo r = r ∧ r ≠ 46) → labs first rs = some ls → ∀ s ∈ ls, s.length ≤ 63 ∧ labOf (asI s) = some s
  | [], first, ls, _, h, s, hs => by
    simp [labs] at h; subst h
    cases hs
  | r :: rs, first, ls, hr, h, s, hs => by
    rw [labs] at h
    cases hl : labOf r with
    | none => rw [hl] at h; cases h
    | some x =>
      rw [hl] at h; simp only at h
      split at h
      · rename_i hc
        cases ht : labs false rs with
        | none => rw [ht] at h; cases h
        | some ls' =>
          rw [ht] at h; simp only [Option.map_some, Option.some.injEq] at h; subst h; rcases List.mem_cons.1 hs with rfl | hs
          · exact ⟨hc.1, (lab_stays (hr r (List.mem_cons_self ..)) hl hc.1).1⟩
          · exact labs_each rs false ls' (fun y hy => hr y (List.mem_cons_of_mem _ hy)) ht s hs
      · cases h
structure Name (a x : List UInt8) (ls : List (List UInt8)) : Prop where
  len : a.length ≤ 400
  no : ¬ (65533 : Int) ∈ txt (dec a)
  lab : labs true (rows (txt (dec a))) = some ls
  out : x = joinD ls
  ok : outOk x = true
  ne : ls ≠ []
  each : ∀ s ∈ ls, s.length ≤ 63 ∧ labOf (asI s) = some s ∧ ∀ b ∈ s, nameB b
theorem nam_inv {a x : List UInt8} (h : nam a = some x) : ∃ ls, Name a x ls := by
  unfold nam at h
  split at h
  · rename_i hc
    cases hl : labs true (rows (txt (dec a))) with
    | none => rw [hl] at h; cases h
    | some ls =>
      rw [hl] at h; simp only [Option.bind_some] at h
      split at h
      · rename_i ho; simp only [Option.some.injEq] at h; have hfix : ∀ row ∈ rows (txt (dec a)), ∀ r ∈ row, 0 ≤ r ∧ mpk r = true ∧ mpo r = r ∧ r ≠ 46 := fun row hrow r hr => by
          obtain ⟨m1, m2⟩ := rows_mem _ row hrow r hr; obtain ⟨f1, f2⟩ := txt_fixed m1; exact ⟨txt_nonneg _ (decF_nonneg _ _) r m1, f1, f2, m2⟩
        obtain ⟨i1, i2, i3⟩ := labs_stays _ true ls hfix hl; refine ⟨ls, hc.1, hc.2, hl, h.symm, by rw [← h]; exact ho, fun e => ?_, fun s hs => ⟨(labs_each _ true ls hfix hl s hs).1, (labs_each _ true ls hfix hl s hs).2, i2 s hs⟩⟩; rw [e] at i3; exact rows_ne _ (List.eq_nil_of_length_eq_zero i3.symm)
      · cases h
  · cases h
theorem nam_parts {a b x y : List UInt8} (ha : nam a = some x) (hb : nam b = some y) (hx : x ≠ []) (hd : x.getLast? ≠ some 46) (hl : a.length + b.length < 400) (hs : x.length + y.length ≤ 250) : nam (a ++ 46 :: b) = some (x ++ 46 :: y) := by
  obtain ⟨l1, A⟩ := nam_inv ha; obtain ⟨l2, B⟩ := nam_inv hb; have hf : full l1 := labs_full _ true l1 A.lab (by rw [← A.out]; exact hd) (by rw [← A.out]; exact hx); have ht := dec_dot a b A.no; have hlab := labs_app _ _ true l1 l2 A.lab hf (rows_ne _) (labs_weak _ _ B.lab); have hno : ¬ (65533 : Int) ∈ txt (dec (a ++ 46 :: b)) := fun hm => by
    rw [ht] at hm; rcases List.mem_append.1 hm with hm | hm
    · exact A.no hm
    · rcases List.mem_cons.1 hm with hm | hm
      · omega
      · exact B.no hm
  have ho : outOk (joinD (l1 ++ l2)) = true := by
    rw [joinD_app l1 l2 A.ne B.ne, ← A.out, ← B.out]; have o1 := A.ok; have o2 := B.ok; unfold outOk at o1 o2 ⊢; simp only [Bool.and_eq_true, decide_eq_true_eq] at o1 o2 ⊢; refine ⟨?_, ?_⟩
    · rw [List.all_append, List.all_cons, o1.1, o2.1]; decide
    · rw [List.length_append, List.length_cons]
      split <;> omega
  unfold nam; rw [if_pos ⟨by rw [List.length_append, List.length_cons]; omega, hno⟩, ht, rows_app2, hlab]; show (if outOk (joinD (l1 ++ l2)) = true then some (joinD (l1 ++ l2)) else none) = _; rw [if_pos ho, joinD_app l1 l2 A.ne B.ne, ← A.out, ← B.out]
end Go.Proofs.YtenlampiiodkhaaGreatDoor
