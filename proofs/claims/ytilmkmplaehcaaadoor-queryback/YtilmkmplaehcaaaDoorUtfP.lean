/-
  Plain facts on code points and their bytes: how many, which; which code point stands at the front of bytes; what is encoded is decoded. Nothing is proved of the program here.
-/
namespace Go.Proofs.YtilmkmplaehcaaaDoor

/-- How many bytes a code point has; 0: it is none. -/
def ush (r : Int) : Nat :=
  if r < 0 ∨ 1114111 < r ∨ (55296 ≤ r ∧ r ≤ 57343) then 0 else if r < 128 then 1 else if r < 2048 then 2 else if r < 65536 then 3 else 4

/-- So many bytes of a number. -/
def raw : Nat → Nat → List UInt8
  | 1, x => [UInt8.ofNat x]
  | 2, x => [UInt8.ofNat (192 + x / 64), UInt8.ofNat (128 + x % 64)]
  | 3, x => [UInt8.ofNat (224 + x / 4096), UInt8.ofNat (128 + x / 64 % 64), UInt8.ofNat (128 + x % 64)]
  | _, x => [UInt8.ofNat (240 + x / 262144), UInt8.ofNat (128 + x / 4096 % 64), UInt8.ofNat (128 + x / 64 % 64), UInt8.ofNat (128 + x % 64)]

/-- A code point's bytes; of a number that is none those of U+FFFD. -/
def one (r : Int) : List UInt8 := if ush r = 0 then raw 3 65533 else raw (ush r) r.toNat

def enc (rs : List Int) : List UInt8 := rs.flatMap one

/-- The number that so many bytes at the front would be. -/
def cand (bs : List UInt8) : Nat → Nat
  | 1 => (bs.getD 0 0).toNat
  | 2 => (bs.getD 0 0).toNat % 32 * 64 + (bs.getD 1 0).toNat % 64
  | 3 => ((bs.getD 0 0).toNat % 16 * 64 + (bs.getD 1 0).toNat % 64) * 64 + (bs.getD 2 0).toNat % 64
  | _ => (((bs.getD 0 0).toNat % 8 * 64 + (bs.getD 1 0).toNat % 64) * 64 + (bs.getD 2 0).toNat % 64) * 64 + (bs.getD 3 0).toNat % 64

/-- Do so many bytes at the front make a code point? -/
def okAt (bs : List UInt8) (n : Nat) : Bool := decide (n ≤ bs.length) && decide (ush (cand bs n) = n) && (one (cand bs n) == bs.take n)

/-- Which code point stands at the front, and how many bytes it has. -/
def at1 (bs : List UInt8) : Option (Nat × Nat) :=
  if okAt bs 1 then some (cand bs 1, 1) else if okAt bs 2 then some (cand bs 2, 2) else if okAt bs 3 then some (cand bs 3, 3) else if okAt bs 4 then some (cand bs 4, 4) else none

theorem sh_le (r : Int) : ush r ≤ 4 := by
  unfold ush
  repeat' split
  all_goals omega

theorem raw_len (n x : Nat) (h1 : 1 ≤ n) (h4 : n ≤ 4) : (raw n x).length = n := by
  match n, h1, h4 with
  | 1, _, _ => rfl
  | 2, _, _ => rfl
  | 3, _, _ => rfl
  | 4, _, _ => rfl

theorem sh_bound {r : Int} {n : Nat} (h : ush r = n) (hn : n ≠ 0) : 0 ≤ r ∧ r ≤ 1114111 ∧ ¬ (55296 ≤ r ∧ r ≤ 57343) ∧ (n = 1 → r < 128) ∧ (n = 2 → 128 ≤ r ∧ r < 2048) ∧ (n = 3 → 2048 ≤ r ∧ r < 65536) ∧ (n = 4 → 65536 ≤ r) ∧ n ≤ 4 := by
  unfold ush at h
  repeat' split at h
  all_goals omega

theorem one_len (r : Int) : 1 ≤ (one r).length ∧ (one r).length ≤ 4 := by
  unfold one
  split
  · decide
  · rw [raw_len _ _ (by omega) (sh_le r)]
    exact ⟨by omega, sh_le r⟩

theorem one_ok {r : Int} (h : ush r ≠ 0) : one r = raw (ush r) r.toNat := by unfold one; rw [if_neg h]

theorem toNat_ofNat (x : Nat) (h : x < 256) : (UInt8.ofNat x).toNat = x := by
  rw [UInt8.toNat_ofNat']
  exact Nat.mod_eq_of_lt h

/-- A code point's bytes, with whatever behind them, make it. -/
theorem cand_one {r : Int} (h : ush r ≠ 0) (t : List UInt8) : cand (one r ++ t) (ush r) = r.toNat := by
  rw [one_ok h]
  obtain ⟨h0, hm, hs, b1, b2, b3, b4, h4⟩ := sh_bound (r := r) rfl h
  obtain ⟨x, rfl⟩ := Int.eq_ofNat_of_zero_le h0
  simp only [Int.toNat_natCast]
  generalize ush (x : Int) = n at *
  match n, h, h4 with
  | 1, _, _ =>
    have := b1 rfl
    simp [raw, cand]
    omega
  | 2, _, _ =>
    have := b2 rfl
    simp only [raw, cand, List.cons_append, List.nil_append, List.getD_cons_zero, List.getD_cons_succ]
    rw [toNat_ofNat _ (by omega), toNat_ofNat _ (by omega)]
    omega
  | 3, _, _ =>
    have := b3 rfl
    simp only [raw, cand, List.cons_append, List.nil_append, List.getD_cons_zero, List.getD_cons_succ]
    rw [toNat_ofNat _ (by omega), toNat_ofNat _ (by omega), toNat_ofNat _ (by omega)]
    omega
  | 4, _, _ =>
    have := b4 rfl
    simp only [raw, cand, List.cons_append, List.nil_append, List.getD_cons_zero, List.getD_cons_succ]
    rw [toNat_ofNat _ (by omega), toNat_ofNat _ (by omega), toNat_ofNat _ (by omega), toNat_ofNat _ (by omega)]
    omega

theorem one_length {r : Int} (h : ush r ≠ 0) : (one r).length = ush r := by rw [one_ok h, raw_len _ _ (by omega) (sh_le r)]

theorem okAt_one {r : Int} (h : ush r ≠ 0) (t : List UInt8) : okAt (one r ++ t) (ush r) = true := by
  obtain ⟨h0, _⟩ := sh_bound (r := r) rfl h
  unfold okAt
  rw [cand_one h t]
  have e : ((r.toNat : Nat) : Int) = r := Int.toNat_of_nonneg h0
  have hl := one_length h
  rw [e]
  simp [hl]

theorem okAt_spec {bs : List UInt8} {n : Nat} (h : okAt bs n = true) : n ≤ bs.length ∧ ush (cand bs n) = n ∧ one (cand bs n) = bs.take n := by
  unfold okAt at h
  simp only [Bool.and_eq_true, decide_eq_true_eq, beq_iff_eq] at h
  exact ⟨h.1.1, h.1.2, h.2⟩

/-- The first byte tells how many there are: no two lengths serve. -/
theorem okAt_first {bs : List UInt8} {n : Nat} (h : okAt bs n = true) (hn : n ≠ 0) :
    (n = 1 → (bs.getD 0 0).toNat < 128) ∧ (n = 2 → 192 ≤ (bs.getD 0 0).toNat ∧ (bs.getD 0 0).toNat < 224) ∧ (n = 3 → 224 ≤ (bs.getD 0 0).toNat ∧ (bs.getD 0 0).toNat < 240) ∧ (n = 4 → 240 ≤ (bs.getD 0 0).toNat) := by
  obtain ⟨h1, h2, h3⟩ := okAt_spec h
  obtain ⟨_, hm, _, b1, b2, b3, b4, h4⟩ := sh_bound h2 hn
  have hne : ush (cand bs n) ≠ 0 := by omega
  rw [one_ok hne, h2] at h3
  simp only [Int.toNat_natCast] at h3
  have hd : (bs.take n).getD 0 0 = bs.getD 0 0 := by
    simp [List.getD, show 0 < n by omega]
  have e := congrArg (fun l : List UInt8 => (l.getD 0 0).toNat) h3
  simp only [hd] at e
  refine ⟨fun e1 => ?_, fun e1 => ?_, fun e1 => ?_, fun e1 => ?_⟩
  · subst e1
    have := b1 rfl
    simp only [raw, List.getD_cons_zero] at e
    rw [toNat_ofNat _ (by omega)] at e
    omega
  · subst e1
    have := b2 rfl
    simp only [raw, List.getD_cons_zero] at e
    rw [toNat_ofNat _ (by omega)] at e
    omega
  · subst e1
    have := b3 rfl
    simp only [raw, List.getD_cons_zero] at e
    rw [toNat_ofNat _ (by omega)] at e
    omega
  · subst e1
    have := b4 rfl
    simp only [raw, List.getD_cons_zero] at e
    rw [toNat_ofNat _ (by omega)] at e
    omega

theorem okAt_zero (bs : List UInt8) (n : Nat) (h : okAt bs n = true) : n ≠ 0 := by
  intro e
  subst e
  obtain ⟨_, h2, h3⟩ := okAt_spec h
  have := one_len (cand bs 0)
  rw [h3] at this
  simp at this

theorem okAt_le (bs : List UInt8) (n : Nat) (h : okAt bs n = true) : n ≤ 4 := by
  obtain ⟨_, h2, _⟩ := okAt_spec h
  have := sh_le (cand bs n)
  omega

/-- What stands at the front is the one length that serves. -/
theorem at1_some {bs : List UInt8} {n : Nat} (h : okAt bs n = true) : at1 bs = some (cand bs n, n) := by
  have hn := okAt_zero bs n h
  have h4 := okAt_le bs n h
  obtain ⟨f1, f2, f3, f4⟩ := okAt_first h hn
  have no : ∀ m, m ≠ n → okAt bs m = false := by
    intro m hm
    cases hb : okAt bs m with
    | false => rfl
    | true =>
      exfalso
      have hm0 := okAt_zero bs m hb
      have hm4 := okAt_le bs m hb
      obtain ⟨g1, g2, g3, g4⟩ := okAt_first hb hm0
      have : (bs.getD 0 0).toNat < 256 := (bs.getD 0 0).toNat_lt
      have c1 : n = 1 ∨ n = 2 ∨ n = 3 ∨ n = 4 := by omega
      have c2 : m = 1 ∨ m = 2 ∨ m = 3 ∨ m = 4 := by omega
      rcases c1 with rfl | rfl | rfl | rfl <;> rcases c2 with rfl | rfl | rfl | rfl <;> simp at f1 f2 f3 f4 g1 g2 g3 g4 hm <;> omega
  unfold at1
  have c1 : n = 1 ∨ n = 2 ∨ n = 3 ∨ n = 4 := by omega
  rcases c1 with rfl | rfl | rfl | rfl
  · rw [h]; rfl
  · rw [no 1 (by decide), h]; rfl
  · rw [no 1 (by decide), no 2 (by decide), h]; rfl
  · rw [no 1 (by decide), no 2 (by decide), no 3 (by decide), h]; rfl

theorem at1_none {bs : List UInt8} (h : ∀ n, okAt bs n = false) : at1 bs = none := by
  unfold at1
  rw [h 1, h 2, h 3, h 4]
  rfl

theorem at1_one {r : Int} (h : ush r ≠ 0) (t : List UInt8) : at1 (one r ++ t) = some (r.toNat, ush r) := by
  rw [at1_some (okAt_one h t), cand_one h t]

theorem at1_len {bs : List UInt8} {r n : Nat} (h : at1 bs = some (r, n)) : okAt bs n = true ∧ r = cand bs n ∧ 1 ≤ n ∧ n ≤ 4 ∧ n ≤ bs.length ∧ ush r = n ∧ one r = bs.take n := by
  have key : okAt bs n = true ∧ r = cand bs n := by
    unfold at1 at h
    repeat' split at h
    all_goals simp at h
    all_goals (obtain ⟨rfl, rfl⟩ := h; exact ⟨by assumption, rfl⟩)
  obtain ⟨h1, rfl⟩ := key
  have h0 := okAt_zero bs n h1
  obtain ⟨s1, s2, s3⟩ := okAt_spec h1
  exact ⟨h1, rfl, by omega, okAt_le bs n h1, s1, s2, s3⟩

/-- From the front on: the code points; where none stands one byte is U+FFFD. -/
def decF : Nat → List UInt8 → List Int
  | 0, _ => []
  | f + 1, bs =>
    if bs = [] then [] else
    match at1 bs with
    | some (r, n) => (r : Int) :: decF f (bs.drop n)
    | none => 65533 :: decF f (bs.drop 1)

def dec (bs : List UInt8) : List Int := decF bs.length bs

def vldF : Nat → List UInt8 → Bool
  | 0, _ => true
  | f + 1, bs =>
    if bs = [] then true else
    match at1 bs with
    | some (_, n) => vldF f (bs.drop n)
    | none => false

def vld (bs : List UInt8) : Bool := vldF bs.length bs

theorem decF_enough (f g : Nat) (bs : List UInt8) (hf : bs.length ≤ f) (hg : bs.length ≤ g) : decF f bs = decF g bs := by
  induction f generalizing g bs with
  | zero =>
    have e : bs = [] := List.eq_nil_of_length_eq_zero (by omega)
    subst e
    cases g <;> simp [decF]
  | succ f ih =>
    cases g with
    | zero =>
      have e : bs = [] := List.eq_nil_of_length_eq_zero (by omega)
      subst e
      simp [decF]
    | succ g =>
      simp only [decF]
      by_cases hb : bs = []
      · rw [if_pos hb, if_pos hb]
      · rw [if_neg hb, if_neg hb]
        have hpos : 0 < bs.length := List.length_pos_iff.2 hb
        cases ha : at1 bs with
        | none =>
          simp only
          rw [ih g (bs.drop 1) (by simp; omega) (by simp; omega)]
        | some p =>
          obtain ⟨r, n⟩ := p
          obtain ⟨_, _, h1, _⟩ := at1_len ha
          simp only
          rw [ih g (bs.drop n) (by simp; omega) (by simp; omega)]

theorem vldF_enough (f g : Nat) (bs : List UInt8) (hf : bs.length ≤ f) (hg : bs.length ≤ g) : vldF f bs = vldF g bs := by
  induction f generalizing g bs with
  | zero =>
    have e : bs = [] := List.eq_nil_of_length_eq_zero (by omega)
    subst e
    cases g <;> simp [vldF]
  | succ f ih =>
    cases g with
    | zero =>
      have e : bs = [] := List.eq_nil_of_length_eq_zero (by omega)
      subst e
      simp [vldF]
    | succ g =>
      simp only [vldF]
      by_cases hb : bs = []
      · rw [if_pos hb, if_pos hb]
      · rw [if_neg hb, if_neg hb]
        have hpos : 0 < bs.length := List.length_pos_iff.2 hb
        cases ha : at1 bs with
        | none => rfl
        | some p =>
          obtain ⟨r, n⟩ := p
          obtain ⟨_, _, h1, _⟩ := at1_len ha
          simp only
          rw [ih g (bs.drop n) (by simp; omega) (by simp; omega)]

theorem dec_nil : dec [] = [] := rfl
theorem vld_nil : vld [] = true := rfl

theorem dec_some {bs : List UInt8} {r n : Nat} (h : at1 bs = some (r, n)) : dec bs = (r : Int) :: dec (bs.drop n) := by
  obtain ⟨_, _, h1, _, hl, _⟩ := at1_len h
  unfold dec
  obtain ⟨m, hm⟩ : ∃ m, bs.length = m + 1 := ⟨bs.length - 1, by omega⟩
  rw [hm]
  simp only [decF]
  rw [if_neg (by intro e; rw [e] at hm; simp at hm), h]
  simp only
  rw [decF_enough m (bs.drop n).length (bs.drop n) (by simp; omega) (Nat.le_refl _)]

theorem dec_none {bs : List UInt8} (h : at1 bs = none) (hb : bs ≠ []) : dec bs = 65533 :: dec (bs.drop 1) := by
  have hpos : 0 < bs.length := List.length_pos_iff.2 hb
  unfold dec
  obtain ⟨m, hm⟩ : ∃ m, bs.length = m + 1 := ⟨bs.length - 1, by omega⟩
  rw [hm]
  simp only [decF]
  rw [if_neg hb, h]
  simp only
  rw [decF_enough m (bs.drop 1).length (bs.drop 1) (by simp; omega) (Nat.le_refl _)]

theorem vld_some {bs : List UInt8} {r n : Nat} (h : at1 bs = some (r, n)) : vld bs = vld (bs.drop n) := by
  obtain ⟨_, _, h1, _, hl, _⟩ := at1_len h
  unfold vld
  obtain ⟨m, hm⟩ : ∃ m, bs.length = m + 1 := ⟨bs.length - 1, by omega⟩
  rw [hm]
  simp only [vldF]
  rw [if_neg (by intro e; rw [e] at hm; simp at hm), h]
  simp only
  rw [vldF_enough m (bs.drop n).length (bs.drop n) (by simp; omega) (Nat.le_refl _)]

theorem vld_none {bs : List UInt8} (h : at1 bs = none) (hb : bs ≠ []) : vld bs = false := by
  have hpos : 0 < bs.length := List.length_pos_iff.2 hb
  unfold vld
  obtain ⟨m, hm⟩ : ∃ m, bs.length = m + 1 := ⟨bs.length - 1, by omega⟩
  rw [hm]
  simp only [vldF]
  rw [if_neg hb, h]

/-- A number, or U+FFFD where it is no code point. -/
def fix (r : Int) : Int := if ush r = 0 then 65533 else r

theorem sh_fix (r : Int) : ush (fix r) ≠ 0 := by
  unfold fix
  split
  · decide
  · assumption

theorem one_fix (r : Int) : one (fix r) = one r := by
  by_cases h : ush r = 0
  · have e : fix r = 65533 := by unfold fix; rw [if_pos h]
    rw [e]
    unfold one
    rw [if_pos h]
    rfl
  · have e : fix r = r := by unfold fix; rw [if_neg h]
    rw [e]

theorem dec_one (r : Int) (t : List UInt8) : dec (one r ++ t) = fix r :: dec t := by
  have h := at1_one (sh_fix r) t
  rw [one_fix] at h
  rw [dec_some h]
  have hl : (one r).length = ush (fix r) := by rw [← one_fix, one_length (sh_fix r)]
  rw [← hl, List.drop_left]
  have : ((fix r).toNat : Int) = fix r := Int.toNat_of_nonneg (sh_bound rfl (sh_fix r)).1
  rw [this]

theorem vld_one (r : Int) (t : List UInt8) : vld (one r ++ t) = vld t := by
  have h := at1_one (sh_fix r) t
  rw [one_fix] at h
  rw [vld_some h]
  have hl : (one r).length = ush (fix r) := by rw [← one_fix, one_length (sh_fix r)]
  rw [← hl, List.drop_left]

/-- What is encoded is decoded. -/
theorem dec_enc (rs : List Int) : dec (enc rs) = rs.map fix := by
  induction rs with
  | nil => rfl
  | cons r t ih =>
    have e : enc (r :: t) = one r ++ enc t := by simp [enc]
    rw [e, dec_one, ih]
    rfl

theorem vld_enc (rs : List Int) : vld (enc rs) = true := by
  induction rs with
  | nil => rfl
  | cons r t ih =>
    have e : enc (r :: t) = one r ++ enc t := by simp [enc]
    rw [e, vld_one, ih]

theorem enc_append (a b : List Int) : enc (a ++ b) = enc a ++ enc b := by simp [enc]

/-- Bytes are right just if their code points have them. -/
theorem vld_iff (bs : List UInt8) : vld bs = true ↔ enc (dec bs) = bs := by
  constructor
  · intro h
    have key : ∀ f (bs : List UInt8), bs.length ≤ f → vld bs = true → enc (dec bs) = bs := by
      intro f
      induction f with
      | zero =>
        intro bs hl _
        have e : bs = [] := List.eq_nil_of_length_eq_zero (by omega)
        subst e
        rfl
      | succ f ih =>
        intro bs hl h
        by_cases hb : bs = []
        · subst hb
          rfl
        · have hpos : 0 < bs.length := List.length_pos_iff.2 hb
          cases ha : at1 bs with
          | none => rw [vld_none ha hb] at h; cases h
          | some p =>
            obtain ⟨r, n⟩ := p
            obtain ⟨_, _, h1, _, _, _, ho⟩ := at1_len ha
            rw [vld_some ha] at h
            have := ih (bs.drop n) (by simp; omega) h
            rw [dec_some ha]
            have e : enc ((r : Int) :: dec (bs.drop n)) = one r ++ enc (dec (bs.drop n)) := by simp [enc]
            rw [e, this, ho, List.take_append_drop]
    exact key bs.length bs (Nat.le_refl _) h
  · intro h
    rw [← h]
    exact vld_enc _

/-- Right bytes side by side are their code points side by side. -/
theorem dec_append (a b : List UInt8) (h : vld a = true) : dec (a ++ b) = dec a ++ dec b := by
  have e := (vld_iff a).1 h
  have key : ∀ rs : List Int, dec (enc rs ++ b) = rs.map fix ++ dec b := by
    intro rs
    induction rs with
    | nil => rfl
    | cons r t ih =>
      have e : enc (r :: t) = one r ++ enc t := by simp [enc]
      rw [e, List.append_assoc, dec_one, ih]
      rfl
  have k := key (dec a)
  rw [e] at k
  rw [k]
  have d := dec_enc (dec a)
  rw [e] at d
  rw [← d]

theorem dec_len (bs : List UInt8) : (dec bs).length ≤ bs.length := by
  have key : ∀ f (bs : List UInt8), bs.length ≤ f → (dec bs).length ≤ bs.length := by
    intro f
    induction f with
    | zero =>
      intro bs hl
      have e : bs = [] := List.eq_nil_of_length_eq_zero (by omega)
      subst e
      simp [dec_nil]
    | succ f ih =>
      intro bs hl
      by_cases hb : bs = []
      · subst hb
        simp [dec_nil]
      · have hpos : 0 < bs.length := List.length_pos_iff.2 hb
        cases ha : at1 bs with
        | none =>
          rw [dec_none ha hb]
          have := ih (bs.drop 1) (by simp; omega)
          simp at this ⊢
          omega
        | some p =>
          obtain ⟨r, n⟩ := p
          obtain ⟨_, _, h1, _⟩ := at1_len ha
          rw [dec_some ha]
          have := ih (bs.drop n) (by simp; omega)
          simp at this ⊢
          omega
  exact key bs.length bs (Nat.le_refl _)

theorem enc_len (rs : List Int) : (enc rs).length ≤ 4 * rs.length := by
  induction rs with
  | nil => simp [enc]
  | cons r t ih =>
    have e : enc (r :: t) = one r ++ enc t := by simp [enc]
    rw [e]
    have := (one_len r).2
    simp
    omega
end Go.Proofs.YtilmkmplaehcaaaDoor
