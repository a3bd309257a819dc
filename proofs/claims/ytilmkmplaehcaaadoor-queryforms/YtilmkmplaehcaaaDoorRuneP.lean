/-
  Plain facts: the model's own decoding of a text is the one of UtfP. Nothing is proved of the program here.
-/
import Derived.Test.YtilmkmplaehcaaaDoorU8
import Derived.Laws.IdiomStrings
namespace Go.Proofs.YtilmkmplaehcaaaDoor
set_option linter.unusedVariables false

def take1 (rest : List UInt8) : Nat × Nat := match at1 rest with | some p => p | none => (65533, 1)

theorem list_get (rest : List UInt8) (k : Nat) (h : k < rest.length) : ∃ x t, rest.drop k = x :: t ∧ rest.getD k 0 = x :=
  ⟨rest[k], rest.drop (k + 1), List.drop_eq_getElem_cons h, by simp [List.getD, h]⟩

/-- The model's decoding at the front, of bytes as numbers. -/
def front (len : Nat) (g : Nat → Nat) : Nat × Nat :=
  if g 0 < 128 then (g 0, 1)
  else if g 0 / 32 = 6 ∧ 1 < len ∧ g 1 / 64 = 2 then (if 128 ≤ g 0 % 32 * 64 + g 1 % 64 then (g 0 % 32 * 64 + g 1 % 64, 2) else (65533, 1))
  else if g 0 / 16 = 14 ∧ (1 < len ∧ g 1 / 64 = 2) ∧ (2 < len ∧ g 2 / 64 = 2) then
    (if 2048 ≤ g 0 % 16 * 4096 + g 1 % 64 * 64 + g 2 % 64 ∧ Utf8.valid ((g 0 % 16 * 4096 + g 1 % 64 * 64 + g 2 % 64 : Nat) : Int) = true then (g 0 % 16 * 4096 + g 1 % 64 * 64 + g 2 % 64, 3) else (65533, 1))
  else if g 0 / 8 = 30 ∧ (1 < len ∧ g 1 / 64 = 2) ∧ (2 < len ∧ g 2 / 64 = 2) ∧ (3 < len ∧ g 3 / 64 = 2) then
    (if 65536 ≤ g 0 % 8 * 262144 + g 1 % 64 * 4096 + g 2 % 64 * 64 + g 3 % 64 ∧ Utf8.valid ((g 0 % 8 * 262144 + g 1 % 64 * 4096 + g 2 % 64 * 64 + g 3 % 64 : Nat) : Int) = true then (g 0 % 8 * 262144 + g 1 % 64 * 4096 + g 2 % 64 * 64 + g 3 % 64, 4) else (65533, 1))
  else (65533, 1)

theorem decode_front (bs : List UInt8) (i : Nat) (hi : i < bs.length) : Utf8.decode ⟨bs.toArray⟩ i = front (bs.drop i).length (fun k => ((bs.drop i).getD k 0).toNat) := by
  have g : ∀ k, (ByteArray.get! ⟨bs.toArray⟩ (i + k)).toNat = ((bs.drop i).getD k 0).toNat := by
    intro k
    simp [ByteArray.get!, List.getD]
    cases h : bs[i + k]? with
    | none => simp; rfl
    | some x => simp
  have hs : ∀ k, (i + k < (⟨bs.toArray⟩ : ByteArray).size) = (k < (bs.drop i).length) := by
    intro k
    simp [ByteArray.size]
    omega
  unfold Utf8.decode front
  simp only [g, hs, Bool.and_eq_true, decide_eq_true_eq, beq_iff_eq, Utf8.runeError, ge_iff_le]
  simp only [and_assoc]

theorem valid_sh (r : Nat) : Utf8.valid (r : Int) = true ↔ ush (r : Int) ≠ 0 := by
  unfold ush Utf8.valid
  simp only [Bool.or_eq_true, Bool.and_eq_true, decide_eq_true_eq]
  constructor
  · intro h
    rw [if_neg (by omega)]
    repeat' split
    all_goals omega
  · intro h
    by_cases c : (r : Int) < 0 ∨ 1114111 < (r : Int) ∨ (55296 ≤ (r : Int) ∧ (r : Int) ≤ 57343)
    · rw [if_pos c] at h; exact absurd rfl h
    · omega

theorem front_take1 (rest : List UInt8) (h : 0 < rest.length) : front rest.length (fun k => (rest.getD k 0).toNat) = take1 rest := by
  unfold take1
  have lt : ∀ k, (rest.getD k 0).toNat < 256 := fun k => UInt8.toNat_lt _
  have l0 := lt 0
  have l1 := lt 1
  have l2 := lt 2
  have l3 := lt 3
  cases ha : at1 rest with
  | some p =>
    obtain ⟨r, n⟩ := p
    obtain ⟨f1, f2, f3, f4, f5, f6, f7⟩ := at1_form ha
    obtain ⟨_, hm, _, b1, b2, b3, b4, h4⟩ := sh_bound f3 (by have := (at1_len ha).2.2.1; omega)
    have hn := (at1_len ha).2.2.1
    have hv : Utf8.valid (r : Int) = true := (valid_sh r).2 (by omega)
    have c : n = 1 ∨ n = 2 ∨ n = 3 ∨ n = 4 := by omega
    unfold front
    dsimp only
    rcases c with rfl | rfl | rfl | rfl
    · simp only [cand] at f4
      have := b1 rfl
      rw [if_pos (by omega), f4]
    · simp only [cand] at f4
      have := b2 rfl
      have q := f5 (by omega)
      unfold ld at f1
      rw [if_neg (by repeat' split at f1
                     all_goals omega), if_pos (by repeat' split at f1
                                                  all_goals omega), if_pos (by omega), f4]
    · simp only [cand] at f4
      have := b3 rfl
      have q := f5 (by omega)
      have q2 := f6 (by omega)
      have hb : 224 ≤ (rest.getD 0 0).toNat ∧ (rest.getD 0 0).toNat < 240 := by
        unfold ld at f1
        repeat' split at f1
        all_goals omega
      have e : (rest.getD 0 0).toNat % 16 * 4096 + (rest.getD 1 0).toNat % 64 * 64 + (rest.getD 2 0).toNat % 64 = r := by omega
      rw [if_neg (by omega), if_neg (by omega), if_pos (by omega), e, if_pos ⟨by omega, hv⟩]
    · simp only [cand] at f4
      have := b4 rfl
      have q := f5 (by omega)
      have q2 := f6 (by omega)
      have q3 := f7 (by omega)
      have hb : 240 ≤ (rest.getD 0 0).toNat ∧ (rest.getD 0 0).toNat < 248 := by
        unfold ld at f1
        repeat' split at f1
        all_goals omega
      have e : (rest.getD 0 0).toNat % 8 * 262144 + (rest.getD 1 0).toNat % 64 * 4096 + (rest.getD 2 0).toNat % 64 * 64 + (rest.getD 3 0).toNat % 64 = r := by omega
      rw [if_neg (by omega), if_neg (by omega), if_neg (by omega), if_pos (by omega), e, if_pos ⟨by omega, hv⟩]
  | none =>
    simp only
    match rest, h with
    | x0 :: t, _ =>
      simp only [List.getD_cons_zero] at *
      unfold front
      dsimp only
      simp only [List.getD_cons_zero]
      split
      · rename_i c
        rw [at1_ok1 x0 t c] at ha
        cases ha
      · split
        · rename_i c0 c
          match t with
          | [] => simp at c
          | x1 :: t =>
            simp only [List.getD_cons_succ, List.getD_cons_zero] at *
            split
            · rename_i c2
              have hs : ush ((x0.toNat % 32 * 64 + x1.toNat % 64 : Nat) : Int) = 2 := by
                unfold ush
                rw [if_neg (by omega), if_neg (by omega), if_pos (by omega)]
              rw [at1_ok2 x0 x1 t (by omega) c.2.2 _ rfl hs] at ha
              cases ha
            · rfl
        · split
          · rename_i c0 c1 c
            match t with
            | [] => simp at c
            | [x1] => simp at c
            | x1 :: x2 :: t =>
              simp only [List.getD_cons_succ, List.getD_cons_zero] at *
              split
              · rename_i c2
                obtain ⟨c2, c3⟩ := c2
                rw [valid_sh] at c3
                have hs : ush ((x0.toNat % 16 * 4096 + x1.toNat % 64 * 64 + x2.toNat % 64 : Nat) : Int) = 3 := by
                  unfold ush at c3 ⊢
                  by_cases d : (((x0.toNat % 16 * 4096 + x1.toNat % 64 * 64 + x2.toNat % 64 : Nat) : Int) < 0 ∨ 1114111 < ((x0.toNat % 16 * 4096 + x1.toNat % 64 * 64 + x2.toNat % 64 : Nat) : Int) ∨ (55296 ≤ ((x0.toNat % 16 * 4096 + x1.toNat % 64 * 64 + x2.toNat % 64 : Nat) : Int) ∧ ((x0.toNat % 16 * 4096 + x1.toNat % 64 * 64 + x2.toNat % 64 : Nat) : Int) ≤ 57343))
                  · rw [if_pos d] at c3; exact absurd rfl c3
                  · rw [if_neg d, if_neg (by omega), if_neg (by omega), if_pos (by omega)]
                rw [at1_ok3 x0 x1 x2 t (by omega) c.2.1.2 c.2.2.2 _ (by omega) hs] at ha
                cases ha
              · rfl
          · split
            · rename_i c0 c1 c1' c
              match t with
              | [] => simp at c
              | [x1] => simp at c
              | [x1, x2] => simp at c
              | x1 :: x2 :: x3 :: t =>
                simp only [List.getD_cons_succ, List.getD_cons_zero] at *
                split
                · rename_i c2
                  obtain ⟨c2, c3⟩ := c2
                  rw [valid_sh] at c3
                  have hs : ush ((x0.toNat % 8 * 262144 + x1.toNat % 64 * 4096 + x2.toNat % 64 * 64 + x3.toNat % 64 : Nat) : Int) = 4 := by
                    generalize (x0.toNat % 8 * 262144 + x1.toNat % 64 * 4096 + x2.toNat % 64 * 64 + x3.toNat % 64) = y at *
                    unfold ush at c3 ⊢
                    by_cases d : ((y : Int) < 0 ∨ 1114111 < (y : Int) ∨ (55296 ≤ (y : Int) ∧ (y : Int) ≤ 57343))
                    · rw [if_pos d] at c3; exact absurd rfl c3
                    · rw [if_neg d, if_neg (by omega), if_neg (by omega), if_neg (by omega)]
                  rw [at1_ok4 x0 x1 x2 x3 t (by omega) c.2.1.2 c.2.2.1.2 c.2.2.2.2 _ (by omega) hs] at ha
                  cases ha
                · rfl
            · rfl

theorem dec_take1 (rest : List UInt8) (h : 0 < rest.length) : dec rest = ((take1 rest).1 : Int) :: dec (rest.drop (take1 rest).2) ∧ 1 ≤ (take1 rest).2 ∧ (take1 rest).2 ≤ rest.length := by
  unfold take1
  cases ha : at1 rest with
  | none => exact ⟨dec_none ha (by intro e; rw [e] at h; simp at h), by simp, h⟩
  | some p =>
    obtain ⟨r, n⟩ := p
    obtain ⟨_, _, m1, _, m2, _⟩ := at1_len ha
    exact ⟨dec_some ha, m1, m2⟩

theorem runesFrom_dec (bs : List UInt8) (f i : Nat) (acc : Array Value) (hi : i ≤ bs.length) (hf : bs.length - i ≤ f) : Conv.runesFrom ⟨bs.toArray⟩ f i acc = acc ++ ((dec (bs.drop i)).map R).toArray := by
  induction f generalizing i acc with
  | zero =>
    have e : bs.drop i = [] := List.drop_eq_nil_of_le (by omega)
    rw [e]
    simp [Conv.runesFrom, dec_nil]
  | succ f ih =>
    unfold Conv.runesFrom
    by_cases h : i < bs.length
    · have hd := decode_front bs i h
      rw [front_take1 (bs.drop i) (by simp; omega)] at hd
      obtain ⟨h1, h2, h3⟩ := dec_take1 (bs.drop i) (by simp; omega)
      rw [if_pos (by simpa [ByteArray.size] using h), hd]
      simp only
      simp only [List.length_drop] at h3
      rw [ih _ _ (by omega) (by omega), h1, List.drop_drop]
      simp [R]
    · have e : bs.drop i = [] := List.drop_eq_nil_of_le (by omega)
      rw [if_neg (by simpa [ByteArray.size] using h), e]
      simp [dec_nil]

theorem runes_of (bs : List UInt8) : Conv.runesFrom ⟨bs.toArray⟩ (⟨bs.toArray⟩ : ByteArray).size 0 #[] = ((dec bs).map R).toArray := by
  rw [runesFrom_dec bs _ 0 #[] (by omega) (by simp [ByteArray.size])]
  simp
end Go.Proofs.YtilmkmplaehcaaaDoor
