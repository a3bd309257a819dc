/-
  Texts cut at a byte: plain facts, and what the library's Split, Count, LastIndex and TrimSuffix come to. Nothing is proved of the program here.
-/
import Derived.Test.YtilmkmplaehcaaaDoorStr
import Derived.Lib.SplitLaws
import Derived.Lib.IndexBytes
import Derived.Lib.LastIndexByte
namespace Go.Proofs.YtilmkmplaehcaaaDoor
set_option linter.unusedVariables false
open Go.RowKit

/-- What stands between the bytes c. -/
def pcs (c : UInt8) : List UInt8 → List (List UInt8)
  | [] => [[]]
  | x :: l => if x = c then [] :: pcs c l else match pcs c l with | [] => [[x]] | h :: t => (x :: h) :: t
theorem pcs_ne (c : UInt8) (l : List UInt8) : pcs c l ≠ [] := by
  cases l with
  | nil => simp [pcs]
  | cons r l =>
    rw [pcs]
    split
    · simp
    · split <;> simp
theorem pcs_app2 (c : UInt8) : ∀ (a b : List UInt8), pcs c (a ++ c :: b) = pcs c a ++ pcs c b
  | [], b => by
    show pcs c (c :: b) = [] :: pcs c b
    rw [pcs, if_pos rfl]
  | x :: a, b => by
    rw [List.cons_append, pcs, pcs, pcs_app2 c a b]
    split
    · rfl
    · cases h : pcs c a with
      | nil => exact absurd h (pcs_ne c a)
      | cons y t => rfl
theorem pcs_one (c : UInt8) (a : List UInt8) (ha : ∀ x ∈ a, x ≠ c) : pcs c a = [a] := by
  induction a with
  | nil => rfl
  | cons x a ih =>
    rw [pcs, if_neg (ha x (List.mem_cons_self ..)), ih fun r hr => ha r (List.mem_cons_of_mem _ hr)]
theorem pcs_app (c : UInt8) (a l : List UInt8) (ha : ∀ x ∈ a, x ≠ c) : pcs c (a ++ c :: l) = a :: pcs c l := by
  rw [pcs_app2, pcs_one c a ha]
  rfl
theorem pcs_mem (c : UInt8) : ∀ (l : List UInt8) (p : List UInt8), p ∈ pcs c l → ∀ x ∈ p, x ∈ l ∧ x ≠ c
  | [], p, h, x, hx => by
    simp [pcs] at h
    subst h
    cases hx
  | y :: l, p, h, x, hx => by
    rw [pcs] at h
    by_cases hy : y = c
    · rw [if_pos hy] at h
      rcases List.mem_cons.1 h with rfl | h
      · cases hx
      · have := pcs_mem c l p h x hx
        exact ⟨List.mem_cons_of_mem _ this.1, this.2⟩
    · rw [if_neg hy] at h
      cases hl : pcs c l with
      | nil => exact absurd hl (pcs_ne c l)
      | cons z t =>
        rw [hl] at h
        simp only at h
        rcases List.mem_cons.1 h with rfl | h
        · rcases List.mem_cons.1 hx with rfl | hx
          · exact ⟨List.mem_cons_self .., hy⟩
          · have := pcs_mem c l z (by rw [hl]; exact List.mem_cons_self ..) x hx
            exact ⟨List.mem_cons_of_mem _ this.1, this.2⟩
        · have := pcs_mem c l p (by rw [hl]; exact List.mem_cons_of_mem _ h) x hx
          exact ⟨List.mem_cons_of_mem _ this.1, this.2⟩
theorem pcs_count (c : UInt8) : ∀ l : List UInt8, (pcs c l).length = Lib.countByte l c + 1
  | [] => rfl
  | x :: l => by
    have ih := pcs_count c l
    unfold Lib.countByte at ih ⊢
    rw [pcs, List.count_cons]
    by_cases h : x = c
    · rw [if_pos h, h]
      simp [ih]
    · rw [if_neg h]
      have hb : (x == c) = false := by simpa using h
      rw [hb]
      cases hl : pcs c l with
      | nil => exact absurd hl (pcs_ne c l)
      | cons y t =>
        rw [hl] at ih
        simpa using ih
theorem pcs_len (c : UInt8) : ∀ (l : List UInt8) (p : List UInt8), p ∈ pcs c l → p.length ≤ l.length
  | [], p, h => by
    simp [pcs] at h
    subst h
    simp
  | y :: l, p, h => by
    rw [pcs] at h
    by_cases hy : y = c
    · rw [if_pos hy] at h
      rcases List.mem_cons.1 h with rfl | h
      · simp
      · have := pcs_len c l p h
        simp
        omega
    · rw [if_neg hy] at h
      cases hl : pcs c l with
      | nil => exact absurd hl (pcs_ne c l)
      | cons z t =>
        rw [hl] at h
        simp only at h
        rcases List.mem_cons.1 h with rfl | h
        · have := pcs_len c l z (by rw [hl]; exact List.mem_cons_self ..)
          simp
          omega
        · have := pcs_len c l p (by rw [hl]; exact List.mem_cons_of_mem _ h)
          simp
          omega

theorem pcs_miss (c : UInt8) : ∀ l : List UInt8, Lib.indexByte l c = -1 → pcs c l = [l]
  | [], _ => rfl
  | x :: l, h => by
    unfold Lib.indexByte at h
    have hg := Lib.indexByte_ge l c
    by_cases hx : x = c
    · simp [hx] at h
    · have hb : (x == c) = false := by simpa using hx
      rw [hb] at h
      simp only [Bool.false_eq_true, if_false] at h
      by_cases h2 : Lib.indexByte l c = -1
      · rw [pcs, if_neg hx, pcs_miss c l h2]
      · rw [if_neg (by simpa using h2)] at h
        omega
theorem pcs_hit (c : UInt8) : ∀ (l : List UInt8) (i : Nat), Lib.indexByte l c = i → pcs c l = l.take i :: pcs c (l.drop (i + 1))
  | [], i, h => by
    exact absurd h (by simp [Lib.indexByte]; try omega)
  | x :: l, i, h => by
    unfold Lib.indexByte at h
    have hg := Lib.indexByte_ge l c
    by_cases hx : x = c
    · have hb : (x == c) = true := by simpa using hx
      rw [hb] at h
      simp only [if_true] at h
      have : i = 0 := by omega
      subst this
      rw [pcs, if_pos hx]
      rfl
    · have hb : (x == c) = false := by simpa using hx
      rw [hb] at h
      simp only [Bool.false_eq_true, if_false] at h
      by_cases h2 : Lib.indexByte l c = -1
      · rw [if_pos (by simpa using h2)] at h
        omega
      · rw [if_neg (by simpa using h2)] at h
        obtain ⟨j, rfl⟩ : ∃ j, i = j + 1 := ⟨i - 1, by omega⟩
        rw [pcs, if_neg hx, pcs_hit c l j (by omega)]
        rfl
theorem splitK_pcs (c : UInt8) : ∀ (k : Nat) (s : List UInt8), Lib.count s [c] = k → Lib.splitK [c] 0 k s = pcs c s
  | 0, s, h => by
    rw [Lib.splitK]
    by_cases hm : Lib.indexByte s c = -1
    · rw [pcs_miss c s hm]
    · have hg := Lib.indexByte_ge s c
      obtain ⟨i, hi⟩ : ∃ i : Nat, Lib.indexByte s c = i := ⟨(Lib.indexByte s c).toNat, by omega⟩
      have := Lib.count_hit (s := s) (sub := [c]) (i := i) (by simp) (by rw [Lib.index_one]; exact hi)
      omega
  | k + 1, s, h => by
    rw [Lib.splitK, Lib.index_one]
    have hg := Lib.indexByte_ge s c
    by_cases hm : Lib.indexByte s c = -1
    · have := Lib.count_miss (s := s) (sub := [c]) (by rw [Lib.index_one]; exact hm)
      omega
    · rw [if_neg (by simpa using hm)]
      obtain ⟨i, hi⟩ : ∃ i : Nat, Lib.indexByte s c = i := ⟨(Lib.indexByte s c).toNat, by omega⟩
      have hc := Lib.count_hit (s := s) (sub := [c]) (i := i) (by simp) (by rw [Lib.index_one]; exact hi)
      rw [pcs_hit c s i hi, hi]
      simp only [List.length_singleton, Int.toNat_natCast, Nat.add_zero] at hc ⊢
      rw [splitK_pcs c k _ (by omega)]
theorem count_pcs (c : UInt8) (s : List UInt8) : Lib.count s [c] + 1 = (pcs c s).length := by
  have key : ∀ (n : Nat) (s : List UInt8), s.length ≤ n → Lib.count s [c] + 1 = (pcs c s).length := by
    intro n
    induction n with
    | zero =>
      intro s hs
      have : s = [] := List.eq_nil_of_length_eq_zero (by omega)
      subst this
      rfl
    | succ n ih =>
      intro s hs
      have hg := Lib.indexByte_ge s c
      by_cases hm : Lib.indexByte s c = -1
      · rw [pcs_miss c s hm, Lib.count_miss (by rw [Lib.index_one]; exact hm)]
        rfl
      · obtain ⟨i, hi⟩ : ∃ i : Nat, Lib.indexByte s c = i := ⟨(Lib.indexByte s c).toNat, by omega⟩
        rw [pcs_hit c s i hi, Lib.count_hit (s := s) (sub := [c]) (i := i) (by simp) (by rw [Lib.index_one]; exact hi)]
        have := ih (s.drop (i + 1)) (by
          rw [List.length_drop]
          omega)
        simp only [List.length_singleton]
        rw [List.length_cons]
        omega
  exact key s.length s (Nat.le_refl _)
theorem bytes_eta (b : ByteArray) : (⟨b.data.toList.toArray⟩ : ByteArray) = b := by
  apply ByteArray.ext
  simp
/-- What strings.Split lays. -/
theorem split_S (c : UInt8) (s : List UInt8) : (Lib.splitB ⟨#[c]⟩ 0 (Lib.countB ⟨s.toArray⟩ ⟨#[c]⟩) ⟨s.toArray⟩).map Value.string = (pcs c s).map S := by
  have h := Lib.splitB_data ⟨#[c]⟩ 0 (Lib.countB ⟨s.toArray⟩ ⟨#[c]⟩) ⟨s.toArray⟩
  have e : Lib.splitK (⟨#[c]⟩ : ByteArray).data.toList 0 (Lib.countB ⟨s.toArray⟩ ⟨#[c]⟩) (⟨s.toArray⟩ : ByteArray).data.toList = pcs c s := splitK_pcs c _ s rfl
  rw [e] at h
  rw [← h, List.map_map]
  apply List.map_congr_left
  intro b _
  show Value.string b = .string ⟨b.data.toList.toArray⟩
  rw [bytes_eta]
theorem count_S (c : UInt8) (s : List UInt8) : Lib.countB ⟨s.toArray⟩ ⟨#[c]⟩ + 1 = (pcs c s).length := count_pcs c s

/-- The last piece. -/
def lastP (c : UInt8) (s : List UInt8) : List UInt8 := (pcs c s).getLastD []
theorem lastP_app (c : UInt8) (a b : List UInt8) (hb : ∀ x ∈ b, x ≠ c) : lastP c (a ++ c :: b) = b := by
  unfold lastP
  rw [pcs_app2, pcs_one c b hb]
  simp [List.getLastD_eq_getLast?]
theorem lastP_one (c : UInt8) (b : List UInt8) (hb : ∀ x ∈ b, x ≠ c) : lastP c b = b := by
  unfold lastP
  rw [pcs_one c b hb]
  rfl
theorem data_S (s : List UInt8) (j : Nat) (h : j < s.length) : (⟨s.toArray⟩ : ByteArray).data[j]! = s.getD j 0 := by
  simp [List.getD, h]
theorem last_S (c : UInt8) (s : List UInt8) : ∃ k : Nat, k ≤ s.length ∧ Lib.lastIndexByte ⟨s.toArray⟩ (c.toNat : Int) + 1 = k ∧ s.drop k = lastP c s := by
  rcases Lib.lastIndexByte_spec ⟨s.toArray⟩ (c.toNat : Int) with ⟨e, hn⟩ | ⟨i, hi, e, hc, hn⟩
  · refine ⟨0, Nat.zero_le _, by rw [e]; rfl, ?_⟩
    rw [List.drop_zero, lastP_one]
    intro x hx hxc
    obtain ⟨j, hj, rfl⟩ := List.mem_iff_getElem.1 hx
    have := hn j (by rw [size_S]; exact hj)
    rw [data_S s j hj] at this
    apply this
    simp [List.getD, hj, hxc]
  · rw [size_S] at hi
    refine ⟨i + 1, by omega, by rw [e]; rfl, ?_⟩
    rw [data_S s i hi] at hc
    have hci : s.getD i 0 = c := UInt8.toNat_inj.1 (by omega)
    have es : s = s.take i ++ c :: s.drop (i + 1) := by
      rw [← hci]
      have : s.getD i 0 = s[i] := by simp [List.getD, hi]
      rw [this]
      simp
    conv => rhs; rw [es]
    rw [lastP_app]
    intro x hx hxc
    obtain ⟨j, hj, rfl⟩ := List.mem_iff_getElem.1 hx
    rw [List.length_drop] at hj
    have := hn (i + 1 + j) (by omega) (by rw [size_S]; omega)
    rw [data_S s _ (by omega)] at this
    apply this
    rw [List.getElem_drop] at hxc
    have h2 : s.getD (i + 1 + j) 0 = s[i + 1 + j] := by
      have : i + 1 + j < s.length := by omega
      simp [List.getD, this]
    rw [h2, hxc]

theorem trim_yes (c : UInt8) (a : List UInt8) : Lib.trimSuffix (a ++ [c]) [c] = a := by
  unfold Lib.trimSuffix Lib.hasSuffix
  rw [if_pos (by simp)]
  simp
theorem trim_no (c : UInt8) (s : List UInt8) (h : s.getLast? ≠ some c) : Lib.trimSuffix s [c] = s := by
  unfold Lib.trimSuffix Lib.hasSuffix
  rw [if_neg]
  intro hs
  rw [List.isSuffixOf_iff_suffix] at hs
  obtain ⟨t, rfl⟩ := hs
  simp at h
theorem trim_cases (c : UInt8) (s : List UInt8) : (∃ a, s = a ++ [c] ∧ Lib.trimSuffix s [c] = a) ∨ (s.getLast? ≠ some c ∧ Lib.trimSuffix s [c] = s) := by
  by_cases h : s.getLast? = some c
  · obtain ⟨a, rfl⟩ := List.getLast?_eq_some_iff.1 h
    exact .inl ⟨a, rfl, trim_yes c a⟩
  · exact .inr ⟨h, trim_no c s h⟩
theorem trim_len (c : UInt8) (s : List UInt8) : (Lib.trimSuffix s [c]).length ≤ s.length := by
  rcases trim_cases c s with ⟨a, rfl, e⟩ | ⟨_, e⟩
  · rw [e]
    simp
  · rw [e]
    exact Nat.le_refl _
/-- The pieces, a last empty one left out if there is another one. -/
theorem pcs_trim (c : UInt8) (s : List UInt8) : pcs c (Lib.trimSuffix s [c]) = if 1 < (pcs c s).length ∧ lastP c s = [] then (pcs c s).dropLast else pcs c s := by
  rcases trim_cases c s with ⟨a, rfl, e⟩ | ⟨h, e⟩
  · have h2 : pcs c (a ++ [c]) = pcs c a ++ [[]] := pcs_app2 c a []
    have h3 : 1 < (pcs c (a ++ [c])).length := by
      rw [h2]
      have := List.length_pos_iff.2 (pcs_ne c a)
      rw [List.length_append, List.length_singleton]
      omega
    rw [e, if_pos ⟨h3, lastP_app c a [] (by simp)⟩, h2, List.dropLast_concat]
  · rw [e, if_neg]
    rintro ⟨h1, h2⟩
    obtain ⟨k, hk, _, hd⟩ := last_S c s
    have key : ∀ (l : List UInt8), 1 < (pcs c l).length → lastP c l = [] → l.getLast? = some c := by
      intro l
      induction l with
      | nil => intro h1; simp [pcs] at h1
      | cons x l ih =>
        intro h1 h2
        unfold lastP at h2 ih
        rw [pcs] at h1 h2
        by_cases hx : x = c
        · rw [if_pos hx] at h1 h2
          cases l with
          | nil => simp [hx]
          | cons y l' =>
            rw [List.getLast?_cons_cons]
            cases hp : pcs c (y :: l') with
            | nil => exact absurd hp (pcs_ne c _)
            | cons q t =>
              rw [hp] at h2 ih
              have h2' : (q :: t).getLastD [] = [] := by simpa [List.getLastD_eq_getLast?, List.getLast?_cons_cons] using h2
              by_cases ht : t = []
              · subst ht
                have hq : q = [] := by simpa using h2'
                subst hq
                rw [pcs] at hp
                split at hp
                · rename_i hy
                  have := List.cons.inj hp
                  exact absurd this.2 (pcs_ne c l')
                · split at hp <;> simp at hp
              · exact ih (by
                  have := List.length_pos_iff.2 ht
                  rw [List.length_cons]
                  omega) h2'
        · rw [if_neg hx] at h1 h2
          cases hp : pcs c l with
          | nil => exact absurd hp (pcs_ne c _)
          | cons q t =>
            rw [hp] at h1 h2 ih
            simp only at h1 h2
            have ht : t ≠ [] := by
              intro e
              rw [e] at h1
              simp at h1
            cases t with
            | nil => exact absurd rfl ht
            | cons u t' =>
              have h3 : l.getLast? = some c := ih (by simp) (by simpa [List.getLastD_eq_getLast?, List.getLast?_cons_cons] using h2)
              cases l with
              | nil => simp at h3
              | cons y l' =>
                rw [List.getLast?_cons_cons]
                exact h3
    exact h (key s h1 h2)
end Go.Proofs.YtilmkmplaehcaaaDoor
