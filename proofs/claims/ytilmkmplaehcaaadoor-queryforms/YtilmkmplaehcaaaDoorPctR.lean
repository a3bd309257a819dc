/-
  What the document's own functions tell: has, In, Hex.
-/
import Derived.Test.YtilmkmplaehcaaaDoorPctP
namespace Go.Proofs.YtilmkmplaehcaaaDoor.Pct
set_option linter.unusedVariables false
open Go.RowKit

theorem one_snoc (l : List UInt8) (y b : UInt8) : one (l ++ [y]) b = (one l b || ((y.toNat : Int) == (b.toNat : Int))) := by
  rw [one_app, one_single]
  congr 1
  rw [Bool.eq_iff_iff]
  simp only [beq_iff_eq]
  constructor <;> exact fun h => h.symm

theorem one_mem {l : List UInt8} {b : UInt8} (h : b ∈ l) : one l b = true := by
  unfold one
  simpa using h

set_option maxHeartbeats 400000 in
set_option maxRecDepth 100000 in
theorem has_any (l : List UInt8) (b : UInt8) (w : World) (hm : l.length ≤ 1000000) : Calls Tryd.prog 42 #[S l, B b] w fun e w' => e = .returned (.bool (one l b)) ∧ w' = w := by
  have hsz := size_S l
  have HA := hide (at_S l)
  show Calls Tryd.prog 42 #[.string ⟨l.toArray⟩, B b] w _
  generalize (⟨l.toArray⟩ : ByteArray) = z at *
  go_enter Tryd.func42, Tryd.ntmps42
  go_wp2
  go_loopw [5] (fun i wr => ∃ j : Nat, j ≤ l.length ∧ i = .int .i64 j ∧ one (l.take j) b = false ∧ wr = w) (fun i _ => l.length - (intOf i).toNat)
  case atStart => exact ⟨0, by omega, rfl, rfl, rfl⟩
  case round =>
    obtain ⟨j, hj, rfl, hno, rfl⟩ := hrel
    have HN := hide hno
    clear hno
    by_cases hjl : j < l.length
    · have hat := unhide HA j (by omega)
      have HT := hide (take_snoc l j 0 hjl)
      have hmem : l.getD j 0 ∈ l := by simp [List.getD, hjl]
      have HM := hide hmem
      clear hmem
      generalize l.getD j 0 = y at *
      by_cases hy : (y.toNat : Int) = (b.toNat : Int)
      · go_wp2
        go_ret
        have e : y = b := UInt8.toNat_inj.1 (by omega)
        rw [one_mem (e ▸ unhide HM)]
        exact ⟨rfl, rfl⟩
      · go_wp2
        go_roundw
        case rel =>
          refine ⟨j + 1, by omega, by go_num, ?_, by trivial⟩
          rw [unhide HT, one_snoc, unhide HN]
          simpa using hy
        case measure => simp [intOf]; omega
    · have e := unhide HN
      rw [List.take_of_length_le (by omega)] at e
      have HE := hide e
      clear e
      go_wp2
      go_ret
      rw [unhide HE]
      exact ⟨rfl, rfl⟩

theorem add_path (w : World) : (binOp .add 9 (.string ⟨#[32, 34, 35, 60, 62, 63, 94, 96, 123, 125]⟩) (.string ⟨#[47, 58, 59, 61, 64, 91, 92, 93, 124]⟩)).run Tryd.prog w = .ok (S [32, 34, 35, 60, 62, 63, 94, 96, 123, 125, 47, 58, 59, 61, 64, 91, 92, 93, 124]) w := by kernel_rfl

theorem low_int (b : UInt8) : low b = (decide ((b.toNat : Int) < 32) || decide (126 < (b.toNat : Int))) := by
  unfold low
  congr 1 <;> exact decide_eq_decide.2 (by omega)

set_option maxHeartbeats 1600000 in
set_option maxRecDepth 100000 in
theorem rin_any (s : Int) (b : UInt8) (w : World) : Calls Tryd.prog 31 #[.int .i64 s, B b] w fun e w' => e = .returned (.bool (inS s b)) ∧ w' = w := by
  have C1 := hide (has_any [32, 34, 60, 62, 96] b w (by simp))
  have C2 := hide (has_any [32, 34, 35, 60, 62] b w (by simp))
  have C3 := hide (has_any [32, 34, 35, 60, 62, 39] b w (by simp))
  have C4 := hide (has_any [32, 34, 35, 60, 62, 63, 94, 96, 123, 125] b w (by simp))
  have C5 := hide (has_any [32, 34, 35, 60, 62, 63, 94, 96, 123, 125, 47, 58, 59, 61, 64, 91, 92, 93, 124] b w (by simp))
  have C6 := hide (has_any [42, 45, 46, 95] b w (by simp))
  have ha := add_path
  by_cases h6 : s = 6
  · subst h6
    rw [show inS 6 b = !(alnum b || one [42, 45, 46, 95] b) from rfl]
    generalize one [42, 45, 46, 95] b = o at *
    unfold alnum
    go_enter Tryd.func31, Tryd.ntmps31
    go_wp2_with (refine (unhide C6).mono ?_; rintro e w2 ⟨rfl, rfl⟩)
    all_goals
      go_ret
      refine ⟨?_, rfl⟩
      cases o <;> simp <;> first | omega | (rw [Bool.eq_iff_iff]; simp only [Bool.and_eq_true, Bool.or_eq_true, Bool.not_eq_true', decide_eq_true_eq, decide_eq_false_iff_not]; omega)
  have hlow := low_int b
  have hl : ((b.toNat : Int) < 32 ∧ low b = true) ∨ ((¬ (b.toNat : Int) < 32 ∧ 126 < (b.toNat : Int)) ∧ low b = true) ∨ ((¬ (b.toNat : Int) < 32 ∧ ¬ 126 < (b.toNat : Int)) ∧ low b = false) := by
    rw [hlow]
    simp only [Bool.or_eq_true, Bool.or_eq_false_iff, decide_eq_true_eq, decide_eq_false_iff_not]
    omega
  clear hlow
  go_enter Tryd.func31, Tryd.ntmps31
  by_cases h0 : s = 0
  · subst h0
    rw [show inS 0 b = low b from rfl]
    rcases hl with ⟨h1, hl⟩ | ⟨⟨h1, h2⟩, hl⟩ | ⟨⟨h1, h2⟩, hl⟩
    all_goals
      rw [hl]
      go_wp2
      go_ret
      exact ⟨rfl, rfl⟩
  by_cases h1s : s = 1
  · subst h1s
    rw [show inS 1 b = (low b || one [32, 34, 60, 62, 96] b) from rfl]
    generalize one [32, 34, 60, 62, 96] b = o at *
    rcases hl with ⟨h1, hl⟩ | ⟨⟨h1, h2⟩, hl⟩ | ⟨⟨h1, h2⟩, hl⟩
    all_goals
      rw [hl]
      go_wp2_with (refine (unhide C1).mono ?_; rintro e w2 ⟨rfl, rfl⟩)
      go_ret
      exact ⟨by simp, rfl⟩
  by_cases h2s : s = 2
  · subst h2s
    rw [show inS 2 b = (low b || one [32, 34, 35, 60, 62] b) from rfl]
    generalize one [32, 34, 35, 60, 62] b = o at *
    rcases hl with ⟨h1, hl⟩ | ⟨⟨h1, h2⟩, hl⟩ | ⟨⟨h1, h2⟩, hl⟩
    all_goals
      rw [hl]
      go_wp2_with (refine (unhide C2).mono ?_; rintro e w2 ⟨rfl, rfl⟩)
      go_ret
      exact ⟨by simp, rfl⟩
  by_cases h3s : s = 3
  · subst h3s
    rw [show inS 3 b = (low b || one [32, 34, 35, 60, 62, 39] b) from rfl]
    generalize one [32, 34, 35, 60, 62, 39] b = o at *
    rcases hl with ⟨h1, hl⟩ | ⟨⟨h1, h2⟩, hl⟩ | ⟨⟨h1, h2⟩, hl⟩
    all_goals
      rw [hl]
      go_wp2_with (refine (unhide C3).mono ?_; rintro e w2 ⟨rfl, rfl⟩)
      go_ret
      exact ⟨by simp, rfl⟩
  by_cases h4s : s = 4
  · subst h4s
    rw [show inS 4 b = (low b || one [32, 34, 35, 60, 62, 63, 94, 96, 123, 125] b) from rfl]
    generalize one [32, 34, 35, 60, 62, 63, 94, 96, 123, 125] b = o at *
    rcases hl with ⟨h1, hl⟩ | ⟨⟨h1, h2⟩, hl⟩ | ⟨⟨h1, h2⟩, hl⟩
    all_goals
      rw [hl]
      go_wp2_with (refine (unhide C4).mono ?_; rintro e w2 ⟨rfl, rfl⟩)
      go_ret
      exact ⟨by simp, rfl⟩
  by_cases h5s : s = 5
  · subst h5s
    rw [show inS 5 b = (low b || one [32, 34, 35, 60, 62, 63, 94, 96, 123, 125, 47, 58, 59, 61, 64, 91, 92, 93, 124] b) from rfl]
    generalize one [32, 34, 35, 60, 62, 63, 94, 96, 123, 125, 47, 58, 59, 61, 64, 91, 92, 93, 124] b = o at *
    rcases hl with ⟨h1, hl⟩ | ⟨⟨h1, h2⟩, hl⟩ | ⟨⟨h1, h2⟩, hl⟩
    all_goals
      rw [hl]
      go_wp2_with (refine (unhide C5).mono ?_; rintro e w2 ⟨rfl, rfl⟩)
      go_ret
      exact ⟨by simp, rfl⟩
  have hn : inS s b = false := by unfold inS; simp [h0, h1s, h2s, h3s, h4s, h5s, h6]
  rw [hn]
  rcases hl with ⟨h1, hl⟩ | ⟨⟨h1, h2⟩, hl⟩ | ⟨⟨h1, h2⟩, hl⟩
  all_goals
    go_wp2
    go_ret
    exact ⟨rfl, rfl⟩

set_option maxHeartbeats 400000 in
set_option maxRecDepth 100000 in
theorem hex_any (b : UInt8) (w : World) : Calls Tryd.prog 39 #[B b] w fun e w' => e = .returned (.int .i64 (if isx b then (hx b : Int) else -1)) ∧ w' = w := by
  have hb := b.toNat_lt
  have hh : ((48 ≤ (b.toNat : Int) ∧ (b.toNat : Int) ≤ 57) ∧ (if isx b then (hx b : Int) else -1) = b.toNat - 48) ∨ ((97 ≤ (b.toNat : Int) ∧ (b.toNat : Int) ≤ 102) ∧ (if isx b then (hx b : Int) else -1) = b.toNat - 97 + 10) ∨ ((65 ≤ (b.toNat : Int) ∧ (b.toNat : Int) ≤ 70) ∧ (if isx b then (hx b : Int) else -1) = b.toNat - 65 + 10)
      ∨ ((¬ (48 ≤ (b.toNat : Int) ∧ (b.toNat : Int) ≤ 57) ∧ ¬ (97 ≤ (b.toNat : Int) ∧ (b.toNat : Int) ≤ 102) ∧ ¬ (65 ≤ (b.toNat : Int) ∧ (b.toNat : Int) ≤ 70)) ∧ (if isx b then (hx b : Int) else -1) = -1) := by
    cases h : isx b
    · unfold isx at h
      simp only [Bool.or_eq_false_iff, Bool.and_eq_false_iff, decide_eq_false_iff_not] at h
      right; right; right
      refine ⟨by omega, by simp⟩
    · unfold isx at h
      simp only [Bool.or_eq_true, Bool.and_eq_true, decide_eq_true_eq] at h
      simp only [if_true]
      unfold hx
      split
      · left; omega
      · split <;> omega
  rcases hh with ⟨⟨h1, h2⟩, e⟩ | ⟨⟨h1, h2⟩, e⟩ | ⟨⟨h1, h2⟩, e⟩ | ⟨⟨h1, h2, h3⟩, e⟩
  all_goals
    rw [e]
    clear e
    go_enter Tryd.func39, Tryd.ntmps39
    go_wp2
    all_goals first
      | (exfalso; omega)
      | (go_ret
         exact ⟨by simp, rfl⟩)
end Go.Proofs.YtilmkmplaehcaaaDoor.Pct
