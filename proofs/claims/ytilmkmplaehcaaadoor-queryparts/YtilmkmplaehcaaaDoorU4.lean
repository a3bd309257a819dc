/-
  What 'first' of package utf tells of any bytes: the code point that stands at their front, and how many bytes it has.
-/
import Derived.Test.YtilmkmplaehcaaaDoorU3
namespace Go.Proofs.YtilmkmplaehcaaaDoor
set_option linter.unusedVariables false
open Go.RowKit

theorem Tells.none {w : World} {bs : List UInt8} {f : FuncId} {args : Array Value} (h : at1 bs = none) (c : Calls Tryd.prog f args w (Tells w 0 0)) : Calls Tryd.prog f args w (Tells w (fst bs) (snd bs)) := by
  rw [(fst_none h).1, (fst_none h).2]
  exact c
theorem Tells.some {w : World} {bs : List UInt8} {f : FuncId} {args : Array Value} {r n : Nat} (h : at1 bs = some (r, n)) (c : Calls Tryd.prog f args w (Tells w r n)) : Calls Tryd.prog f args w (Tells w (fst bs) (snd bs)) := by
  rw [(fst_some h).1, (fst_some h).2]
  exact c

theorem ld_cases (x : Nat) (h : x < 256) : (ld x = 0) ∨ (ld x = 1 ∧ x < 128) ∨ (ld x = 2 ∧ 192 ≤ x ∧ x < 224) ∨ (ld x = 3 ∧ 224 ≤ x ∧ x < 240) ∨ (ld x = 4 ∧ 240 ≤ x ∧ x < 248) := by
  unfold ld
  repeat' split
  all_goals omega

theorem first_any (b off cap : Nat) (bs : List UInt8) (w : World) (hne : 0 < bs.length) (hlc : bs.length ≤ cap) (hmx : cap ≤ 9223372036854775807) (hc : ∀ i, i < bs.length → w.cell? ⟨b, off + i, none⟩ = some (B (bs.getD i 0))) :
    Calls Tryd.prog 52 #[.slice (some ⟨b, off, none⟩) bs.length cap] w (Tells w (fst bs) (snd bs)) := by
  match bs, hne with
  | x0 :: t, _ =>
    have c0 : w.cell? ⟨b, off, none⟩ = some (.int .u8 (x0.toNat : Int)) := by simpa using hc 0 (by simp)
    have l0 := x0.toNat_lt
    rcases ld_cases x0.toNat x0.toNat_lt with d | ⟨d, r⟩ | ⟨d, r⟩ | ⟨d, r⟩ | ⟨d, r⟩
    · refine Tells.none (at1_no fun r n e => ?_) (first_zero b off cap _ _ w l0 (by simp) hlc hmx c0 (.inl d))
      have := at1_form e
      have := (at1_len e).2.2.1
      simp only [List.getD_cons_zero] at *
      omega
    · exact Tells.some (at1_ok1 x0 t r) (first_one b off cap _ _ w r (by simp) hlc hmx c0)
    · by_cases hl : (x0 :: t).length < 2
      · refine Tells.none (at1_no fun r n e => ?_) (first_zero b off cap _ _ w l0 (by simp) hlc hmx c0 (.inr (by omega)))
        have := at1_form e
        simp only [List.getD_cons_zero] at *
        omega
      · match t, hl with
        | [], hl => simp at hl
        | x1 :: t, hl =>
          have c1 : w.cell? ⟨b, off + 1, none⟩ = some (.int .u8 (x1.toNat : Int)) := by simpa using hc 1 (by simp)
          have l1 := x1.toNat_lt
          by_cases g1 : x1.toNat / 64 = 2
          · obtain ⟨q, hq⟩ : ∃ q, q = x0.toNat % 32 * 64 + x1.toNat % 64 := ⟨_, rfl⟩
            have hq' : (q : Int) = (x0.toNat : Int) % 64 * 64 + (x1.toNat : Int) % 64 := by omega
            by_cases hs : ush (q : Int) = 2
            · exact Tells.some (at1_ok2 x0 x1 t r g1 q hq hs) (first2_ok b off cap _ _ _ w r l1 (by simp) hlc hmx c0 c1 g1 q hq' hs)
            · refine Tells.none (at1_no fun r n e => ?_) (first2_no b off cap _ _ _ w r l1 (by simp) hlc hmx c0 c1 g1 (by rw [← hq']; exact hs))
              obtain ⟨f1, f2, f3, f4, _⟩ := at1_form e
              simp only [List.getD_cons_zero] at f1
              have en : n = 2 := by omega
              subst en
              simp only [cand, List.getD_cons_zero, List.getD_cons_succ] at f4
              rw [f4, ← hq] at f3
              exact hs f3
          · refine Tells.none (at1_no fun r n e => ?_) (first2_bad1 b off cap _ _ _ w r l1 (by simp) hlc hmx c0 c1 g1)
            obtain ⟨f1, f2, f3, f4, f5, _⟩ := at1_form e
            simp only [List.getD_cons_zero, List.getD_cons_succ] at f1 f5
            exact g1 (f5 (by omega))
    · by_cases hl : (x0 :: t).length < 3
      · refine Tells.none (at1_no fun r n e => ?_) (first_zero b off cap _ _ w l0 (by simp) hlc hmx c0 (.inr (by omega)))
        have := at1_form e
        simp only [List.getD_cons_zero] at *
        omega
      · match t, hl with
        | [], hl => simp at hl
        | [x1], hl => simp at hl
        | x1 :: x2 :: t, hl =>
          have c1 : w.cell? ⟨b, off + 1, none⟩ = some (.int .u8 (x1.toNat : Int)) := by simpa using hc 1 (by simp)
          have c2 : w.cell? ⟨b, off + 2, none⟩ = some (.int .u8 (x2.toNat : Int)) := by simpa using hc 2 (by simp)
          have l1 := x1.toNat_lt
          have l2 := x2.toNat_lt
          by_cases g1 : x1.toNat / 64 = 2
          · by_cases g2 : x2.toNat / 64 = 2
            · obtain ⟨q, hq⟩ : ∃ q, q = (x0.toNat % 16 * 64 + x1.toNat % 64) * 64 + x2.toNat % 64 := ⟨_, rfl⟩
              have hq' : (q : Int) = ((x0.toNat : Int) % 32 * 64 + (x1.toNat : Int) % 64) * 64 + (x2.toNat : Int) % 64 := by omega
              by_cases hs : ush (q : Int) = 3
              · exact Tells.some (at1_ok3 x0 x1 x2 t r g1 g2 q hq hs) (first3_ok b off cap _ _ _ _ w r l1 l2 (by simp) hlc hmx c0 c1 c2 g1 g2 q hq' hs)
              · refine Tells.none (at1_no fun r n e => ?_) (first3_no b off cap _ _ _ _ w r l1 l2 (by simp) hlc hmx c0 c1 c2 g1 g2 (by rw [← hq']; exact hs))
                obtain ⟨f1, f2, f3, f4, _⟩ := at1_form e
                simp only [List.getD_cons_zero] at f1
                have en : n = 3 := by omega
                subst en
                simp only [cand, List.getD_cons_zero, List.getD_cons_succ] at f4
                rw [f4, ← hq] at f3
                exact hs f3
            · refine Tells.none (at1_no fun r n e => ?_) (first3_bad2 b off cap _ _ _ _ w r l1 l2 (by simp) hlc hmx c0 c1 c2 g1 g2)
              obtain ⟨f1, f2, f3, f4, f5, f6, _⟩ := at1_form e
              simp only [List.getD_cons_zero, List.getD_cons_succ] at f1 f6
              exact g2 (f6 (by omega))
          · refine Tells.none (at1_no fun r n e => ?_) (first3_bad1 b off cap _ _ _ _ w r l1 l2 (by simp) hlc hmx c0 c1 c2 g1)
            obtain ⟨f1, f2, f3, f4, f5, _⟩ := at1_form e
            simp only [List.getD_cons_zero, List.getD_cons_succ] at f1 f5
            exact g1 (f5 (by omega))
    · by_cases hl : (x0 :: t).length < 4
      · refine Tells.none (at1_no fun r n e => ?_) (first_zero b off cap _ _ w l0 (by simp) hlc hmx c0 (.inr (by omega)))
        have := at1_form e
        simp only [List.getD_cons_zero] at *
        omega
      · match t, hl with
        | [], hl => simp at hl
        | [x1], hl => simp at hl
        | [x1, x2], hl => simp at hl
        | x1 :: x2 :: x3 :: t, hl =>
          have c1 : w.cell? ⟨b, off + 1, none⟩ = some (.int .u8 (x1.toNat : Int)) := by simpa using hc 1 (by simp)
          have c2 : w.cell? ⟨b, off + 2, none⟩ = some (.int .u8 (x2.toNat : Int)) := by simpa using hc 2 (by simp)
          have c3 : w.cell? ⟨b, off + 3, none⟩ = some (.int .u8 (x3.toNat : Int)) := by simpa using hc 3 (by simp)
          have l1 := x1.toNat_lt
          have l2 := x2.toNat_lt
          have l3 := x3.toNat_lt
          by_cases g1 : x1.toNat / 64 = 2
          · by_cases g2 : x2.toNat / 64 = 2
            · by_cases g3 : x3.toNat / 64 = 2
              · obtain ⟨q, hq⟩ : ∃ q, q = ((x0.toNat % 8 * 64 + x1.toNat % 64) * 64 + x2.toNat % 64) * 64 + x3.toNat % 64 := ⟨_, rfl⟩
                have hq' : (q : Int) = (((x0.toNat : Int) % 16 * 64 + (x1.toNat : Int) % 64) * 64 + (x2.toNat : Int) % 64) * 64 + (x3.toNat : Int) % 64 := by omega
                by_cases hs : ush (q : Int) = 4
                · exact Tells.some (at1_ok4 x0 x1 x2 x3 t r g1 g2 g3 q hq hs) (first4_ok b off cap _ _ _ _ _ w r l1 l2 l3 (by simp) hlc hmx c0 c1 c2 c3 g1 g2 g3 q hq' hs)
                · refine Tells.none (at1_no fun r n e => ?_) (first4_no b off cap _ _ _ _ _ w r l1 l2 l3 (by simp) hlc hmx c0 c1 c2 c3 g1 g2 g3 (by rw [← hq']; exact hs))
                  obtain ⟨f1, f2, f3, f4, _⟩ := at1_form e
                  simp only [List.getD_cons_zero] at f1
                  have en : n = 4 := by omega
                  subst en
                  simp only [cand, List.getD_cons_zero, List.getD_cons_succ] at f4
                  rw [f4, ← hq] at f3
                  exact hs f3
              · refine Tells.none (at1_no fun r n e => ?_) (first4_bad3 b off cap _ _ _ _ _ w r l1 l2 l3 (by simp) hlc hmx c0 c1 c2 c3 g1 g2 g3)
                obtain ⟨f1, f2, f3, f4, f5, f6, f7⟩ := at1_form e
                simp only [List.getD_cons_zero, List.getD_cons_succ] at f1 f7
                exact g3 (f7 (by omega))
            · refine Tells.none (at1_no fun r n e => ?_) (first4_bad2 b off cap _ _ _ _ _ w r l1 l2 l3 (by simp) hlc hmx c0 c1 c2 c3 g1 g2)
              obtain ⟨f1, f2, f3, f4, f5, f6, _⟩ := at1_form e
              simp only [List.getD_cons_zero, List.getD_cons_succ] at f1 f6
              exact g2 (f6 (by omega))
          · refine Tells.none (at1_no fun r n e => ?_) (first4_bad1 b off cap _ _ _ _ _ w r l1 l2 l3 (by simp) hlc hmx c0 c1 c2 c3 g1)
            obtain ⟨f1, f2, f3, f4, f5, _⟩ := at1_form e
            simp only [List.getD_cons_zero, List.getD_cons_succ] at f1 f5
            exact g1 (f5 (by omega))
end Go.Proofs.YtilmkmplaehcaaaDoor
