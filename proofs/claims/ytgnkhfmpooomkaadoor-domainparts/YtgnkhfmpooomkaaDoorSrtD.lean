/-
  The library's merge of two sorted parts side by side, whatever their sizes.
-/
import Derived.Test.YtgnkhfmpooomkaaDoorSrtC
namespace Go.Proofs.YtgnkhfmpooomkaaDoor
set_option linter.unusedVariables false
open Go.RowKit

/-- What a merge does. -/
def Merges (w0 : World) (blk off n cap L : Nat) (k : Nat → Nat) (bx : Value) (a m b : Nat) : Prop :=
  ∀ (f : Nat → Nat) (w : World), SRow w0 blk off n L f w → St k f n → Asc k f a m → Asc k f m b →
    Calls Tryd.prog 98 #[.slice (some ⟨blk, off, none⟩) n cap, .int .i64 (a : Int), .int .i64 (m : Int), .int .i64 (b : Int), .func (.func 84) #[] #[bx]] w fun e w' => e = .returned (.tuple #[]) ∧ ∃ g, Ord w0 blk off n L k a b f g w' ∧ Asc k g a b

/-- How it stands in the search for the place to cut. -/
def MRel (w0 : World) (blk off n L : Nat) (k f : Nat → Nat) (a m b mid : Nat) (vs vr : Value) (wr : World) : Prop :=
  ∃ (s r : Nat), a ≤ s ∧ s ≤ r ∧ r ≤ m ∧ r ≤ mid ∧ mid + m - s ≤ b ∧ vs = .int .i64 s ∧ vr = .int .i64 r ∧ Hid (SRow w0 blk off n L f wr) ∧
    Hid (∀ x y, a ≤ x → x < s → mid + m - s ≤ y → y < b → k (f x) ≤ k (f y)) ∧ Hid (∀ x y, r ≤ x → x < m → m ≤ y → y < mid + m - r → k (f y) < k (f x))

set_option maxHeartbeats 2000000 in
set_option maxRecDepth 100000 in
theorem merge_more (w0 : World) (blk off n cap L : Nat) (k : Nat → Nat) (bx : Value) (hc : CmpOK w0 blk L k bx) (hn : n ≤ 1000) (a m b : Nat) (ham : a + 1 < m) (hmb : m + 1 < b) (hbn : b ≤ n)
    (IH : ∀ a' m' b' : Nat, b' - a' < b - a → a' < m' → m' < b' → b' ≤ n → Merges w0 blk off n cap L k bx a' m' b') : Merges w0 blk off n cap L k bx a m b := by
  intro f w hr hst hA hB
  go_enter Tryd.func98, Tryd.ntmps98
  obtain ⟨mid, hmid⟩ : ∃ q, q = (a + b) / 2 := ⟨_, rfl⟩
  have m1 : a + 1 < mid := by omega
  have m2 : mid + 1 < b := by omega
  have m3 : 2 * mid ≤ a + b := by omega
  have m4 : a + b ≤ 2 * mid + 1 := by omega
  have EM : Hid (((a : Int) + (b : Int)) / 2 = (mid : Int)) := (show ((a : Int) + (b : Int)) / 2 = (mid : Int) by omega)
  have HR := hide hr
  have HC := hide hc
  have HST := hide hst
  have HA := hide hA
  have HB := hide hB
  have HI0 := hide IH
  clear hr hst hc hA hB IH hmid
  have h0 : ((m : Int) - (a : Int) == 1) = false := beq_eq_false_iff_ne.2 (by omega)
  have h0' : ¬ ((m : Int) - (a : Int) = 1) := by omega
  have h1 : ((b : Int) - (m : Int) == 1) = false := beq_eq_false_iff_ne.2 (by omega)
  have h1' : ¬ ((b : Int) - (m : Int) = 1) := by omega
  refine (Nat.lt_or_ge mid m).elim (fun hmm => ?br1) (fun hmm => ?br2)
  case' br1 =>
    have hq : ((a : Int) + (b : Int)) / 2 < (m : Int) := by rw [unhide EM]; omega
    have START : Hid (MRel w0 blk off n L k f a m b mid (.int .i64 ((mid : Int) + (m : Int) - (b : Int))) (.int .i64 (mid : Int)) w) :=
      ⟨mid + m - b, mid, by omega, by omega, by omega, by omega, by omega, by congr 1; omega, rfl, HR, fun x y h1 h2 h3 h4 => by omega, fun x y h1 h2 h3 h4 => by omega⟩
    clear HR
    go_wp2_with fail
    rw [unhide EM]
    clear hq
  case' br2 =>
    have hq : ¬ ((a : Int) + (b : Int)) / 2 < (m : Int) := by rw [unhide EM]; omega
    have START : Hid (MRel w0 blk off n L k f a m b mid (.int .i64 (a : Int)) (.int .i64 (m : Int)) w) :=
      ⟨a, m, by omega, by omega, by omega, by omega, by omega, rfl, rfl, HR, fun x y h1 h2 h3 h4 => by omega, fun x y h1 h2 h3 h4 => by omega⟩
    clear HR
    go_wp2_with fail
    rw [unhide EM]
    clear hq
  all_goals
    clear hmm EM h0 h0' h1 h1'
    go_loopw [20, 21] (fun vs vr wr => MRel w0 blk off n L k f a m b mid vs vr wr) (fun vs vr _ => (intOf vr).toNat - (intOf vs).toNat)
    case atStart => exact unhide START
    case round =>
      clear START
      obtain ⟨s, r, has, hsr, hrm, hrmid, heb, rfl, rfl, S, LO, HI⟩ := hrel
      by_cases hlt : s < r
      · obtain ⟨c, hcc⟩ : ∃ q, q = (s + r) / 2 := ⟨_, rfl⟩
        have c1 : s ≤ c := by omega
        have c2 : c < r := by omega
        have EH : Hid (((s : Int) + (r : Int)) / 2 = (c : Int)) := (show ((s : Int) + (r : Int)) / 2 = (c : Int) by omega)
        clear hcc
        obtain ⟨d, hd0⟩ : ∃ q, q = mid + m - 1 - c := ⟨_, rfl⟩
        have d1 : m ≤ d := by omega
        have d2 : d < b := by omega
        have S0 := unhide S
        have l1 := S0.cell d (by omega)
        have l2 := S0.cell c (by omega)
        have hcm := fun q => (unhide HC).at S0 d c (by omega) (by omega) q
        have HS := hide (fun q => S0.drewN q)
        have b1 : (c : Int) < (n : Int) := by omega
        have e1 : ((mid : Int) + (m : Int) - 1 - (c : Int)).toNat = d := by omega
        have p1 : (0 : Int) ≤ (mid : Int) + (m : Int) - 1 - (c : Int) := by omega
        have b2 : (mid : Int) + (m : Int) - 1 - (c : Int) < (n : Int) := by omega
        have r1 : IntKind.i64.wrap ((mid : Int) + (m : Int) - 1 - (c : Int)) = (mid : Int) + (m : Int) - 1 - (c : Int) := by rw [IntKind.wrap_i64]; omega
        have HD := hide hd0
        clear S0 S hd0
        by_cases hlv : k (f d) < k (f c)
        · have hv := cf_lt hlv
          have hd : decide (cf (k (f d)) (k (f c)) < 0) = true := decide_eq_true hv
          have HI2 : Hid (∀ x y, c ≤ x → x < m → m ≤ y → y < mid + m - c → k (f y) < k (f x)) := fun x y h1 h2 h3 h4 => by
            have hdd := unhide HD
            have q1 : k (f y) ≤ k (f d) := by
              by_cases e : y = d
              · rw [e]; exact Nat.le_refl _
              · exact unhide HB y d h3 (by omega) (by omega)
            have q2 : k (f c) ≤ k (f x) := by
              by_cases e : x = c
              · rw [e]; exact Nat.le_refl _
              · exact unhide HA c x (by omega) (by omega) (by omega)
            omega
          clear HI hlv
          generalize cf (k (f d)) (k (f c)) = z at *
          generalize (f d : Int) = x1 at *
          generalize (f c : Int) = x2 at *
          go_wp2_with fail
          rw [unhide EH]
          clear EH
          go_quiet (first | (go_at_call 84; exact Calls.quiet_of (hcm _)))
          clear hcm l1 l2 e1 p1 b2 r1
          go_wp2
          exact ⟨⟨s, c, has, c1, by omega, by omega, heb, rfl, rfl, unhide HS nq, LO, HI2⟩, (show ((c : Int)).toNat - ((s : Int)).toNat < ((r : Int)).toNat - ((s : Int)).toNat by omega)⟩
        · have hv := cf_ge hlv
          have hd : decide (cf (k (f d)) (k (f c)) < 0) = false := decide_eq_false hv
          have LO2 : Hid (∀ x y, a ≤ x → x < c + 1 → mid + m - (c + 1) ≤ y → y < b → k (f x) ≤ k (f y)) := fun x y h1 h2 h3 h4 => by
            have hdd := unhide HD
            have q1 : k (f d) ≤ k (f y) := by
              by_cases e : y = d
              · rw [e]; exact Nat.le_refl _
              · exact unhide HB d y (by omega) (by omega) (by omega)
            have q2 : k (f x) ≤ k (f c) := by
              by_cases e : x = c
              · rw [e]; exact Nat.le_refl _
              · exact unhide HA x c (by omega) (by omega) (by omega)
            omega
          clear LO hlv
          generalize cf (k (f d)) (k (f c)) = z at *
          generalize (f d : Int) = x1 at *
          generalize (f c : Int) = x2 at *
          go_wp2_with fail
          rw [unhide EH]
          clear EH
          go_quiet (first | (go_at_call 84; exact Calls.quiet_of (hcm _)))
          clear hcm l1 l2 e1 p1 b2 r1
          go_wp2
          exact ⟨⟨c + 1, r, by omega, by omega, hrm, hrmid, by omega, by simp, rfl, unhide HS nq, LO2, HI⟩, (show ((r : Int)).toNat - ((c : Int) + 1).toNat < ((r : Int)).toNat - ((s : Int)).toNat by omega)⟩
      · have e : r = s := by omega
        subst e
        clear hlt hsr
        obtain ⟨e, he⟩ : ∃ q, q = mid + m - r := ⟨_, rfl⟩
        have e1 : m ≤ e := by omega
        have e2 : e ≤ b := by omega
        have MD := hide (mids (mid := mid) (unhide HA) (unhide HB) has hrm e1 e2 (by omega) (by rw [he]; exact unhide LO) (by rw [he]; exact unhide HI))
        have PG := hide ((pm_rot f hrm e1).mono has e2)
        have SG := hide ((unhide HST).rot hrm e1 (by omega) (by rw [he]; exact unhide HI))
        have SN : r = m ∨ r = mid → Hid (SRow w0 blk off n L (rot f r m e) wr) := fun h => by
          rcases h with h | h
          · have := unhide S
            rw [← h, rot_none]
            exact S
          · have h2 : e = m := by omega
            rw [h2, rot_none']
            exact S
        have SC : r < m → r < mid → Hid (Calls Tryd.prog 100 #[.slice (some ⟨blk, off, none⟩) n cap, .int .i64 (r : Int), .int .i64 (m : Int), .int .i64 ((mid : Int) + (m : Int) - (r : Int)), .func (.func 84) #[] #[bx]] wr fun e' w' => e' = .returned (.tuple #[]) ∧ SRow w0 blk off n L (rot f r m e) w') := fun h1 h2 => by
          have := rotate_any w0 blk off n cap L f (.func (.func 84) #[] #[bx]) r m e wr (unhide S) hn h1 (by omega) (by omega)
          rw [show ((e : Nat) : Int) = (mid : Int) + (m : Int) - (r : Int) by omega] at this
          exact this
        have I1 : a < r → r < mid → ∀ g W, Hid (SRow w0 blk off n L g W) → Hid (St k g n) → Hid (Mids k g a r mid e b) → Hid (Calls Tryd.prog 98 #[.slice (some ⟨blk, off, none⟩) n cap, .int .i64 (a : Int), .int .i64 (r : Int), .int .i64 (mid : Int), .func (.func 84) #[] #[bx]] W fun e' w' => e' = .returned (.tuple #[]) ∧ ∃ g', Ord w0 blk off n L k a mid g g' w' ∧ Asc k g' a mid) := fun h1 h2 g W q1 q2 q3 =>
          unhide HI0 a r mid (by omega) h1 h2 (by omega) g W q1 q2 q3.a1 q3.a2
        have I2 : mid < e → e < b → ∀ g W, Hid (SRow w0 blk off n L g W) → Hid (St k g n) → Hid (Asc k g mid e) → Hid (Asc k g e b) → Hid (Calls Tryd.prog 98 #[.slice (some ⟨blk, off, none⟩) n cap, .int .i64 (mid : Int), .int .i64 ((mid : Int) + (m : Int) - (r : Int)), .int .i64 (b : Int), .func (.func 84) #[] #[bx]] W fun e' w' => e' = .returned (.tuple #[]) ∧ ∃ g', Ord w0 blk off n L k mid b g g' w' ∧ Asc k g' mid b) := fun h1 h2 g W q1 q2 q3 q4 => by
          have := unhide HI0 mid e b (by omega) h1 h2 (by omega) g W q1 q2 q3 q4
          rw [show ((e : Nat) : Int) = (mid : Int) + (m : Int) - (r : Int) by omega] at this
          exact this
        have HSN := hide SN
        have HSC := hide SC
        have HI1 := hide I1
        have HI2 := hide I2
        have HE := hide he
        clear SN SC I1 I2 HI0 HC HST HA HB LO HI he
        generalize rot f r m e = G at *
        have hfin : Hid (∀ g1 g2 W, Pm a mid G g1 → Asc k g1 a mid → Ord w0 blk off n L k mid b g1 g2 W → Asc k g2 mid b → ∃ g, Ord w0 blk off n L k a b f g W ∧ Asc k g a b) := fun g1 g2 W p1 a1 o a2 =>
          ⟨g2, ⟨o.1, ((unhide PG).trans (p1.mono (Nat.le_refl _) (by omega))).trans (o.2.1.mono (by omega) (Nat.le_refl _)), o.2.2⟩, merged (unhide MD).cr p1 a1 o.2.1 a2⟩
        by_cases q1 : r < m
        · have q1' : (r : Int) < (m : Int) := by omega
          have q4' : (mid : Int) < (mid : Int) + (m : Int) - (r : Int) := by omega
          by_cases q2 : r < mid
          · have q2' : (r : Int) < (mid : Int) := by omega
            have q3' : (m : Int) < (mid : Int) + (m : Int) - (r : Int) := by omega
            have C0 := unhide HSC q1 q2
            clear HSN HSC S
            go_wp2_with fail
            refine (unhide C0).mono ?_
            rintro e' w1 ⟨rfl, S1'⟩
            have S1 := hide S1'
            clear C0 S1'
            by_cases h2 : a < r
            · have h2' : (a : Int) < (r : Int) := by omega
              have CC := unhide HI1 (by omega) (by omega) _ _ S1 SG MD
              clear S1
              go_wp2_with fail
              refine (unhide CC).mono ?_
              rintro e' w2 ⟨rfl, g1, O1, A1⟩
              have P1 := O1.2.1
              have S2 := hide O1.1
              have T2 := hide O1.2.2
              clear CC O1
              by_cases h3 : e < b
              · have h3' : (mid : Int) + (m : Int) - (r : Int) < (b : Int) := by have := unhide HE; omega
                have A3 := hide (P1.asc_out (unhide MD).a3 (.inr (Nat.le_refl _)))
                have A4 := hide (P1.asc_out (unhide MD).a4 (.inr (by have := unhide HE; omega)))
                have CC := unhide HI2 (by have := unhide HE; omega) (by have := unhide HE; omega) _ _ S2 T2 A3 A4
                have F2 : Hid (∀ g2 W, Ord w0 blk off n L k mid b g1 g2 W → Asc k g2 mid b → ∃ g, Ord w0 blk off n L k a b f g W ∧ Asc k g a b) := fun g2 W o a2 => unhide hfin g1 g2 W P1 A1 o a2
                clear A3 A4 S2 T2 P1 A1 hfin HI2 HI1 MD PG SG
                go_wp2_with fail
                refine (unhide CC).mono ?_
                rintro e' w3 ⟨rfl, g2, O2, A2⟩
                have FF := hide (unhide F2 g2 w3 O2 A2)
                clear CC F2 O2 A2
                go_wp2
                go_end0
                exact ⟨rfl, unhide FF⟩
              · have h3' : ¬ (mid : Int) + (m : Int) - (r : Int) < (b : Int) := by have := unhide HE; omega
                have FF := hide (unhide hfin g1 g1 _ P1 A1 ⟨unhide S2, Pm.refl _ _ _, unhide T2⟩ (by
                  have he := unhide HE
                  by_cases hq : e = b
                  · have := P1.asc_out (unhide MD).a3 (.inr (Nat.le_refl _)); rw [hq] at this; exact this
                  · have h5 : e = mid := by omega
                    have := P1.asc_out (unhide MD).a4 (.inr (by omega)); rw [h5] at this; exact this))
                clear S2 T2 P1 A1 hfin HI2 HI1 MD PG SG
                go_wp2
                go_end0
                exact ⟨rfl, unhide FF⟩
            · have h2' : ¬ (a : Int) < (r : Int) := by omega
              have A1 : Asc k G a mid := by
                by_cases hq : r = a
                · have := (unhide MD).a2; rw [hq] at this; exact this
                · have h5 : r = mid := by omega
                  have := (unhide MD).a1; rw [h5] at this; exact this
              have P1 : Pm a mid G G := Pm.refl _ _ _
              obtain ⟨g1, hg1⟩ : ∃ g, g = G := ⟨_, rfl⟩
              have S2 := S1
              have T2 := SG
              clear S1
              have P1' : Pm a mid G g1 := by rw [hg1]; exact P1
              have A1' : Asc k g1 a mid := by rw [hg1]; exact A1
              rw [← hg1] at S2 T2
              clear P1 A1 hg1
              have P1 := P1'
              have A1 := A1'
              clear P1' A1'
              by_cases h3 : e < b
              · have h3' : (mid : Int) + (m : Int) - (r : Int) < (b : Int) := by have := unhide HE; omega
                have A3 := hide (P1.asc_out (unhide MD).a3 (.inr (Nat.le_refl _)))
                have A4 := hide (P1.asc_out (unhide MD).a4 (.inr (by have := unhide HE; omega)))
                have CC := unhide HI2 (by have := unhide HE; omega) (by have := unhide HE; omega) _ _ S2 T2 A3 A4
                have F2 : Hid (∀ g2 W, Ord w0 blk off n L k mid b g1 g2 W → Asc k g2 mid b → ∃ g, Ord w0 blk off n L k a b f g W ∧ Asc k g a b) := fun g2 W o a2 => unhide hfin g1 g2 W P1 A1 o a2
                clear A3 A4 S2 T2 P1 A1 hfin HI2 HI1 MD PG SG
                go_wp2_with fail
                refine (unhide CC).mono ?_
                rintro e' w3 ⟨rfl, g2, O2, A2⟩
                have FF := hide (unhide F2 g2 w3 O2 A2)
                clear CC F2 O2 A2
                go_wp2
                go_end0
                exact ⟨rfl, unhide FF⟩
              · have h3' : ¬ (mid : Int) + (m : Int) - (r : Int) < (b : Int) := by have := unhide HE; omega
                have FF := hide (unhide hfin g1 g1 _ P1 A1 ⟨unhide S2, Pm.refl _ _ _, unhide T2⟩ (by
                  have he := unhide HE
                  by_cases hq : e = b
                  · have := P1.asc_out (unhide MD).a3 (.inr (Nat.le_refl _)); rw [hq] at this; exact this
                  · have h5 : e = mid := by omega
                    have := P1.asc_out (unhide MD).a4 (.inr (by omega)); rw [h5] at this; exact this))
                clear S2 T2 P1 A1 hfin HI2 HI1 MD PG SG
                go_wp2
                go_end0
                exact ⟨rfl, unhide FF⟩
          · have q2' : ¬ (r : Int) < (mid : Int) := by omega
            have q3' : ¬ (m : Int) < (mid : Int) + (m : Int) - (r : Int) := by omega
            have S1 := unhide HSN (.inr (by omega))
            clear HSN HSC S
            have h2' : (a : Int) < (r : Int) := by omega
            have h3' : (mid : Int) + (m : Int) - (r : Int) < (b : Int) := by omega
            have A1 : Asc k G a mid := by
              by_cases hq : r = a
              · have := (unhide MD).a2; rw [hq] at this; exact this
              · have h5 : r = mid := by omega
                have := (unhide MD).a1; rw [h5] at this; exact this
            have P1 : Pm a mid G G := Pm.refl _ _ _
            obtain ⟨g1, hg1⟩ : ∃ g, g = G := ⟨_, rfl⟩
            have S2 := S1
            have T2 := SG
            clear S1
            have P1' : Pm a mid G g1 := by rw [hg1]; exact P1
            have A1' : Asc k g1 a mid := by rw [hg1]; exact A1
            rw [← hg1] at S2 T2
            clear P1 A1 hg1
            have P1 := P1'
            have A1 := A1'
            clear P1' A1'
            have A3 := hide (P1.asc_out (unhide MD).a3 (.inr (Nat.le_refl _)))
            have A4 := hide (P1.asc_out (unhide MD).a4 (.inr (by have := unhide HE; omega)))
            have CC := unhide HI2 (by have := unhide HE; omega) (by have := unhide HE; omega) _ _ S2 T2 A3 A4
            have F2 : Hid (∀ g2 W, Ord w0 blk off n L k mid b g1 g2 W → Asc k g2 mid b → ∃ g, Ord w0 blk off n L k a b f g W ∧ Asc k g a b) := fun g2 W o a2 => unhide hfin g1 g2 W P1 A1 o a2
            clear A3 A4 S2 T2 P1 A1 hfin HI2 HI1 MD PG SG
            go_wp2_with fail
            refine (unhide CC).mono ?_
            rintro e' w3 ⟨rfl, g2, O2, A2⟩
            have FF := hide (unhide F2 g2 w3 O2 A2)
            clear CC F2 O2 A2
            go_wp2
            go_end0
            exact ⟨rfl, unhide FF⟩
        · have q1' : ¬ (r : Int) < (m : Int) := by omega
          have q4' : ¬ (mid : Int) < (mid : Int) + (m : Int) - (r : Int) := by omega
          have S1 := unhide HSN (.inl (by omega))
          clear HSN HSC S
          have h2' : (a : Int) < (r : Int) := by omega
          by_cases q2 : r < mid
          · have q2' : (r : Int) < (mid : Int) := by omega
            have CC := unhide HI1 (by omega) (by omega) _ _ S1 SG MD
            clear S1
            go_wp2_with fail
            refine (unhide CC).mono ?_
            rintro e' w2 ⟨rfl, g1, O1, A1⟩
            have P1 := O1.2.1
            have S2 := hide O1.1
            have T2 := hide O1.2.2
            clear CC O1
            have FF := hide (unhide hfin g1 g1 _ P1 A1 ⟨unhide S2, Pm.refl _ _ _, unhide T2⟩ (by
              have he := unhide HE
              by_cases hq : e = b
              · have := P1.asc_out (unhide MD).a3 (.inr (Nat.le_refl _)); rw [hq] at this; exact this
              · have h5 : e = mid := by omega
                have := P1.asc_out (unhide MD).a4 (.inr (by omega)); rw [h5] at this; exact this))
            clear S2 T2 P1 A1 hfin HI2 HI1 MD PG SG
            go_wp2
            go_end0
            exact ⟨rfl, unhide FF⟩
          · have q2' : ¬ (r : Int) < (mid : Int) := by omega
            have A1 : Asc k G a mid := by
              by_cases hq : r = a
              · have := (unhide MD).a2; rw [hq] at this; exact this
              · have h5 : r = mid := by omega
                have := (unhide MD).a1; rw [h5] at this; exact this
            have P1 : Pm a mid G G := Pm.refl _ _ _
            obtain ⟨g1, hg1⟩ : ∃ g, g = G := ⟨_, rfl⟩
            have S2 := S1
            have T2 := SG
            clear S1
            have P1' : Pm a mid G g1 := by rw [hg1]; exact P1
            have A1' : Asc k g1 a mid := by rw [hg1]; exact A1
            rw [← hg1] at S2 T2
            clear P1 A1 hg1
            have P1 := P1'
            have A1 := A1'
            clear P1' A1'
            have FF := hide (unhide hfin g1 g1 _ P1 A1 ⟨unhide S2, Pm.refl _ _ _, unhide T2⟩ (by
              have he := unhide HE
              by_cases hq : e = b
              · have := P1.asc_out (unhide MD).a3 (.inr (Nat.le_refl _)); rw [hq] at this; exact this
              · have h5 : e = mid := by omega
                have := P1.asc_out (unhide MD).a4 (.inr (by omega)); rw [h5] at this; exact this))
            clear S2 T2 P1 A1 hfin HI2 HI1 MD PG SG
            go_wp2
            go_end0
            exact ⟨rfl, unhide FF⟩

theorem merge_any (w0 : World) (blk off n cap L : Nat) (k : Nat → Nat) (bx : Value) (hc : CmpOK w0 blk L k bx) (hn : n ≤ 1000) : ∀ (N a m b : Nat), b - a ≤ N → a < m → m < b → b ≤ n → Merges w0 blk off n cap L k bx a m b
  | 0, a, m, b, h, h1, h2, h3 => by omega
  | N + 1, a, m, b, h, h1, h2, h3 => by
    by_cases c1 : m = a + 1
    · subst c1
      intro f w hr hst hA hB
      have := merge_first w0 blk off n cap L k f bx a b w hc hr hst hn (by omega) h3 hB
      rw [show ((a + 1 : Nat) : Int) = (a : Int) + 1 by omega]
      exact this
    · by_cases c2 : b = m + 1
      · subst c2
        intro f w hr hst hA hB
        have := merge_last w0 blk off n cap L k f bx a m w hc hr hst hn (by omega) h3 hA
        rw [show ((m + 1 : Nat) : Int) = (m : Int) + 1 by omega]
        exact this
      · exact merge_more w0 blk off n cap L k bx hc hn a m b (by omega) (by omega) h3 fun a' m' b' g1 g2 g3 g4 => merge_any w0 blk off n cap L k bx hc hn N a' m' b' (by omega) g2 g3 g4
end Go.Proofs.YtgnkhfmpooomkaaDoor
