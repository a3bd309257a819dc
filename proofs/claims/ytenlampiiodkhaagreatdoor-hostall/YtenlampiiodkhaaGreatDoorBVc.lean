/-
  SrtB, SrtC, SrtD, SrtE, SrtF.
-/
import Derived.Test.YtenlampiiodkhaaGreatDoorBTc
import Derived.Test.YtenlampiiodkhaaGreatDoorPunyNc
namespace Go.Proofs.YtenlampiiodkhaaGreatDoor
set_option linter.unusedVariables false
open Go.RowKit
def cf (a b : Nat) : Int := if a < b then -1 else if b < a then 1 else 0
theorem cf_lt {a b : Nat} (h : a < b) : cf a b < 0 := by unfold cf; rw [if_pos h]; omega
theorem cf_ge {a b : Nat} (h : ¬ a < b) : ¬ cf a b < 0 := by unfold cf; rw [if_neg h]; split <;> omega
def CmpOK (w0 : World) (blk L : Nat) (k : Nat → Nat) (bx : Value) : Prop :=
  ∀ W, Oth blk w0 W → ∀ x y : Nat, x < L → y < L → Calls Tryz.prog 196 #[.int .i64 (x : Int), .int .i64 (y : Int), bx] W fun e w' => e = .returned (.int .i64 (cf (k x) (k y))) ∧ ∃ q, w' = W.drewN q
theorem CmpOK.at {w0 W : World} {blk L off n : Nat} {k f : Nat → Nat} {bx : Value} (h : CmpOK w0 blk L k bx) (S : SRow w0 blk off n L f W) (i j : Nat) (hi : i < n) (hj : j < n) (m : Nat) :
    Calls Tryz.prog 196 #[.int .i64 (f i : Int), .int .i64 (f j : Int), bx] (W.drewN m) fun e w' => e = .returned (.int .i64 (cf (k (f i)) (k (f j)))) ∧ ∃ q, w' = (W.drewN m).drewN q :=
  h _ (S.oth.drewN m) _ _ (S.lt i hi) (S.lt j hj)
def Ord (w0 : World) (blk off n L : Nat) (k : Nat → Nat) (a b : Nat) (f g : Nat → Nat) (W : World) : Prop := SRow w0 blk off n L g W ∧ Pm a b f g ∧ St k g n
set_option maxHeartbeats 4000000 in
set_option maxRecDepth 100000 in
theorem insertion_any (w0 : World) (blk off n cap L : Nat) (k f : Nat → Nat) (bx : Value) (a b : Nat) (w : World) (hc : CmpOK w0 blk L k bx) (hr : SRow w0 blk off n L f w) (hst : St k f n) (hn : n ≤ 1000) (hab : a ≤ b) (hb : b ≤ n) :
    Calls Tryz.prog 216 #[.slice (some ⟨blk, off, none⟩) n cap, .int .i64 (a : Int), .int .i64 (b : Int), .func (.func 196) #[] #[bx]] w fun e w' =>
      e = .returned (.tuple #[]) ∧ ∃ g, Ord w0 blk off n L k a b f g w' ∧ Asc k g a b := by
  go_enter Tryz.func216, Tryz.ntmps216; have HR : Hid (Ord w0 blk off n L k a b f f w) := ⟨hr, Pm.refl _ _ _, hst⟩; have HC := hide hc; clear hr hst hc; go_wp2_with fail
  go_loopw [8] (fun vi wr => ∃ (i : Nat) (g : Nat → Nat), a < i ∧ i ≤ b + 1 ∧ vi = .int .i64 i ∧ Hid (Ord w0 blk off n L k a b f g wr) ∧ Hid (Asc k g a i)) (fun vi _ => b + 1 - (intOf vi).toNat)
  case atStart => exact ⟨a + 1, f, by omega, by omega, by simp, HR, fun x y h1 h2 h3 => by omega⟩
  case round =>
    clear HR; obtain ⟨i, g, hai, hib, rfl, S, A⟩ := hrel; by_cases hlt : i < b
    · go_wp2_with fail
      go_loopw [9] (fun vj wr2 => ∃ (j : Nat) (g2 : Nat → Nat), a ≤ j ∧ j ≤ i ∧ vj = .int .i64 j ∧ Hid (Ord w0 blk off n L k a b f g2 wr2) ∧ Hid (InI k g2 a i j)) (fun vj _ => (intOf vj).toNat)
      case atStart => exact ⟨i, g, by omega, Nat.le_refl _, rfl, S, InI.start A⟩
      case round =>
        clear S A; obtain ⟨j, g2, haj, hji, rfl, S, A⟩ := hrel; by_cases hja : a < j
        · obtain ⟨jp, rfl⟩ : ∃ q, j = q + 1 := ⟨j - 1, by omega⟩; obtain ⟨S0, PM, ST⟩ := unhide S; have l1 := S0.cell (jp + 1) (by omega); have l2 := S0.cell jp (by omega); have f1 := S0.fz (jp + 1) (by omega); have f2 := S0.fz jp (by omega); have hcm := fun m => (unhide HC).at S0 (jp + 1) jp (by omega) (by omega) m; obtain ⟨iN, hiN⟩ : ∃ q, q = jp + 1 := ⟨_, rfl⟩; have e1 : ((jp : Int) + 1).toNat = iN := by omega
          have p1 : (0 : Int) ≤ (jp : Int) + 1 := by omega
          have b1 : (jp : Int) + 1 < (n : Int) := by omega
          have b2 : (jp : Int) < (n : Int) := by omega
          have r1 : IntKind.i64.wrap ((jp : Int) + 1) = (jp : Int) + 1 := by rw [IntKind.wrap_i64]; omega
          have r2 : IntKind.i64.wrap (jp : Int) = (jp : Int) := by rw [IntKind.wrap_i64]; omega
          have hgd : decide ((jp : Int) + 1 > (a : Int)) = true := decide_eq_true (by omega); have hgd' : (a : Int) < (jp : Int) + 1 := by omega
          rw [show ((jp + 1 : Nat) : Int) = (jp : Int) + 1 by omega]; by_cases hlv : k (g2 (jp + 1)) < k (g2 jp)
          · have hv := cf_lt hlv; have hd : decide (cf (k (g2 (jp + 1))) (k (g2 jp)) < 0) = true := decide_eq_true hv; have HNEXT : ∀ W, Hid (SRow w0 blk off n L (sw g2 (jp + 1) jp) W) → Hid (Ord w0 blk off n L k a b f (sw g2 (jp + 1) jp) W) ∧ Hid (InI k (sw g2 (jp + 1) jp) a i jp) := fun W hW =>
              ⟨⟨hW, PM.trans ((by rw [sw_rot]; exact (pm_rot g2 (by omega) (by omega)).mono (by omega) (by omega)) : Pm a b g2 (sw g2 (jp + 1) jp)), ST.sw (by omega) hlv⟩, (unhide A).step (by omega) (by omega) hlv⟩
            have HNX := hide HNEXT; have HS3 : Hid (∀ q, SRow w0 blk off n L (sw g2 (jp + 1) jp) (((wr.drewN q).setCell ⟨blk, off + iN, none⟩ (.int .i64 (g2 jp : Int))).setCell ⟨blk, off + jp, none⟩ (.int .i64 (g2 (jp + 1) : Int))).drew) := by
              intro q; rw [hiN]; exact (S0.drewN q).sw (jp + 1) jp (by omega) (by omega)
            have HC3 : Hid (∀ q, ∃ u, ((wr.drewN q).setCell ⟨blk, off + iN, none⟩ (.int .i64 (g2 jp : Int))).cell? ⟨blk, off + jp, none⟩ = some u) := by
              intro q; rw [hiN]; exact (S0.drewN q).c2 (jp + 1) jp (by omega) (by omega) _
            clear S0 PM ST S A HNEXT; generalize cf (k (g2 (jp + 1))) (k (g2 jp)) = z at *; generalize sw g2 (jp + 1) jp = g3 at *; generalize (g2 (jp + 1) : Int) = x1 at *; generalize (g2 jp : Int) = x2 at *; rw [← hiN] at l1 f1; clear hiN; go_wp2_with fail
            go_quiet (first | (go_at_call 196; exact Calls.quiet_of (hcm _)))
            have S3 := hide (unhide HS3 nq); obtain ⟨u, c3⟩ := unhide HC3 nq; have l1' : (wr.drewN nq).cell? ⟨blk, off + iN, none⟩ = some (.int .i64 x1) := l1; have l2' : (wr.drewN nq).cell? ⟨blk, off + jp, none⟩ = some (.int .i64 x2) := l2; have f1' : (wr.drewN nq).frozen? ⟨blk, off + iN, none⟩ = false := f1; have f2' : (wr.drewN nq).frozen? ⟨blk, off + jp, none⟩ = false := f2; clear HS3 HC3 hcm l1 l2 f1 f2; generalize wr.drewN nq = w2 at *; go_wp2_with fail
            go_region
            clear c3 l1' l2' f1' f2'; generalize ((w2.setCell ⟨blk, off + iN, none⟩ (.int .i64 x2)).setCell ⟨blk, off + jp, none⟩ (.int .i64 x1)).drew = w3 at S3 ⊢; clear e1; go_wp2; exact ⟨⟨jp, g3, by omega, by omega, by first | rfl | simp, (unhide HNX w3 S3).1, (unhide HNX w3 S3).2⟩, (show ((jp : Int)).toNat < ((jp : Int) + 1).toNat by omega)⟩
          · have hv := cf_ge hlv; have hd : decide (cf (k (g2 (jp + 1))) (k (g2 jp)) < 0) = false := decide_eq_false hv; have HEND : Hid (∀ q, Ord w0 blk off n L k a b f g2 (wr.drewN q)) := fun q => ⟨S0.drewN q, PM, ST⟩; have HA2 := hide ((unhide A).stop (by omega) (by omega) (.inr (by simpa using hlv))); clear S0 PM ST S A; generalize cf (k (g2 (jp + 1))) (k (g2 jp)) = z at *; generalize (g2 (jp + 1) : Int) = x1 at *; generalize (g2 jp : Int) = x2 at *; rw [← hiN] at l1 f1; clear hiN; go_wp2_with fail
            go_quiet (first | (go_at_call 196; exact Calls.quiet_of (hcm _)))
            clear hcm l1 l2 f1 f2 e1; go_wp2; exact ⟨⟨i + 1, g2, by omega, by omega, by simp, unhide HEND nq, HA2⟩, (show b + 1 - ((i : Int) + 1).toNat < b + 1 - ((i : Int)).toNat by omega)⟩
        · have hgd : decide ((j : Int) > (a : Int)) = false := decide_eq_false (by omega); have hgd' : ¬ (a : Int) < (j : Int) := by omega
          obtain ⟨S0, PM, ST⟩ := unhide S; have HEND : Hid (Ord w0 blk off n L k a b f g2 wr.drew) := ⟨S0.drew, PM, ST⟩; have HA2 := hide ((unhide A).stop haj hji (.inl (by omega))); clear S0 PM ST S A; go_wp2_with fail
          go_region
          go_wp2; exact ⟨⟨i + 1, g2, by omega, by omega, by simp, HEND, HA2⟩, (show b + 1 - ((i : Int) + 1).toNat < b + 1 - ((i : Int)).toNat by omega)⟩
    · go_wp2
      go_end0
      have A2 : Asc k g a b := fun x y h1 h2 h3 => (unhide A) x y h1 h2 (by omega); exact ⟨rfl, g, unhide S, A2⟩
end Go.Proofs.YtenlampiiodkhaaGreatDoor
namespace Go.Proofs.YtenlampiiodkhaaGreatDoor
set_option linter.unusedVariables false
open Go.RowKit
set_option maxHeartbeats 1000000 in
set_option maxRecDepth 100000 in
theorem merge_first (w0 : World) (blk off n cap L : Nat) (k f : Nat → Nat) (bx : Value) (a b : Nat) (w : World) (hc : CmpOK w0 blk L k bx) (hr : SRow w0 blk off n L f w) (hst : St k f n) (hn : n ≤ 1000) (hab : a + 1 < b) (hb : b ≤ n) (hB : Asc k f (a + 1) b) :
    Calls Tryz.prog 217 #[.slice (some ⟨blk, off, none⟩) n cap, .int .i64 (a : Int), .int .i64 ((a : Int) + 1), .int .i64 (b : Int), .func (.func 196) #[] #[bx]] w fun e w' =>
      e = .returned (.tuple #[]) ∧ ∃ g, Ord w0 blk off n L k a b f g w' ∧ Asc k g a b := by
  go_enter Tryz.func217, Tryz.ntmps217; have HR := hide hr; have HC := hide hc; have HST := hide hst; have HB := hide hB; clear hr hst hc hB; have h1 : ((a : Int) + 1 - (a : Int)) = 1 := by omega
  go_wp2_with fail
  go_loopw [10, 11] (fun vi vj wr => ∃ (i j : Nat), a + 1 ≤ i ∧ i ≤ j ∧ j ≤ b ∧ vi = .int .i64 i ∧ vj = .int .i64 j ∧ Hid (SRow w0 blk off n L f wr) ∧ Hid (∀ x, a + 1 ≤ x → x < i → k (f x) < k (f a)) ∧ Hid (∀ x, j ≤ x → x < b → k (f a) ≤ k (f x))) (fun vi vj _ => (intOf vj).toNat - (intOf vi).toNat)
  case atStart => exact ⟨a + 1, b, by omega, by omega, by omega, by simp, rfl, HR, fun x h1 h2 => by omega, fun x h1 h2 => by omega⟩
  case round =>
    clear HR; obtain ⟨i, j, hi1, hij, hjb, rfl, rfl, S, LO, HI⟩ := hrel; by_cases hlt : i < j
    · obtain ⟨h, hh⟩ : ∃ h, h = (i + j) / 2 := ⟨_, rfl⟩; have hh1 : i ≤ h := by omega
      have hh2 : h < j := by omega
      have S0 := unhide S; have l1 := S0.cell h (by omega); have l2 := S0.cell a (by omega); have hcm := fun m => (unhide HC).at S0 h a (by omega) (by omega) m; have HS := hide (fun q => S0.drewN q); have b1 : (h : Int) < (n : Int) := by omega
      have b2 : (a : Int) < (n : Int) := by omega
      have EH : Hid (((i : Int) + (j : Int)) / 2 = (h : Int)) := (show ((i : Int) + (j : Int)) / 2 = (h : Int) by omega); clear S0 S hh; by_cases hlv : k (f h) < k (f a)
      · have hv := cf_lt hlv; have hd : decide (cf (k (f h)) (k (f a)) < 0) = true := decide_eq_true hv; have LO2 : Hid (∀ x, a + 1 ≤ x → x < h + 1 → k (f x) < k (f a)) := fun x h1 h2 => by
          by_cases e : x = h
          · rw [e]; exact hlv
          · exact Nat.lt_of_le_of_lt (unhide HB x h h1 (by omega) (by omega)) hlv
        clear LO hlv; generalize cf (k (f h)) (k (f a)) = z at *; generalize (f h : Int) = x1 at *; generalize (f a : Int) = x2 at *; go_wp2_with fail
        rw [unhide EH]; clear EH
        go_quiet (first | (go_at_call 196; exact Calls.quiet_of (hcm _)))
        clear hcm l1 l2; go_wp2; exact ⟨⟨h + 1, j, by omega, by omega, by omega, by simp, rfl, unhide HS nq, LO2, HI⟩, (show ((j : Int)).toNat - ((h : Int) + 1).toNat < ((j : Int)).toNat - ((i : Int)).toNat by omega)⟩
      · have hv := cf_ge hlv; have hd : decide (cf (k (f h)) (k (f a)) < 0) = false := decide_eq_false hv; have HI2 : Hid (∀ x, h ≤ x → x < b → k (f a) ≤ k (f x)) := fun x h1 h2 => by
          by_cases e : x = h
          · rw [e]; omega
          · have := unhide HB h x (by omega) (by omega) (by omega); omega
        clear HI hlv; generalize cf (k (f h)) (k (f a)) = z at *; generalize (f h : Int) = x1 at *; generalize (f a : Int) = x2 at *; go_wp2_with fail
        rw [unhide EH]; clear EH
        go_quiet (first | (go_at_call 196; exact Calls.quiet_of (hcm _)))
        clear hcm l1 l2; go_wp2; exact ⟨⟨i, h, by omega, by omega, by omega, rfl, rfl, unhide HS nq, LO, HI2⟩, (show ((h : Int)).toNat - ((i : Int)).toNat < ((j : Int)).toNat - ((i : Int)).toNat by omega)⟩
    · have e : j = i := by omega
      subst e; clear hlt hij; have hfin : Hid (∀ W, SRow w0 blk off n L (rot f a (a + 1) j) W → ∃ g, Ord w0 blk off n L k a b f g W ∧ Asc k g a b) := fun W hW =>
        ⟨rot f a (a + 1) j, ⟨hW, (pm_rot f (by omega) hi1).mono (Nat.le_refl _) hjb, (unhide HST).rot (by omega) hi1 (by omega) fun x y h1 h2 h3 h4 => by
          have e : x = a := by omega
          rw [e]; exact unhide LO y h3 h4⟩, asc_first (unhide HB) hi1 hjb (unhide LO) (unhide HI)⟩
      clear LO HI; go_wp2_with fail
      go_loopw [13] (fun vk wr2 => ∃ q : Nat, a ≤ q ∧ q + 1 ≤ j ∧ vk = .int .i64 q ∧ Hid (SRow w0 blk off n L (rot f a (a + 1) (q + 1)) wr2)) (fun vk _ => j - (intOf vk).toNat)
      case atStart => exact ⟨a, Nat.le_refl _, hi1, rfl, by rw [rot_none']; exact S⟩
      case round =>
        clear S; obtain ⟨q, hq1, hq2, rfl, S⟩ := hrel; by_cases hqj : q + 1 < j
        · have hqj' : (q : Int) < (j : Int) - 1 := by omega
          obtain ⟨iN, hiN⟩ : ∃ z, z = q + 1 := ⟨_, rfl⟩; have S0 := unhide S; generalize hg : rot f a (a + 1) (q + 1) = g at *; have S3 : Hid (SRow w0 blk off n L (rot f a (a + 1) (q + 2)) ((wr.setCell ⟨blk, off + q, none⟩ (.int .i64 (g iN : Int))).setCell ⟨blk, off + iN, none⟩ (.int .i64 (g q : Int))).drew) := by
            have := S0.sw q (q + 1) (by omega) (by omega); rw [← hg, rot_fwd f hq1, hg] at this; rw [hiN]; exact this
          have c1 := S0.cell iN (by omega); have c2 := S0.cell q (by omega); have f1 := S0.fz iN (by omega); have f2 := S0.fz q (by omega); obtain ⟨u, c3⟩ := S0.c2 q iN (by omega) (by omega) (.int .i64 (g iN : Int)); have e1 : ((q : Int) + 1).toNat = iN := by omega
          have p1 : (0 : Int) ≤ (q : Int) + 1 := by omega
          have b1 : (q : Int) + 1 < (n : Int) := by omega
          have b2 : (q : Int) < (n : Int) := by omega
          have r1 : IntKind.i64.wrap ((q : Int) + 1) = (q : Int) + 1 := by rw [IntKind.wrap_i64]; omega
          clear S S0 hiN hg; generalize (g iN : Int) = gi at *; generalize (g q : Int) = gj at *; go_wp2_with fail
          go_region
          clear c1 c2 c3 f1 f2; generalize ((wr.setCell ⟨blk, off + q, none⟩ (.int .i64 gi)).setCell ⟨blk, off + iN, none⟩ (.int .i64 gj)).drew = w3 at S3 ⊢; clear e1; go_wp2; exact ⟨⟨q + 1, by omega, by omega, by simp, S3⟩, (show j - ((q : Int) + 1).toNat < j - ((q : Int)).toNat by omega)⟩
        · have hqj' : ¬ (q : Int) < (j : Int) - 1 := by omega
          have e : q + 1 = j := by omega
          rw [e] at S; go_wp2
          (try simp only [Exit.inBlock, Exit.then])
          refine bodyPost_ret (results_none rfl _ _ _) rfl ?_; exact ⟨rfl, unhide hfin _ (unhide S)⟩
set_option maxHeartbeats 1000000 in
set_option maxRecDepth 100000 in
theorem merge_last (w0 : World) (blk off n cap L : Nat) (k f : Nat → Nat) (bx : Value) (a m : Nat) (w : World) (hc : CmpOK w0 blk L k bx) (hr : SRow w0 blk off n L f w) (hst : St k f n) (hn : n ≤ 1000) (ham : a + 1 < m) (hb : m + 1 ≤ n) (hA : Asc k f a m) :
    Calls Tryz.prog 217 #[.slice (some ⟨blk, off, none⟩) n cap, .int .i64 (a : Int), .int .i64 (m : Int), .int .i64 ((m : Int) + 1), .func (.func 196) #[] #[bx]] w fun e w' =>
      e = .returned (.tuple #[]) ∧ ∃ g, Ord w0 blk off n L k a (m + 1) f g w' ∧ Asc k g a (m + 1) := by
  go_enter Tryz.func217, Tryz.ntmps217; have HR := hide hr; have HC := hide hc; have HST := hide hst; have HA := hide hA; clear hr hst hc hA; have h0 : ((m : Int) - (a : Int) == 1) = false := beq_eq_false_iff_ne.2 (by omega); have h0' : ¬ ((m : Int) - (a : Int) = 1) := by omega
  have h1 : ((m : Int) + 1 - (m : Int)) = 1 := by omega
  go_wp2_with fail
  go_loopw [14, 15] (fun vi vj wr => ∃ (i j : Nat), a ≤ i ∧ i ≤ j ∧ j ≤ m ∧ vi = .int .i64 i ∧ vj = .int .i64 j ∧ Hid (SRow w0 blk off n L f wr) ∧ Hid (∀ x, a ≤ x → x < i → k (f x) ≤ k (f m)) ∧ Hid (∀ x, j ≤ x → x < m → k (f m) < k (f x))) (fun vi vj _ => (intOf vj).toNat - (intOf vi).toNat)
  case atStart => exact ⟨a, m, by omega, by omega, by omega, rfl, rfl, HR, fun x h1 h2 => by omega, fun x h1 h2 => by omega⟩
  case round =>
    clear HR; obtain ⟨i, j, hi1, hij, hjb, rfl, rfl, S, LO, HI⟩ := hrel; by_cases hlt : i < j
    · obtain ⟨h, hh⟩ : ∃ h, h = (i + j) / 2 := ⟨_, rfl⟩; have hh1 : i ≤ h := by omega
      have hh2 : h < j := by omega
      have S0 := unhide S; have l1 := S0.cell m (by omega); have l2 := S0.cell h (by omega); have hcm := fun q => (unhide HC).at S0 m h (by omega) (by omega) q; have HS := hide (fun q => S0.drewN q); have b1 : (h : Int) < (n : Int) := by omega
      have b2 : (m : Int) < (n : Int) := by omega
      have EH : Hid (((i : Int) + (j : Int)) / 2 = (h : Int)) := (show ((i : Int) + (j : Int)) / 2 = (h : Int) by omega); clear S0 S hh; by_cases hlv : k (f m) < k (f h)
      · have hv := cf_lt hlv; have hd : decide (cf (k (f m)) (k (f h)) < 0) = true := decide_eq_true hv; have HI2 : Hid (∀ x, h ≤ x → x < m → k (f m) < k (f x)) := fun x h1 h2 => by
          by_cases e : x = h
          · rw [e]; exact hlv
          · exact Nat.lt_of_lt_of_le hlv (unhide HA h x (by omega) (by omega) (by omega))
        clear HI hlv; generalize cf (k (f m)) (k (f h)) = z at *; generalize (f h : Int) = x1 at *; generalize (f m : Int) = x2 at *; go_wp2_with fail
        rw [unhide EH]; clear EH
        go_quiet (first | (go_at_call 196; exact Calls.quiet_of (hcm _)))
        clear hcm l1 l2; go_wp2; exact ⟨⟨i, h, by omega, by omega, by omega, rfl, rfl, unhide HS nq, LO, HI2⟩, (show ((h : Int)).toNat - ((i : Int)).toNat < ((j : Int)).toNat - ((i : Int)).toNat by omega)⟩
      · have hv := cf_ge hlv; have hd : decide (cf (k (f m)) (k (f h)) < 0) = false := decide_eq_false hv; have LO2 : Hid (∀ x, a ≤ x → x < h + 1 → k (f x) ≤ k (f m)) := fun x h1 h2 => by
          by_cases e : x = h
          · rw [e]; omega
          · have := unhide HA x h (by omega) (by omega) (by omega); omega
        clear LO hlv; generalize cf (k (f m)) (k (f h)) = z at *; generalize (f h : Int) = x1 at *; generalize (f m : Int) = x2 at *; go_wp2_with fail
        rw [unhide EH]; clear EH
        go_quiet (first | (go_at_call 196; exact Calls.quiet_of (hcm _)))
        clear hcm l1 l2; go_wp2; exact ⟨⟨h + 1, j, by omega, by omega, by omega, by simp, rfl, unhide HS nq, LO2, HI⟩, (show ((j : Int)).toNat - ((h : Int) + 1).toNat < ((j : Int)).toNat - ((i : Int)).toNat by omega)⟩
    · have e : j = i := by omega
      subst e; clear hlt hij; have hfin : Hid (∀ W, SRow w0 blk off n L (rot f j m (m + 1)) W → ∃ g, Ord w0 blk off n L k a (m + 1) f g W ∧ Asc k g a (m + 1)) := fun W hW =>
        ⟨rot f j m (m + 1), ⟨hW, (pm_rot f hjb (by omega)).mono hi1 (Nat.le_refl _), (unhide HST).rot hjb (by omega) (by omega) fun x y h1 h2 h3 h4 => by
          have e : y = m := by omega
          rw [e]; exact unhide HI x h1 h2⟩, asc_last (unhide HA) hi1 hjb (unhide LO) (unhide HI)⟩
      clear LO HI; go_wp2_with fail
      go_loopw [17] (fun vk wr2 => ∃ q : Nat, j ≤ q ∧ q ≤ m ∧ vk = .int .i64 q ∧ Hid (SRow w0 blk off n L (rot f q m (m + 1)) wr2)) (fun vk _ => (intOf vk).toNat)
      case atStart => exact ⟨m, hjb, Nat.le_refl _, rfl, by rw [rot_none]; exact S⟩
      case round =>
        clear S; obtain ⟨q, hq1, hq2, rfl, S⟩ := hrel; by_cases hqj : j < q
        · obtain ⟨p, rfl⟩ : ∃ z, q = z + 1 := ⟨q - 1, by omega⟩; have hqj' : (j : Int) < (p : Int) + 1 := by omega
          obtain ⟨iN, hiN⟩ : ∃ z, z = p + 1 := ⟨_, rfl⟩; have S0 := unhide S; generalize hg : rot f (p + 1) m (m + 1) = g at *; have S3 : Hid (SRow w0 blk off n L (rot f p m (m + 1)) ((wr.setCell ⟨blk, off + iN, none⟩ (.int .i64 (g p : Int))).setCell ⟨blk, off + p, none⟩ (.int .i64 (g iN : Int))).drew) := by
            have := S0.sw (p + 1) p (by omega) (by omega); rw [← hg, rot_bwd f (by omega), hg] at this; rw [hiN]; exact this
          have c1 := S0.cell iN (by omega); have c2 := S0.cell p (by omega); have f1 := S0.fz iN (by omega); have f2 := S0.fz p (by omega); obtain ⟨u, c3⟩ := S0.c2 iN p (by omega) (by omega) (.int .i64 (g p : Int)); have e1 : ((p : Int) + 1).toNat = iN := by omega
          have p1 : (0 : Int) ≤ (p : Int) + 1 := by omega
          have b1 : (p : Int) + 1 < (n : Int) := by omega
          have b2 : (p : Int) < (n : Int) := by omega
          have r1 : IntKind.i64.wrap ((p : Int) + 1) = (p : Int) + 1 := by rw [IntKind.wrap_i64]; omega
          have r2 : IntKind.i64.wrap (p : Int) = (p : Int) := by rw [IntKind.wrap_i64]; omega
          rw [show ((p + 1 : Nat) : Int) = (p : Int) + 1 by omega]; clear S S0 hiN hg; generalize (g iN : Int) = gi at *; generalize (g p : Int) = gj at *; go_wp2_with fail
          go_region
          clear c1 c2 c3 f1 f2; generalize ((wr.setCell ⟨blk, off + iN, none⟩ (.int .i64 gj)).setCell ⟨blk, off + p, none⟩ (.int .i64 gi)).drew = w3 at S3 ⊢; clear e1; go_wp2; exact ⟨⟨p, by omega, by omega, by first | rfl | simp, S3⟩, (show ((p : Int)).toNat < ((p : Int) + 1).toNat by omega)⟩
        · have hqj' : ¬ (j : Int) < (q : Int) := by omega
          have e : q = j := by omega
          rw [e] at S; go_wp2
          (try simp only [Exit.inBlock, Exit.then])
          refine bodyPost_ret (results_none rfl _ _ _) rfl ?_; exact ⟨rfl, unhide hfin _ (unhide S)⟩
end Go.Proofs.YtenlampiiodkhaaGreatDoor
namespace Go.Proofs.YtenlampiiodkhaaGreatDoor
set_option linter.unusedVariables false
open Go.RowKit
def Merges (w0 : World) (blk off n cap L : Nat) (k : Nat → Nat) (bx : Value) (a m b : Nat) : Prop :=
  ∀ (f : Nat → Nat) (w : World), SRow w0 blk off n L f w → St k f n → Asc k f a m → Asc k f m b →
    Calls Tryz.prog 217 #[.slice (some ⟨blk, off, none⟩) n cap, .int .i64 (a : Int), .int .i64 (m : Int), .int .i64 (b : Int), .func (.func 196) #[] #[bx]] w fun e w' => e = .returned (.tuple #[]) ∧ ∃ g, Ord w0 blk off n L k a b f g w' ∧ Asc k g a b
def MRel (w0 : World) (blk off n L : Nat) (k f : Nat → Nat) (a m b mid : Nat) (vs vr : Value) (wr : World) : Prop :=
  ∃ (s r : Nat), a ≤ s ∧ s ≤ r ∧ r ≤ m ∧ r ≤ mid ∧ mid + m - s ≤ b ∧ vs = .int .i64 s ∧ vr = .int .i64 r ∧ Hid (SRow w0 blk off n L f wr) ∧
    Hid (∀ x y, a ≤ x → x < s → mid + m - s ≤ y → y < b → k (f x) ≤ k (f y)) ∧ Hid (∀ x y, r ≤ x → x < m → m ≤ y → y < mid + m - r → k (f y) < k (f x))
set_option maxHeartbeats 2000000 in
set_option maxRecDepth 100000 in
theorem merge_more (w0 : World) (blk off n cap L : Nat) (k : Nat → Nat) (bx : Value) (hc : CmpOK w0 blk L k bx) (hn : n ≤ 1000) (a m b : Nat) (ham : a + 1 < m) (hmb : m + 1 < b) (hbn : b ≤ n)
    (IH : ∀ a' m' b' : Nat, b' - a' < b - a → a' < m' → m' < b' → b' ≤ n → Merges w0 blk off n cap L k bx a' m' b') : Merges w0 blk off n cap L k bx a m b := by
  intro f w hr hst hA hB; go_enter Tryz.func217, Tryz.ntmps217; obtain ⟨mid, hmid⟩ : ∃ q, q = (a + b) / 2 := ⟨_, rfl⟩; have m1 : a + 1 < mid := by omega
  have m2 : mid + 1 < b := by omega
  have m3 : 2 * mid ≤ a + b := by omega
  have m4 : a + b ≤ 2 * mid + 1 := by omega
  have EM : Hid (((a : Int) + (b : Int)) / 2 = (mid : Int)) := (show ((a : Int) + (b : Int)) / 2 = (mid : Int) by omega); have HR := hide hr; have HC := hide hc; have HST := hide hst; have HA := hide hA; have HB := hide hB; have HI0 := hide IH; clear hr hst hc hA hB IH hmid; have h0 : ((m : Int) - (a : Int) == 1) = false := beq_eq_false_iff_ne.2 (by omega); have h0' : ¬ ((m : Int) - (a : Int) = 1) := by omega
  have h1 : ((b : Int) - (m : Int) == 1) = false := beq_eq_false_iff_ne.2 (by omega); have h1' : ¬ ((b : Int) - (m : Int) = 1) := by omega
  refine (Nat.lt_or_ge mid m).elim (fun hmm => ?br1) (fun hmm => ?br2)
  case' br1 =>
    have hq : ((a : Int) + (b : Int)) / 2 < (m : Int) := by rw [unhide EM]; omega
    have START : Hid (MRel w0 blk off n L k f a m b mid (.int .i64 ((mid : Int) + (m : Int) - (b : Int))) (.int .i64 (mid : Int)) w) :=
      ⟨mid + m - b, mid, by omega, by omega, by omega, by omega, by omega, by congr 1; omega, rfl, HR, fun x y h1 h2 h3 h4 => by omega, fun x y h1 h2 h3 h4 => by omega⟩
    clear HR; go_wp2_with fail
    rw [unhide EM]; clear hq
  case' br2 =>
    have hq : ¬ ((a : Int) + (b : Int)) / 2 < (m : Int) := by rw [unhide EM]; omega
    have START : Hid (MRel w0 blk off n L k f a m b mid (.int .i64 (a : Int)) (.int .i64 (m : Int)) w) :=
      ⟨a, m, by omega, by omega, by omega, by omega, by omega, rfl, rfl, HR, fun x y h1 h2 h3 h4 => by omega, fun x y h1 h2 h3 h4 => by omega⟩
    clear HR; go_wp2_with fail
    rw [unhide EM]; clear hq
  all_goals
    clear hmm EM h0 h0' h1 h1'
    go_loopw [20, 21] (fun vs vr wr => MRel w0 blk off n L k f a m b mid vs vr wr) (fun vs vr _ => (intOf vr).toNat - (intOf vs).toNat)
    case atStart => exact unhide START
    case round =>
      clear START; obtain ⟨s, r, has, hsr, hrm, hrmid, heb, rfl, rfl, S, LO, HI⟩ := hrel; by_cases hlt : s < r
      · obtain ⟨c, hcc⟩ : ∃ q, q = (s + r) / 2 := ⟨_, rfl⟩; have c1 : s ≤ c := by omega
        have c2 : c < r := by omega
        have EH : Hid (((s : Int) + (r : Int)) / 2 = (c : Int)) := (show ((s : Int) + (r : Int)) / 2 = (c : Int) by omega); clear hcc; obtain ⟨d, hd0⟩ : ∃ q, q = mid + m - 1 - c := ⟨_, rfl⟩; have d1 : m ≤ d := by omega
        have d2 : d < b := by omega
        have S0 := unhide S; have l1 := S0.cell d (by omega); have l2 := S0.cell c (by omega); have hcm := fun q => (unhide HC).at S0 d c (by omega) (by omega) q; have HS := hide (fun q => S0.drewN q); have b1 : (c : Int) < (n : Int) := by omega
        have e1 : ((mid : Int) + (m : Int) - 1 - (c : Int)).toNat = d := by omega
        have p1 : (0 : Int) ≤ (mid : Int) + (m : Int) - 1 - (c : Int) := by omega
        have b2 : (mid : Int) + (m : Int) - 1 - (c : Int) < (n : Int) := by omega
        have r1 : IntKind.i64.wrap ((mid : Int) + (m : Int) - 1 - (c : Int)) = (mid : Int) + (m : Int) - 1 - (c : Int) := by rw [IntKind.wrap_i64]; omega
        have HD := hide hd0; clear S0 S hd0; by_cases hlv : k (f d) < k (f c)
        · have hv := cf_lt hlv; have hd : decide (cf (k (f d)) (k (f c)) < 0) = true := decide_eq_true hv; have HI2 : Hid (∀ x y, c ≤ x → x < m → m ≤ y → y < mid + m - c → k (f y) < k (f x)) := fun x y h1 h2 h3 h4 => by
            have hdd := unhide HD; have q1 : k (f y) ≤ k (f d) := by
              by_cases e : y = d
              · rw [e]; exact Nat.le_refl _
              · exact unhide HB y d h3 (by omega) (by omega)
            have q2 : k (f c) ≤ k (f x) := by
              by_cases e : x = c
              · rw [e]; exact Nat.le_refl _
              · exact unhide HA c x (by omega) (by omega) (by omega)
            omega
          clear HI hlv; generalize cf (k (f d)) (k (f c)) = z at *; generalize (f d : Int) = x1 at *; generalize (f c : Int) = x2 at *; go_wp2_with fail
          rw [unhide EH]; clear EH
          go_quiet (first | (go_at_call 196; exact Calls.quiet_of (hcm _)))
          clear hcm l1 l2 e1 p1 b2 r1; go_wp2; exact ⟨⟨s, c, has, c1, by omega, by omega, heb, rfl, rfl, unhide HS nq, LO, HI2⟩, (show ((c : Int)).toNat - ((s : Int)).toNat < ((r : Int)).toNat - ((s : Int)).toNat by omega)⟩
        · have hv := cf_ge hlv; have hd : decide (cf (k (f d)) (k (f c)) < 0) = false := decide_eq_false hv; have LO2 : Hid (∀ x y, a ≤ x → x < c + 1 → mid + m - (c + 1) ≤ y → y < b → k (f x) ≤ k (f y)) := fun x y h1 h2 h3 h4 => by
            have hdd := unhide HD; have q1 : k (f d) ≤ k (f y) := by
              by_cases e : y = d
              · rw [e]; exact Nat.le_refl _
              · exact unhide HB d y (by omega) (by omega) (by omega)
            have q2 : k (f x) ≤ k (f c) := by
              by_cases e : x = c
              · rw [e]; exact Nat.le_refl _
              · exact unhide HA x c (by omega) (by omega) (by omega)
            omega
          clear LO hlv; generalize cf (k (f d)) (k (f c)) = z at *; generalize (f d : Int) = x1 at *; generalize (f c : Int) = x2 at *; go_wp2_with fail
          rw [unhide EH]; clear EH
          go_quiet (first | (go_at_call 196; exact Calls.quiet_of (hcm _)))
          clear hcm l1 l2 e1 p1 b2 r1; go_wp2; exact ⟨⟨c + 1, r, by omega, by omega, hrm, hrmid, by omega, by simp, rfl, unhide HS nq, LO2, HI⟩, (show ((r : Int)).toNat - ((c : Int) + 1).toNat < ((r : Int)).toNat - ((s : Int)).toNat by omega)⟩
      · have e : r = s := by omega
        subst e; clear hlt hsr; obtain ⟨e, he⟩ : ∃ q, q = mid + m - r := ⟨_, rfl⟩; have e1 : m ≤ e := by omega
        have e2 : e ≤ b := by omega
        have MD := hide (mids (mid := mid) (unhide HA) (unhide HB) has hrm e1 e2 (by omega) (by rw [he]; exact unhide LO) (by rw [he]; exact unhide HI)); have PG := hide ((pm_rot f hrm e1).mono has e2); have SG := hide ((unhide HST).rot hrm e1 (by omega) (by rw [he]; exact unhide HI)); have SN : r = m ∨ r = mid → Hid (SRow w0 blk off n L (rot f r m e) wr) := fun h => by
          rcases h with h | h
          · have := unhide S; rw [← h, rot_none]; exact S
          · have h2 : e = m := by omega
            rw [h2, rot_none']; exact S
        have SC : r < m → r < mid → Hid (Calls Tryz.prog 225 #[.slice (some ⟨blk, off, none⟩) n cap, .int .i64 (r : Int), .int .i64 (m : Int), .int .i64 ((mid : Int) + (m : Int) - (r : Int)), .func (.func 196) #[] #[bx]] wr fun e' w' => e' = .returned (.tuple #[]) ∧ SRow w0 blk off n L (rot f r m e) w') := fun h1 h2 => by
          have := rotate_any w0 blk off n cap L f (.func (.func 196) #[] #[bx]) r m e wr (unhide S) hn h1 (by omega) (by omega); rw [show ((e : Nat) : Int) = (mid : Int) + (m : Int) - (r : Int) by omega] at this; exact this
        have I1 : a < r → r < mid → ∀ g W, Hid (SRow w0 blk off n L g W) → Hid (St k g n) → Hid (Mids k g a r mid e b) → Hid (Calls Tryz.prog 217 #[.slice (some ⟨blk, off, none⟩) n cap, .int .i64 (a : Int), .int .i64 (r : Int), .int .i64 (mid : Int), .func (.func 196) #[] #[bx]] W fun e' w' => e' = .returned (.tuple #[]) ∧ ∃ g', Ord w0 blk off n L k a mid g g' w' ∧ Asc k g' a mid) := fun h1 h2 g W q1 q2 q3 =>
          unhide HI0 a r mid (by omega) h1 h2 (by omega) g W q1 q2 q3.a1 q3.a2
        have I2 : mid < e → e < b → ∀ g W, Hid (SRow w0 blk off n L g W) → Hid (St k g n) → Hid (Asc k g mid e) → Hid (Asc k g e b) → Hid (Calls Tryz.prog 217 #[.slice (some ⟨blk, off, none⟩) n cap, .int .i64 (mid : Int), .int .i64 ((mid : Int) + (m : Int) - (r : Int)), .int .i64 (b : Int), .func (.func 196) #[] #[bx]] W fun e' w' => e' = .returned (.tuple #[]) ∧ ∃ g', Ord w0 blk off n L k mid b g g' w' ∧ Asc k g' mid b) := fun h1 h2 g W q1 q2 q3 q4 => by
          have := unhide HI0 mid e b (by omega) h1 h2 (by omega) g W q1 q2 q3 q4; rw [show ((e : Nat) : Int) = (mid : Int) + (m : Int) - (r : Int) by omega] at this; exact this
        have HSN := hide SN; have HSC := hide SC; have HI1 := hide I1; have HI2 := hide I2; have HE := hide he; clear SN SC I1 I2 HI0 HC HST HA HB LO HI he; generalize rot f r m e = G at *; have hfin : Hid (∀ g1 g2 W, Pm a mid G g1 → Asc k g1 a mid → Ord w0 blk off n L k mid b g1 g2 W → Asc k g2 mid b → ∃ g, Ord w0 blk off n L k a b f g W ∧ Asc k g a b) := fun g1 g2 W p1 a1 o a2 =>
          ⟨g2, ⟨o.1, ((unhide PG).trans (p1.mono (Nat.le_refl _) (by omega))).trans (o.2.1.mono (by omega) (Nat.le_refl _)), o.2.2⟩, merged (unhide MD).cr p1 a1 o.2.1 a2⟩
        by_cases q1 : r < m
        · have q1' : (r : Int) < (m : Int) := by omega
          have q4' : (mid : Int) < (mid : Int) + (m : Int) - (r : Int) := by omega
          by_cases q2 : r < mid
          · have q2' : (r : Int) < (mid : Int) := by omega
            have q3' : (m : Int) < (mid : Int) + (m : Int) - (r : Int) := by omega
            have C0 := unhide HSC q1 q2; clear HSN HSC S; go_wp2_with fail
            refine (unhide C0).mono ?_; rintro e' w1 ⟨rfl, S1'⟩; have S1 := hide S1'; clear C0 S1'; by_cases h2 : a < r
            · have h2' : (a : Int) < (r : Int) := by omega
              have CC := unhide HI1 (by omega) (by omega) _ _ S1 SG MD; clear S1; go_wp2_with fail
              refine (unhide CC).mono ?_; rintro e' w2 ⟨rfl, g1, O1, A1⟩; have P1 := O1.2.1; have S2 := hide O1.1; have T2 := hide O1.2.2; clear CC O1; by_cases h3 : e < b
              · have h3' : (mid : Int) + (m : Int) - (r : Int) < (b : Int) := by have := unhide HE; omega
                have A3 := hide (P1.asc_out (unhide MD).a3 (.inr (Nat.le_refl _))); have A4 := hide (P1.asc_out (unhide MD).a4 (.inr (by have := unhide HE; omega))); have CC := unhide HI2 (by have := unhide HE; omega) (by have := unhide HE; omega) _ _ S2 T2 A3 A4; have F2 : Hid (∀ g2 W, Ord w0 blk off n L k mid b g1 g2 W → Asc k g2 mid b → ∃ g, Ord w0 blk off n L k a b f g W ∧ Asc k g a b) := fun g2 W o a2 => unhide hfin g1 g2 W P1 A1 o a2; clear A3 A4 S2 T2 P1 A1 hfin HI2 HI1 MD PG SG; go_wp2_with fail
                refine (unhide CC).mono ?_; rintro e' w3 ⟨rfl, g2, O2, A2⟩; have FF := hide (unhide F2 g2 w3 O2 A2); clear CC F2 O2 A2; go_wp2
                go_end0
                exact ⟨rfl, unhide FF⟩
              · have h3' : ¬ (mid : Int) + (m : Int) - (r : Int) < (b : Int) := by have := unhide HE; omega
                have FF := hide (unhide hfin g1 g1 _ P1 A1 ⟨unhide S2, Pm.refl _ _ _, unhide T2⟩ (by
                  have he := unhide HE; by_cases hq : e = b
                  · have := P1.asc_out (unhide MD).a3 (.inr (Nat.le_refl _)); rw [hq] at this; exact this
                  · have h5 : e = mid := by omega
                    have := P1.asc_out (unhide MD).a4 (.inr (by omega)); rw [h5] at this; exact this))
                clear S2 T2 P1 A1 hfin HI2 HI1 MD PG SG; go_wp2
                go_end0
                exact ⟨rfl, unhide FF⟩
            · have h2' : ¬ (a : Int) < (r : Int) := by omega
              have A1 : Asc k G a mid := by
                by_cases hq : r = a
                · have := (unhide MD).a2; rw [hq] at this; exact this
                · have h5 : r = mid := by omega
                  have := (unhide MD).a1; rw [h5] at this; exact this
              have P1 : Pm a mid G G := Pm.refl _ _ _; obtain ⟨g1, hg1⟩ : ∃ g, g = G := ⟨_, rfl⟩; have S2 := S1; have T2 := SG; clear S1; have P1' : Pm a mid G g1 := by rw [hg1]; exact P1
              have A1' : Asc k g1 a mid := by rw [hg1]; exact A1
              rw [← hg1] at S2 T2; clear P1 A1 hg1; have P1 := P1'; have A1 := A1'; clear P1' A1'; by_cases h3 : e < b
              · have h3' : (mid : Int) + (m : Int) - (r : Int) < (b : Int) := by have := unhide HE; omega
                have A3 := hide (P1.asc_out (unhide MD).a3 (.inr (Nat.le_refl _))); have A4 := hide (P1.asc_out (unhide MD).a4 (.inr (by have := unhide HE; omega))); have CC := unhide HI2 (by have := unhide HE; omega) (by have := unhide HE; omega) _ _ S2 T2 A3 A4; have F2 : Hid (∀ g2 W, Ord w0 blk off n L k mid b g1 g2 W → Asc k g2 mid b → ∃ g, Ord w0 blk off n L k a b f g W ∧ Asc k g a b) := fun g2 W o a2 => unhide hfin g1 g2 W P1 A1 o a2; clear A3 A4 S2 T2 P1 A1 hfin HI2 HI1 MD PG SG; go_wp2_with fail
                refine (unhide CC).mono ?_; rintro e' w3 ⟨rfl, g2, O2, A2⟩; have FF := hide (unhide F2 g2 w3 O2 A2); clear CC F2 O2 A2; go_wp2
                go_end0
                exact ⟨rfl, unhide FF⟩
              · have h3' : ¬ (mid : Int) + (m : Int) - (r : Int) < (b : Int) := by have := unhide HE; omega
                have FF := hide (unhide hfin g1 g1 _ P1 A1 ⟨unhide S2, Pm.refl _ _ _, unhide T2⟩ (by
                  have he := unhide HE; by_cases hq : e = b
                  · have := P1.asc_out (unhide MD).a3 (.inr (Nat.le_refl _)); rw [hq] at this; exact this
                  · have h5 : e = mid := by omega
                    have := P1.asc_out (unhide MD).a4 (.inr (by omega)); rw [h5] at this; exact this))
                clear S2 T2 P1 A1 hfin HI2 HI1 MD PG SG; go_wp2
                go_end0
                exact ⟨rfl, unhide FF⟩
          · have q2' : ¬ (r : Int) < (mid : Int) := by omega
            have q3' : ¬ (m : Int) < (mid : Int) + (m : Int) - (r : Int) := by omega
            have S1 := unhide HSN (.inr (by omega)); clear HSN HSC S; have h2' : (a : Int) < (r : Int) := by omega
            have h3' : (mid : Int) + (m : Int) - (r : Int) < (b : Int) := by omega
            have A1 : Asc k G a mid := by
              by_cases hq : r = a
              · have := (unhide MD).a2; rw [hq] at this; exact this
              · have h5 : r = mid := by omega
                have := (unhide MD).a1; rw [h5] at this; exact this
            have P1 : Pm a mid G G := Pm.refl _ _ _; obtain ⟨g1, hg1⟩ : ∃ g, g = G := ⟨_, rfl⟩; have S2 := S1; have T2 := SG; clear S1; have P1' : Pm a mid G g1 := by rw [hg1]; exact P1
            have A1' : Asc k g1 a mid := by rw [hg1]; exact A1
            rw [← hg1] at S2 T2; clear P1 A1 hg1; have P1 := P1'; have A1 := A1'; clear P1' A1'; have A3 := hide (P1.asc_out (unhide MD).a3 (.inr (Nat.le_refl _))); have A4 := hide (P1.asc_out (unhide MD).a4 (.inr (by have := unhide HE; omega))); have CC := unhide HI2 (by have := unhide HE; omega) (by have := unhide HE; omega) _ _ S2 T2 A3 A4; have F2 : Hid (∀ g2 W, Ord w0 blk off n L k mid b g1 g2 W → Asc k g2 mid b → ∃ g, Ord w0 blk off n L k a b f g W ∧ Asc k g a b) := fun g2 W o a2 => unhide hfin g1 g2 W P1 A1 o a2; clear A3 A4 S2 T2 P1 A1 hfin HI2 HI1 MD PG SG; go_wp2_with fail
            refine (unhide CC).mono ?_; rintro e' w3 ⟨rfl, g2, O2, A2⟩; have FF := hide (unhide F2 g2 w3 O2 A2); clear CC F2 O2 A2; go_wp2
            go_end0
            exact ⟨rfl, unhide FF⟩
        · have q1' : ¬ (r : Int) < (m : Int) := by omega
          have q4' : ¬ (mid : Int) < (mid : Int) + (m : Int) - (r : Int) := by omega
          have S1 := unhide HSN (.inl (by omega)); clear HSN HSC S; have h2' : (a : Int) < (r : Int) := by omega
          by_cases q2 : r < mid
          · have q2' : (r : Int) < (mid : Int) := by omega
            have CC := unhide HI1 (by omega) (by omega) _ _ S1 SG MD; clear S1; go_wp2_with fail
            refine (unhide CC).mono ?_; rintro e' w2 ⟨rfl, g1, O1, A1⟩; have P1 := O1.2.1; have S2 := hide O1.1; have T2 := hide O1.2.2; clear CC O1; have FF := hide (unhide hfin g1 g1 _ P1 A1 ⟨unhide S2, Pm.refl _ _ _, unhide T2⟩ (by
              have he := unhide HE; by_cases hq : e = b
              · have := P1.asc_out (unhide MD).a3 (.inr (Nat.le_refl _)); rw [hq] at this; exact this
              · have h5 : e = mid := by omega
                have := P1.asc_out (unhide MD).a4 (.inr (by omega)); rw [h5] at this; exact this))
            clear S2 T2 P1 A1 hfin HI2 HI1 MD PG SG; go_wp2
            go_end0
            exact ⟨rfl, unhide FF⟩
          · have q2' : ¬ (r : Int) < (mid : Int) := by omega
            have A1 : Asc k G a mid := by
              by_cases hq : r = a
              · have := (unhide MD).a2; rw [hq] at this; exact this
              · have h5 : r = mid := by omega
                have := (unhide MD).a1; rw [h5] at this; exact this
            have P1 : Pm a mid G G := Pm.refl _ _ _; obtain ⟨g1, hg1⟩ : ∃ g, g = G := ⟨_, rfl⟩; have S2 := S1; have T2 := SG; clear S1; have P1' : Pm a mid G g1 := by rw [hg1]; exact P1
            have A1' : Asc k g1 a mid := by rw [hg1]; exact A1
            rw [← hg1] at S2 T2; clear P1 A1 hg1; have P1 := P1'; have A1 := A1'; clear P1' A1'; have FF := hide (unhide hfin g1 g1 _ P1 A1 ⟨unhide S2, Pm.refl _ _ _, unhide T2⟩ (by
              have he := unhide HE; by_cases hq : e = b
              · have := P1.asc_out (unhide MD).a3 (.inr (Nat.le_refl _)); rw [hq] at this; exact this
              · have h5 : e = mid := by omega
                have := P1.asc_out (unhide MD).a4 (.inr (by omega)); rw [h5] at this; exact this))
            clear S2 T2 P1 A1 hfin HI2 HI1 MD PG SG; go_wp2
            go_end0
            exact ⟨rfl, unhide FF⟩
theorem merge_any (w0 : World) (blk off n cap L : Nat) (k : Nat → Nat) (bx : Value) (hc : CmpOK w0 blk L k bx) (hn : n ≤ 1000) : ∀ (N a m b : Nat), b - a ≤ N → a < m → m < b → b ≤ n → Merges w0 blk off n cap L k bx a m b
  | 0, a, m, b, h, h1, h2, h3 => by omega
  | N + 1, a, m, b, h, h1, h2, h3 => by
    by_cases c1 : m = a + 1
    · subst c1; intro f w hr hst hA hB; have := merge_first w0 blk off n cap L k f bx a b w hc hr hst hn (by omega) h3 hB; rw [show ((a + 1 : Nat) : Int) = (a : Int) + 1 by omega]; exact this
    · by_cases c2 : b = m + 1
      · subst c2; intro f w hr hst hA hB; have := merge_last w0 blk off n cap L k f bx a m w hc hr hst hn (by omega) h3 hA; rw [show ((m + 1 : Nat) : Int) = (m : Int) + 1 by omega]; exact this
      · exact merge_more w0 blk off n cap L k bx hc hn a m b (by omega) (by omega) h3 fun a' m' b' g1 g2 g3 g4 => merge_any w0 blk off n cap L k bx hc hn N a' m' b' (by omega) g2 g3 g4
end Go.Proofs.YtenlampiiodkhaaGreatDoor
namespace Go.Proofs.YtenlampiiodkhaaGreatDoor
set_option linter.unusedVariables false
open Go.RowKit
def Blk (k g : Nat → Nat) (bs lim : Nat) : Prop := ∀ x y, x < y → y < lim → x / bs = y / bs → k (g x) ≤ k (g y)
theorem Blk.grow {k g g' : Nat → Nat} {bs a b : Nat} (hbs : bs = 20 ∨ bs = 40 ∨ bs = 80) (h : Blk k g bs a) (p : Pm a b g g') (hA : Asc k g' a b) (ha : a % bs = 0) : Blk k g' bs b := by
  intro x y h1 h2 h3; by_cases hy : y < a
  · rw [p.out x (by omega), p.out y (by omega)]; exact h x y h1 hy h3
  · refine hA x y ?_ h1 h2; rcases hbs with rfl | rfl | rfl <;> omega
theorem Blk.asc {k g : Nat → Nat} {bs a b n : Nat} (hbs : bs = 20 ∨ bs = 40 ∨ bs = 80) (h : Blk k g bs n) (ha : a % bs = 0) (hb : b ≤ n) (hab : b ≤ a + bs) : Asc k g a b := by
  intro x y h1 h2 h3; refine h x y h2 (by omega) ?_; rcases hbs with rfl | rfl | rfl <;> omega
theorem Blk.keep {k g g' : Nat → Nat} {bs a b n : Nat} (hbs : bs = 20 ∨ bs = 40 ∨ bs = 80) (h : Blk k g bs n) (p : Pm a b g g') (hA : Asc k g' a b) (ha : a % bs = 0) (hb : b % bs = 0 ∨ n ≤ b) : Blk k g' bs n := by
  intro x y h1 h2 h3; by_cases hy : y < a
  · rw [p.out x (by omega), p.out y (by omega)]; exact h x y h1 h2 h3
  · by_cases hyb : y < b
    · refine hA x y ?_ h1 hyb; rcases hbs with rfl | rfl | rfl <;> omega
    · have hx : b ≤ x := by rcases hbs with rfl | rfl | rfl <;> omega
      rw [p.out x (by omega), p.out y (by omega)]; exact h x y h1 h2 h3
theorem Blk.all {k g : Nat → Nat} {n : Nat} (h : Blk k g 80 n) (hn : n ≤ 63) : Asc k g 0 n := h.asc (.inr (.inr rfl)) (by omega) (Nat.le_refl _) (by omega)
theorem Blk.next {k g : Nat → Nat} {bs a n : Nat} (hbs : bs = 20 ∨ bs = 40) (h1 : Blk k g (2 * bs) a) (h2 : Blk k g bs n) (ha : a % (2 * bs) = 0) (hn : n ≤ a + bs) : Blk k g (2 * bs) n := by
  intro x y c1 c2 c3; by_cases hy : y < a
  · exact h1 x y c1 hy c3
  · refine h2 x y c1 c2 ?_; rcases hbs with rfl | rfl <;> omega
theorem Ord.more {w0 W W' : World} {blk off n L : Nat} {k : Nat → Nat} {a b : Nat} {f g g' : Nat → Nat} (h : Ord w0 blk off n L k 0 n f g W) (h' : Ord w0 blk off n L k a b g g' W') (hb : b ≤ n) : Ord w0 blk off n L k 0 n f g' W' :=
  ⟨h'.1, h.2.1.trans (h'.2.1.mono (Nat.zero_le _) hb), h'.2.2⟩
set_option maxHeartbeats 2000000 in
set_option maxRecDepth 100000 in
theorem stable_any (w0 : World) (blk off n cap L : Nat) (k f : Nat → Nat) (bx : Value) (w : World) (hc : CmpOK w0 blk L k bx) (hr : SRow w0 blk off n L f w) (hst : St k f n) (hn : n ≤ 63) :
    Calls Tryz.prog 210 #[.slice (some ⟨blk, off, none⟩) n cap, .int .i64 (n : Int), .func (.func 196) #[] #[bx]] w fun e w' =>
      e = .returned (.tuple #[]) ∧ ∃ g, Ord w0 blk off n L k 0 n f g w' ∧ Asc k g 0 n := by
  go_enter Tryz.func210, Tryz.ntmps210; have HR : Hid (Ord w0 blk off n L k 0 n f f w) := ⟨hr, Pm.refl _ _ _, hst⟩; have HC := hide hc; clear hr hst hc; go_wp2_with fail
  go_loopw [7, 8] (fun va vb wr => ∃ (a : Nat) (g : Nat → Nat), a % 20 = 0 ∧ a ≤ n ∧ va = .int .i64 a ∧ vb = .int .i64 ((a : Int) + 20) ∧ Hid (Ord w0 blk off n L k 0 n f g wr) ∧ Hid (Blk k g 20 a)) (fun va _ _ => n - (intOf va).toNat)
  case atStart => exact ⟨0, f, rfl, Nat.zero_le _, rfl, rfl, HR, fun x y h1 h2 h3 => by omega⟩
  case round =>
    clear HR; obtain ⟨a, g, ha, han, rfl, rfl, S, B⟩ := hrel; by_cases hlt : a + 20 ≤ n
    · have hlt' : (a : Int) + 20 ≤ (n : Int) := by omega
      have CC := hide (insertion_any w0 blk off n cap L k g bx a (a + 20) wr (unhide HC) (unhide S).1 (unhide S).2.2 (by omega) (by omega) hlt); rw [show ((a + 20 : Nat) : Int) = (a : Int) + 20 by omega] at CC; go_wp2_with fail
      refine (unhide CC).mono ?_; rintro e w2 ⟨rfl, g2, O2, A2⟩; have S2 := hide ((unhide S).more O2 hlt); have B2 := hide ((unhide B).grow (.inl rfl) O2.2.1 A2 ha); clear CC O2 A2 S B; go_wp2; exact ⟨⟨a + 20, g2, by omega, hlt, by simp, by first | rfl | (congr 1; done) | (congr 1; omega), S2, B2⟩, (show n - ((a : Int) + 20).toNat < n - ((a : Int)).toNat by omega)⟩
    · have hlt' : ¬ (a : Int) + 20 ≤ (n : Int) := by omega
      have CC := hide (insertion_any w0 blk off n cap L k g bx a n wr (unhide HC) (unhide S).1 (unhide S).2.2 (by omega) han (Nat.le_refl _)); go_wp2_with fail
      refine (unhide CC).mono ?_; rintro e w2 ⟨rfl, g2, O2, A2⟩; have S2 := hide ((unhide S).more O2 (Nat.le_refl _)); have B2 := hide ((unhide B).grow (.inl rfl) O2.2.1 A2 ha); clear CC O2 A2 S B ha han hlt hlt'; go_wp2_with fail
      go_loopw [6, 7, 8] (fun vs va vb wr => ∃ (bs : Nat) (g : Nat → Nat), (bs = 20 ∨ bs = 40 ∨ bs = 80) ∧ vs = .int .i64 bs ∧ Hid (Ord w0 blk off n L k 0 n f g wr) ∧ Hid (Blk k g bs n)) (fun vs _ _ _ => 100 - (intOf vs).toNat)
      case atStart => exact ⟨20, g2, .inl rfl, rfl, S2, B2⟩
      case round =>
        clear S2 B2; obtain ⟨bs, g3, hbs, rfl, S, B⟩ := hrel; by_cases hgo : bs < n
        · have hbs2 : bs = 20 ∨ bs = 40 := by omega
          have hgo' : (bs : Int) < (n : Int) := by omega
          clear hbs; go_wp2_with fail
          go_loopw [7, 8] (fun va vb wr => ∃ (a : Nat) (g : Nat → Nat), a % (2 * bs) = 0 ∧ a ≤ n ∧ va = .int .i64 a ∧ vb = .int .i64 ((a : Int) + 2 * (bs : Int)) ∧ Hid (Ord w0 blk off n L k 0 n f g wr) ∧ Hid (Blk k g bs n) ∧ Hid (Blk k g (2 * bs) a)) (fun va _ _ => n - (intOf va).toNat)
          case atStart => exact ⟨0, g3, by simp, Nat.zero_le _, rfl, by simp, S, B, fun x y h1 h2 h3 => by omega⟩
          case round =>
            clear S B; obtain ⟨a, g4, ha, han, rfl, rfl, S, B, D⟩ := hrel; have ha1 : a % bs = 0 := by rcases hbs2 with rfl | rfl <;> omega
            have ha2 : (a + bs) % bs = 0 := by rcases hbs2 with rfl | rfl <;> omega
            have ha3 : (a + 2 * bs) % bs = 0 := by rcases hbs2 with rfl | rfl <;> omega
            have ha4 : (a + 2 * bs) % (2 * bs) = 0 := by rcases hbs2 with rfl | rfl <;> omega
            have hb3 : bs = 20 ∨ bs = 40 ∨ bs = 80 := by omega
            have hb4 : 2 * bs = 20 ∨ 2 * bs = 40 ∨ 2 * bs = 80 := by omega
            by_cases hlt : a + 2 * bs ≤ n
            · have hlt' : (a : Int) + 2 * (bs : Int) ≤ (n : Int) := by omega
              have CC := hide (merge_any w0 blk off n cap L k bx (unhide HC) (by omega) 1000 a (a + bs) (a + 2 * bs) (by omega) (by omega) (by omega) hlt g4 wr (unhide S).1 (unhide S).2.2 ((unhide B).asc hb3 ha1 (by omega) (Nat.le_refl _)) ((unhide B).asc hb3 ha2 hlt (by omega))); rw [show ((a + bs : Nat) : Int) = (a : Int) + (bs : Int) by omega, show ((a + 2 * bs : Nat) : Int) = (a : Int) + 2 * (bs : Int) by omega] at CC; go_wp2_with fail
              refine (unhide CC).mono ?_; rintro e w3 ⟨rfl, g5, O2, A2⟩; have S2 := hide ((unhide S).more O2 hlt); have B2 := hide ((unhide B).keep hb3 O2.2.1 A2 ha1 (.inl ha3)); have D2 := hide ((unhide D).grow hb4 O2.2.1 A2 ha); clear CC O2 A2 S B D; go_wp2; exact ⟨⟨a + 2 * bs, g5, ha4, hlt, by first | rfl | (congr 1; done) | (congr 1; omega), by first | rfl | (congr 1; done) | (congr 1; omega), S2, B2, D2⟩, (show n - ((a : Int) + 2 * (bs : Int)).toNat < n - ((a : Int)).toNat by omega)⟩
            · have hlt' : ¬ (a : Int) + 2 * (bs : Int) ≤ (n : Int) := by omega
              by_cases hm : a + bs < n
              · have hm' : (a : Int) + (bs : Int) < (n : Int) := by omega
                have CC := hide (merge_any w0 blk off n cap L k bx (unhide HC) (by omega) 1000 a (a + bs) n (by omega) (by omega) hm (Nat.le_refl _) g4 wr (unhide S).1 (unhide S).2.2 ((unhide B).asc hb3 ha1 (by omega) (Nat.le_refl _)) ((unhide B).asc hb3 ha2 (Nat.le_refl _) (by omega))); rw [show ((a + bs : Nat) : Int) = (a : Int) + (bs : Int) by omega] at CC; go_wp2_with fail
                refine (unhide CC).mono ?_; rintro e w3 ⟨rfl, g5, O2, A2⟩; have S2 := hide ((unhide S).more O2 (Nat.le_refl _)); have D2 := hide ((unhide D).grow hb4 O2.2.1 A2 ha); clear CC O2 A2 S B D; go_wp2; exact ⟨⟨2 * bs, g5, hb4, by first | rfl | (congr 1; done) | (congr 1; omega), S2, D2⟩, (show 100 - ((bs : Int) * 2).toNat < 100 - ((bs : Int)).toNat by omega)⟩
              · have hm' : ¬ (a : Int) + (bs : Int) < (n : Int) := by omega
                have D2 := hide (Blk.next hbs2 (unhide D) (unhide B) ha (by omega)); clear B D; go_wp2; exact ⟨⟨2 * bs, g4, hb4, by first | rfl | (congr 1; done) | (congr 1; omega), S, D2⟩, (show 100 - ((bs : Int) * 2).toNat < 100 - ((bs : Int)).toNat by omega)⟩
        · have hgo' : ¬ (bs : Int) < (n : Int) := by omega
          have A2 : Hid (Asc k g3 0 n) := (unhide B).asc hbs (Nat.zero_mod _) (Nat.le_refl _) (by omega); clear B; go_wp2
          go_end0
          exact ⟨rfl, g3, unhide S, unhide A2⟩
set_option maxHeartbeats 1000000 in
set_option maxRecDepth 100000 in
theorem sort_any (w0 : World) (blk off n cap L : Nat) (k f : Nat → Nat) (bx : Value) (w : World) (hc : CmpOK w0 blk L k bx) (hr : SRow w0 blk off n L f w) (hst : St k f n) (hn : n ≤ 63) :
    Calls Tryz.prog 195 #[.slice (some ⟨blk, off, none⟩) n cap, .func (.func 196) #[] #[bx]] w fun e w' =>
      e = .returned (.tuple #[]) ∧ ∃ g, Ord w0 blk off n L k 0 n f g w' ∧ Asc k g 0 n := by
  have CC := hide (stable_any w0 blk off n cap L k f bx w hc hr hst hn); clear hc hr hst; go_enter Tryz.func195, Tryz.ntmps195; go_wp2_with fail
  refine (unhide CC).mono ?_; rintro e w2 ⟨rfl, h2⟩; have H2 := hide h2; clear h2 CC; go_wp2
  go_end0
  exact ⟨rfl, unhide H2⟩
set_option maxHeartbeats 1000000 in
set_option maxRecDepth 100000 in
theorem sort_nil (bx : Value) (w : World) :
    Calls Tryz.prog 195 #[.slice none 0 0, .func (.func 196) #[] #[bx]] w fun e w' => e = .returned (.tuple #[]) ∧ w' = w := by
  have C1 : Hid (Calls Tryz.prog 216 #[.slice none 0 0, .int .i64 0, .int .i64 0, .func (.func 196) #[] #[bx]] w fun e w' => e = .returned (.tuple #[]) ∧ w' = w) := by
    show Calls _ _ _ _ _; go_enter Tryz.func216, Tryz.ntmps216; go_wp2_with fail
    go_loopw [8] (fun vi wr => vi = .int .i64 1 ∧ wr = w) (fun _ _ => 0)
    case atStart => exact ⟨rfl, rfl⟩
    case round =>
      obtain ⟨rfl, hw⟩ := hrel; subst hw; go_wp2
      go_end0
      exact ⟨rfl, rfl⟩
  have C2 : Hid (Calls Tryz.prog 210 #[.slice none 0 0, .int .i64 0, .func (.func 196) #[] #[bx]] w fun e w' => e = .returned (.tuple #[]) ∧ w' = w) := by
    show Calls _ _ _ _ _; go_enter Tryz.func210, Tryz.ntmps210; go_wp2_with fail
    go_loopw [7, 8] (fun va vb wr => va = .int .i64 0 ∧ vb = .int .i64 20 ∧ wr = w) (fun _ _ _ => 0)
    case atStart => exact ⟨rfl, rfl, rfl⟩
    case round =>
      obtain ⟨rfl, rfl, hw⟩ := hrel; subst hw; go_wp2_with fail
      refine (unhide C1).mono ?_; rintro e w2 ⟨rfl, hw⟩; subst hw; clear C1; go_wp2_with fail
      go_loopw [6, 7, 8] (fun vs va vb wr' => vs = .int .i64 20 ∧ wr' = w2) (fun _ _ _ _ => 0)
      case atStart => exact ⟨rfl, rfl⟩
      case round =>
        obtain ⟨rfl, hw⟩ := hrel; subst hw; go_wp2
        go_end0
        exact ⟨rfl, rfl⟩
  clear C1; go_enter Tryz.func195, Tryz.ntmps195; go_wp2_with fail
  refine (unhide C2).mono ?_; rintro e w2 ⟨rfl, hw⟩; subst hw; clear C2; go_wp2
  go_end0
  exact ⟨rfl, rfl⟩
end Go.Proofs.YtenlampiiodkhaaGreatDoor
namespace Go.Proofs.YtenlampiiodkhaaGreatDoor
set_option linter.unusedVariables false
open Go.RowKit
set_option maxHeartbeats 1000000 in
set_option maxRecDepth 100000 in
theorem nan_any (x : Int) (w : World) : Calls Tryz.prog 211 #[R x] w fun e w' => e = .returned (.bool false) ∧ w' = w := by
  unfold R; go_enter Tryz.func211, Tryz.ntmps211; go_wp2; go_ret; simp
set_option maxHeartbeats 1000000 in
set_option maxRecDepth 100000 in
theorem cmp_any (x y : Nat) (w : World) : Calls Tryz.prog 197 #[.int .i32 (x : Int), .int .i32 (y : Int)] w fun e w' => e = .returned (.int .i64 (cf x y)) ∧ w' = w := by
  have C1 := hide (nan_any (x : Int) w); have C2 := hide (nan_any (y : Int) w); unfold R at C1 C2; have fin : ∀ z : Int, z = cf x y → Ending.returned (.int .i64 z) = .returned (.int .i64 (cf x y)) := fun z h => by rw [h]
  have FIN := hide fin; clear fin; go_enter Tryz.func197, Tryz.ntmps197; go_wp2_with fail
  refine (unhide C1).mono ?_; rintro e w1 ⟨rfl, hw⟩; subst hw; go_wp2_with fail
  refine (unhide C2).mono ?_; rintro e w1 ⟨rfl, hw⟩; subst hw; clear C1 C2; by_cases h1 : x < y
  · have h1' : (x : Int) < (y : Int) := by omega
    go_wp2; go_ret; exact ⟨unhide FIN _ (by unfold cf; rw [if_pos h1]), rfl⟩
  · have h1' : ¬ (x : Int) < (y : Int) := by omega
    by_cases h2 : y < x
    · have h2' : (y : Int) < (x : Int) := by omega
      go_wp2; go_ret; exact ⟨unhide FIN _ (by unfold cf; rw [if_neg h1, if_pos h2]), rfl⟩
    · have h2' : ¬ (y : Int) < (x : Int) := by omega
      go_wp2; go_ret; exact ⟨unhide FIN _ (by unfold cf; rw [if_neg h1, if_neg h2]), rfl⟩
theorem close_any (ns : List Nat) (bb : Nat) (ao : Option Addr) (cap : Nat) (blk : Nat) (w0 : World) (hm : ns.length ≤ 1000) (hb : w0.cell? ⟨bb, 0, none⟩ = some (.slice ao ns.length cap)) (hbb : bb ≠ blk)
    (hl : RdV w0 ao cap (ns.map fun (x : Nat) => R (x : Int))) (hne : ∀ b off, ao = some ⟨b, off, none⟩ → 0 < ns.length → b ≠ blk) : CmpOK w0 blk ns.length (fun x => ns.getD x 0) (.pointer (some ⟨bb, 0, none⟩)) := by
  intro W hW x y hx hy; obtain ⟨b, off, rfl, hc⟩ := hl.cells (by simp; omega); have hnb := hne b off rfl (by omega); have c0 : W.cell? ⟨bb, 0, none⟩ = some (.slice (some ⟨b, off, none⟩) ns.length cap) := by rw [hW.cell (by exact hbb)]; exact hb
  have c1 : W.cell? ⟨b, off + x, none⟩ = some (.int .i32 ((ns.getD x 0 : Nat) : Int)) := by
    rw [hW.cell (by exact hnb), hc x (by simpa using hx)]; simp [List.getD, hx]
  have c2 : W.cell? ⟨b, off + y, none⟩ = some (.int .i32 ((ns.getD y 0 : Nat) : Int)) := by
    rw [hW.cell (by exact hnb), hc y (by simpa using hy)]; simp [List.getD, hy]
  have hx' : (x : Int) < (ns.length : Int) := by omega
  have hy' : (y : Int) < (ns.length : Int) := by omega
  clear hc hl hb hW; show Calls _ _ _ _ fun e w' => e = .returned (.int .i64 (cf (ns.getD x 0) (ns.getD y 0))) ∧ _; generalize ns.getD x 0 = X at *; generalize ns.getD y 0 = Y at *; generalize ns.length = N at *; have HM := fun v : World => cmp_any X Y v; generalize cf X Y = z at *; go_enter Tryz.func196, Tryz.ntmps196; go_wp2_with fail
  go_quiet ((go_at_call 197; exact Calls.quiet_of_same (HM _)))
  go_wp2; go_ret; exact ⟨rfl, nq, rfl⟩
abbrev In (x : Nat) : Value := .int .i64 (x : Int)
def pos (ns : List Nat) (j : Nat) : List Nat := (List.range j).filter fun x => decide (128 ≤ ns.getD x 0)
theorem pos_succ (ns : List Nat) (j : Nat) : pos ns (j + 1) = pos ns j ++ (if 128 ≤ ns.getD j 0 then [j] else []) := by
  unfold pos; rw [List.range_succ, List.filter_append]; congr 1; simp only [List.filter_cons, List.filter_nil]
  split <;> rename_i h <;> simp at h
  · rw [if_pos (by simpa using h)]
  · rw [if_neg (by simpa using h)]
theorem pos_len (ns : List Nat) (j : Nat) : (pos ns j).length ≤ j := by
  unfold pos; have := List.length_filter_le (fun x => decide (128 ≤ ns.getD x 0)) (List.range j); simpa using this
theorem pos_mem {ns : List Nat} {j x : Nat} : x ∈ pos ns j ↔ x < j ∧ 128 ≤ ns.getD x 0 := by
  unfold pos; simp [List.mem_filter]
theorem pos_lt (ns : List Nat) (j : Nat) {a b : Nat} (h : a < b) (hb : b < (pos ns j).length) : (pos ns j).getD a 0 < (pos ns j).getD b 0 := by
  have hp : (pos ns j).Pairwise (· < ·) := List.Pairwise.filter _ List.pairwise_lt_range; have ha : a < (pos ns j).length := by omega
  have := List.pairwise_iff_getElem.1 hp a b ha hb h; simpa [List.getD, ha, hb] using this
theorem getD_in {l : List Nat} {i : Nat} (h : i < l.length) : l.getD i 0 ∈ l := by simp [List.getD, h]
structure Oths (ns : List Nat) (n : Nat) (g : Nat → Nat) : Prop where
  mem : ∀ i, i < n → g i < ns.length ∧ 128 ≤ ns.getD (g i) 0
  all : ∀ x, x < ns.length → 128 ≤ ns.getD x 0 → ∃ i, i < n ∧ g i = x
  ord : ∀ i j, i < j → j < n → ns.getD (g i) 0 < ns.getD (g j) 0 ∨ (ns.getD (g i) 0 = ns.getD (g j) 0 ∧ g i < g j)
theorem infoI : (Tryz.prog.info? 3).map (fun i => (i.zero, i.size, i.bytes)) = some (some (.int .i64 0), 1, 8) := by kernel_rfl
def TellsO (ns : List Nat) (w : World) (e : Ending) (w' : World) : Prop :=
  ∃ (ao : Option Addr) (cap n : Nat) (g : Nat → Nat), e = .returned (.slice ao n cap) ∧ n ≤ 63 ∧ Oths ns n g ∧ RdV w' ao cap ((List.range n).map fun i => In (g i)) ∧ Ext w w' ∧ ∀ b off, ao = some ⟨b, off, none⟩ → w.heap.size ≤ b ∧ IB w' b
set_option maxHeartbeats 1000000 in
set_option maxRecDepth 100000 in
theorem others_any (ns : List Nat) (ao : Option Addr) (cap : Nat) (w : World) (hm : ns.length ≤ 63) (hcp : ∀ x ∈ ns, x ≤ 1114111) (h : RdV w ao cap (ns.map fun (x : Nat) => R (x : Int))) :
    Calls Tryz.prog 168 #[.slice ao ns.length cap] w (TellsO ns w) := by
  have hle := h.le; have hmx := h.max; simp only [List.length_map] at hle; have hbx : (w.alloc (.cells #[.slice ao ns.length cap] 45)).cell? ⟨w.heap.size, 0, none⟩ = some (.slice ao ns.length cap) := by simp
  obtain ⟨w1, hw1⟩ : ∃ v, v = w.alloc (.cells #[.slice ao ns.length cap] 45) := ⟨_, rfl⟩; have hsz : w1.heap.size = w.heap.size + 1 := by rw [hw1]; simp
  have hE1 : Ext w w1 := by rw [hw1]; exact Ext.alloc w _
  have hR1 := h.below hE1; have HBL : Hid (∀ b off, ao = some ⟨b, off, none⟩ → 0 < ns.length → b < w.heap.size) := fun b off e h0 => by
    obtain ⟨b', off', e', h'⟩ := h.lt (by simpa using h0); rw [e] at e'; simp only [Option.some.injEq, Addr.mk.injEq] at e'; obtain ⟨rfl, _, _⟩ := e'; exact h'
  go_enter Tryz.func168, Tryz.ntmps168; go_wp2_with fail
  rw [← hw1]; rw [← hw1] at hbx; clear hw1; have HR1 := hide hR1; have HCP := hide hcp; clear h hR1 hcp
  go_loopw [3, 8] (fun o i wr => ∃ j : Nat, j ≤ ns.length ∧ i = .int .i64 j ∧ wr.ownsRow (w.heap.size + 1) 3 1 o (pos ns j).length ((pos ns j).map In) ∧ Below (w.heap.size + 1) w1 wr) (fun _ i _ => ns.length - (intOf i).toNat)
  case atStart => exact ⟨0, by omega, rfl, World.ownsRow_nil _ _ _ _, Below.refl _ _⟩
  case round =>
    obtain ⟨j, hj, rfl, ownr, hbr⟩ := hrel; by_cases hjl : j < ns.length
    · have hpl := pos_len ns j; have HP := hide (pos_succ ns j); obtain ⟨b, off, rfl, hc⟩ := (unhide HR1).cells (by simp; omega); have hbw := unhide HBL b off rfl (by omega); have c0 : wr.cell? ⟨b, off + j, none⟩ = some (.int .i32 ((ns.getD j 0 : Nat) : Int)) := by
        rw [hbr.cell (p := ⟨b, off + j, none⟩) (show b < w.heap.size + 1 by omega), hc j (by simpa using hjl)]; simp [List.getD, hjl]
      clear hc; generalize ns.getD j 0 = x at *; generalize pos ns j = P at *; by_cases hx : 128 ≤ x
      · have hx' : (128 : Int) ≤ (x : Int) := by omega
        rw [if_pos hx] at HP; have RL := RdV.lit wr [In j] 3 (0, 0) (by simp); have own2 := owns_below ownr (Ext.alloc wr (.cells #[In j] 3 (0, 0))); have hb2 : Below (w.heap.size + 1) w1 (wr.alloc (.cells #[In j] 3 (0, 0))) := hbr.trans (Below.mono (Ext.alloc wr _) (by have := hbr.size; omega)); have hbase2 : w.heap.size + 1 ≤ (wr.alloc (.cells #[In j] 3 (0, 0))).heap.size := by have := hb2.size; omega
        have hone : ∀ u ∈ [In j], u.oneCell' = true := by simp [In, Value.oneCell']
        clear ownr hbr; go_wp2_with (at_builtin; refine wpList_app rfl (.tmp 15) (.tmp 17) 174 3 (.int .i64 0) 8 Tryz.underlying174 infoI rfl rfl (w.heap.size + 1) _ _ _ rfl own2 _ _ _ [In j] rfl rfl RL hone (by omega) hbase2 ?_)
        intro v2 w2 o2 b2; have hb3 := hb2.trans b2; have own3 : w2.ownsRow (w.heap.size + 1) 3 1 v2 (P ++ [j]).length ((P ++ [j]).map In) := by simpa using o2
        rw [← unhide HP] at own3; clear own2 RL hone o2 b2 hb2 hbase2 HP; go_wp2; exact ⟨⟨j + 1, by omega, by simp, own3, hb3⟩, (show ns.length - ((j : Int) + 1).toNat < ns.length - ((j : Int)).toNat by omega)⟩
      · have hx' : ¬ (128 : Int) ≤ (x : Int) := by omega
        rw [if_neg hx, List.append_nil] at HP; rw [← unhide HP] at ownr; clear HP; go_wp2; exact ⟨⟨j + 1, by omega, by simp, ownr, hbr⟩, (show ns.length - ((j : Int) + 1).toNat < ns.length - ((j : Int)).toNat by omega)⟩
    · have e : j = ns.length := by omega
      subst e; clear hjl hj; have hpl := pos_len ns ns.length; have hbox : wr.cell? ⟨w.heap.size, 0, none⟩ = some (.slice ao ns.length cap) := by rw [hbr.cell (p := ⟨w.heap.size, 0, none⟩) (show w.heap.size < w.heap.size + 1 by omega)]; exact hbx
      have HRR : Hid (RdV wr ao cap (ns.map fun (x : Nat) => R (x : Int))) := (unhide HR1).below (by unfold Ext; rw [hsz]; exact hbr); obtain ⟨ao2, cap2, rfl, HRD, hln⟩ := RdV.of_owned ownr; have hEX : Ext w wr := Ext.then hE1 hbr (by omega); clear HR1
      cases ao2 with
      | none =>
        have hcap0 : cap2 = 0 := HRD.nil rfl; have hl0 := HRD.le; simp only [List.length_map] at hl0; have hp0 : pos ns ns.length = [] := List.eq_nil_of_length_eq_zero (by omega); have OT : Hid (Oths ns 0 (fun _ => 0)) := ⟨fun i h => by omega, fun x h1 h2 => by
          have := (pos_mem (ns := ns) (j := ns.length) (x := x)).2 ⟨h1, h2⟩; rw [hp0] at this; simp at this, fun i j h1 h2 => by omega⟩
        rw [hp0] at ownr HRD hln hpl; rw [hp0]; subst hcap0; have CC := hide (sort_nil (.pointer (some ⟨w.heap.size, 0, none⟩)) wr); clear ownr HRD hp0 hln hpl hl0 HRR; simp only [List.length_nil]; go_wp2_with fail
        refine (unhide CC).mono ?_; rintro e w2 ⟨rfl, hw⟩; subst hw; clear CC; go_wp2; go_ret; exact ⟨none, 0, 0, _, rfl, by omega, unhide OT, RdV.nothing _, hEX, fun b off e => by cases e⟩
      | some ad =>
        have hsome : ∃ g, ad = ⟨g, 0, none⟩ ∧ w.heap.size + 1 ≤ g := by
          rcases ownr.2 with ⟨h1, _⟩ | ⟨g, c, cur, h1, h2, _⟩
          · simp at h1
          · simp only [Value.slice.injEq, Option.some.injEq] at h1; exact ⟨g, h1.1, h2⟩
        obtain ⟨g, rfl, hg⟩ := hsome; obtain ⟨P, hP⟩ : ∃ P, P = pos ns ns.length := ⟨_, rfl⟩; have HPM : Hid (∀ x, x ∈ P ↔ x < ns.length ∧ 128 ≤ ns.getD x 0) := fun x => by rw [hP]; exact pos_mem
        have HPL : Hid (∀ a b, a < b → b < P.length → P.getD a 0 < P.getD b 0) := fun a b h1 h2 => by rw [hP] at h2 ⊢; exact pos_lt ns ns.length h1 h2
        rw [← hP] at ownr HRD hln hpl; rw [← hP]; clear hP; have SR : SRow wr g 0 P.length ns.length (fun i => P.getD i 0) wr := by
          refine ⟨fun i hi => ?_, fun i hi => ?_, fun i hi => ((unhide HPM _).1 (getD_in hi)).1, Oth.refl _ _, ?_⟩
          · rw [Nat.zero_add, ownr.cellAt i (by omega)]; simp [List.getD, hi, In]
          · rw [Nat.zero_add]; exact ownr.frozenAt i
          · rcases ownr.2 with ⟨h1, _⟩ | ⟨g', c, cur, h1, h2, h3, _⟩
            · simp at h1
            · simp only [Value.slice.injEq, Option.some.injEq, Addr.mk.injEq] at h1; obtain ⟨⟨rfl, _, _⟩, _⟩ := h1; exact ⟨cur, (0, 0), h3⟩
        have hCM := close_any ns w.heap.size ao cap g wr (by omega) hbox (by omega) (unhide HRR) (fun b off e h0 => by have := unhide HBL b off e h0; omega); have CC := hide (sort_any wr g 0 P.length cap2 ns.length (fun x => ns.getD x 0) (fun i => P.getD i 0) (.pointer (some ⟨w.heap.size, 0, none⟩)) wr hCM SR (fun i j h1 h2 _ => unhide HPL i j h1 h2) (by omega)); have hcl := HRD.le; have hcm := HRD.max; simp only [List.length_map] at hcl; clear ownr SR hCM HRR HRD hln; go_wp2_with fail
        refine (unhide CC).mono ?_; rintro e w2 ⟨rfl, gg, O, A⟩; have fin : TellsO ns w (.returned (.slice (some ⟨g, 0, none⟩) P.length cap2)) w2 := by
          refine ⟨some ⟨g, 0, none⟩, cap2, P.length, gg, rfl, by omega, ⟨fun i hi => ?_, fun x h1 h2 => ?_, fun i j h1 h2 => ?_⟩, ⟨by simpa using hcl, hcm, fun e => (by cases e), fun i hi => ?_⟩, hEX.then (O.1.oth.below (Below.refl _ _) (Nat.le_refl _)) (by omega), fun b off e => ?_⟩
          · obtain ⟨q, hq, eq⟩ := O.2.1.at i ⟨Nat.zero_le _, hi⟩; rw [eq]; exact (unhide HPM _).1 (getD_in hq.2)
          · obtain ⟨q, hq, eq⟩ := List.getElem_of_mem ((unhide HPM x).2 ⟨h1, h2⟩); obtain ⟨i, hi, ei⟩ := O.2.1.back q ⟨Nat.zero_le _, hq⟩; refine ⟨i, hi.2, ?_⟩; rw [ei]; simp [List.getD, hq, eq]
          · have h3 := A i j (Nat.zero_le _) h1 h2; have h4 := O.2.2 i j h1 h2; simp only at h3 h4; rcases Nat.lt_or_ge (ns.getD (gg i) 0) (ns.getD (gg j) 0) with h5 | h5
            · exact .inl h5
            · exact .inr ⟨by omega, h4 (by omega)⟩
          · have hi' : i < P.length := by simpa using hi
            refine ⟨g, 0, rfl, ?_⟩; rw [O.1.cell i hi']; simp [hi', In]
          · simp only [Option.some.injEq, Addr.mk.injEq] at e; obtain ⟨rfl, _, _⟩ := e; exact ⟨by omega, O.1.ty⟩
        have FIN := hide fin; clear fin CC O A; go_wp2; go_ret; exact unhide FIN
end Go.Proofs.YtenlampiiodkhaaGreatDoor
