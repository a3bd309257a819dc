/-
  The library's merge of two sorted parts side by side, where one of them is a single place.
-/
import Derived.Test.YtgnkhfmpooomkaaDoorSrtB
namespace Go.Proofs.YtgnkhfmpooomkaaDoor
set_option linter.unusedVariables false
open Go.RowKit

theorem half {i j h : Nat} (e : h = (i + j) / 2) : ((h : Nat) : Int) = ((i : Int) + (j : Int)) / 2 := by omega

set_option maxHeartbeats 1000000 in
set_option maxRecDepth 100000 in
theorem merge_first (w0 : World) (blk off n cap L : Nat) (k f : Nat → Nat) (bx : Value) (a b : Nat) (w : World) (hc : CmpOK w0 blk L k bx) (hr : SRow w0 blk off n L f w) (hst : St k f n) (hn : n ≤ 1000) (hab : a + 1 < b) (hb : b ≤ n) (hB : Asc k f (a + 1) b) :
    Calls Tryd.prog 98 #[.slice (some ⟨blk, off, none⟩) n cap, .int .i64 (a : Int), .int .i64 ((a : Int) + 1), .int .i64 (b : Int), .func (.func 84) #[] #[bx]] w fun e w' =>
      e = .returned (.tuple #[]) ∧ ∃ g, Ord w0 blk off n L k a b f g w' ∧ Asc k g a b := by
  go_enter Tryd.func98, Tryd.ntmps98
  have HR := hide hr
  have HC := hide hc
  have HST := hide hst
  have HB := hide hB
  clear hr hst hc hB
  have h1 : ((a : Int) + 1 - (a : Int)) = 1 := by omega
  go_wp2_with fail
  go_loopw [10, 11] (fun vi vj wr => ∃ (i j : Nat), a + 1 ≤ i ∧ i ≤ j ∧ j ≤ b ∧ vi = .int .i64 i ∧ vj = .int .i64 j ∧ Hid (SRow w0 blk off n L f wr) ∧ Hid (∀ x, a + 1 ≤ x → x < i → k (f x) < k (f a)) ∧ Hid (∀ x, j ≤ x → x < b → k (f a) ≤ k (f x))) (fun vi vj _ => (intOf vj).toNat - (intOf vi).toNat)
  case atStart => exact ⟨a + 1, b, by omega, by omega, by omega, by simp, rfl, HR, fun x h1 h2 => by omega, fun x h1 h2 => by omega⟩
  case round =>
    clear HR
    obtain ⟨i, j, hi1, hij, hjb, rfl, rfl, S, LO, HI⟩ := hrel
    by_cases hlt : i < j
    · obtain ⟨h, hh⟩ : ∃ h, h = (i + j) / 2 := ⟨_, rfl⟩
      have hh1 : i ≤ h := by omega
      have hh2 : h < j := by omega
      have S0 := unhide S
      have l1 := S0.cell h (by omega)
      have l2 := S0.cell a (by omega)
      have hcm := fun m => (unhide HC).at S0 h a (by omega) (by omega) m
      have HS := hide (fun q => S0.drewN q)
      have b1 : (h : Int) < (n : Int) := by omega
      have b2 : (a : Int) < (n : Int) := by omega
      have EH : Hid (((i : Int) + (j : Int)) / 2 = (h : Int)) := (show ((i : Int) + (j : Int)) / 2 = (h : Int) by omega)
      clear S0 S hh
      by_cases hlv : k (f h) < k (f a)
      · have hv := cf_lt hlv
        have hd : decide (cf (k (f h)) (k (f a)) < 0) = true := decide_eq_true hv
        have LO2 : Hid (∀ x, a + 1 ≤ x → x < h + 1 → k (f x) < k (f a)) := fun x h1 h2 => by
          by_cases e : x = h
          · rw [e]; exact hlv
          · exact Nat.lt_of_le_of_lt (unhide HB x h h1 (by omega) (by omega)) hlv
        clear LO hlv
        generalize cf (k (f h)) (k (f a)) = z at *
        generalize (f h : Int) = x1 at *
        generalize (f a : Int) = x2 at *
        go_wp2_with fail
        rw [unhide EH]
        clear EH
        go_quiet (first | (go_at_call 84; exact Calls.quiet_of (hcm _)))
        clear hcm l1 l2
        go_wp2
        exact ⟨⟨h + 1, j, by omega, by omega, by omega, by simp, rfl, unhide HS nq, LO2, HI⟩, (show ((j : Int)).toNat - ((h : Int) + 1).toNat < ((j : Int)).toNat - ((i : Int)).toNat by omega)⟩
      · have hv := cf_ge hlv
        have hd : decide (cf (k (f h)) (k (f a)) < 0) = false := decide_eq_false hv
        have HI2 : Hid (∀ x, h ≤ x → x < b → k (f a) ≤ k (f x)) := fun x h1 h2 => by
          by_cases e : x = h
          · rw [e]; omega
          · have := unhide HB h x (by omega) (by omega) (by omega)
            omega
        clear HI hlv
        generalize cf (k (f h)) (k (f a)) = z at *
        generalize (f h : Int) = x1 at *
        generalize (f a : Int) = x2 at *
        go_wp2_with fail
        rw [unhide EH]
        clear EH
        go_quiet (first | (go_at_call 84; exact Calls.quiet_of (hcm _)))
        clear hcm l1 l2
        go_wp2
        exact ⟨⟨i, h, by omega, by omega, by omega, rfl, rfl, unhide HS nq, LO, HI2⟩, (show ((h : Int)).toNat - ((i : Int)).toNat < ((j : Int)).toNat - ((i : Int)).toNat by omega)⟩
    · have e : j = i := by omega
      subst e
      clear hlt hij
      have hfin : Hid (∀ W, SRow w0 blk off n L (rot f a (a + 1) j) W → ∃ g, Ord w0 blk off n L k a b f g W ∧ Asc k g a b) := fun W hW =>
        ⟨rot f a (a + 1) j, ⟨hW, (pm_rot f (by omega) hi1).mono (Nat.le_refl _) hjb, (unhide HST).rot (by omega) hi1 (by omega) fun x y h1 h2 h3 h4 => by
          have e : x = a := by omega
          rw [e]
          exact unhide LO y h3 h4⟩, asc_first (unhide HB) hi1 hjb (unhide LO) (unhide HI)⟩
      clear LO HI
      go_wp2_with fail
      go_loopw [13] (fun vk wr2 => ∃ q : Nat, a ≤ q ∧ q + 1 ≤ j ∧ vk = .int .i64 q ∧ Hid (SRow w0 blk off n L (rot f a (a + 1) (q + 1)) wr2)) (fun vk _ => j - (intOf vk).toNat)
      case atStart => exact ⟨a, Nat.le_refl _, hi1, rfl, by rw [rot_none']; exact S⟩
      case round =>
        clear S
        obtain ⟨q, hq1, hq2, rfl, S⟩ := hrel
        by_cases hqj : q + 1 < j
        · have hqj' : (q : Int) < (j : Int) - 1 := by omega
          obtain ⟨iN, hiN⟩ : ∃ z, z = q + 1 := ⟨_, rfl⟩
          have S0 := unhide S
          generalize hg : rot f a (a + 1) (q + 1) = g at *
          have S3 : Hid (SRow w0 blk off n L (rot f a (a + 1) (q + 2)) ((wr.setCell ⟨blk, off + q, none⟩ (.int .i64 (g iN : Int))).setCell ⟨blk, off + iN, none⟩ (.int .i64 (g q : Int))).drew) := by
            have := S0.sw q (q + 1) (by omega) (by omega)
            rw [← hg, rot_fwd f hq1, hg] at this
            rw [hiN]
            exact this
          have c1 := S0.cell iN (by omega)
          have c2 := S0.cell q (by omega)
          have f1 := S0.fz iN (by omega)
          have f2 := S0.fz q (by omega)
          obtain ⟨u, c3⟩ := S0.c2 q iN (by omega) (by omega) (.int .i64 (g iN : Int))
          have e1 : ((q : Int) + 1).toNat = iN := by omega
          have p1 : (0 : Int) ≤ (q : Int) + 1 := by omega
          have b1 : (q : Int) + 1 < (n : Int) := by omega
          have b2 : (q : Int) < (n : Int) := by omega
          have r1 : IntKind.i64.wrap ((q : Int) + 1) = (q : Int) + 1 := by rw [IntKind.wrap_i64]; omega
          clear S S0 hiN hg
          generalize (g iN : Int) = gi at *
          generalize (g q : Int) = gj at *
          go_wp2_with fail
          go_region
          clear c1 c2 c3 f1 f2
          generalize ((wr.setCell ⟨blk, off + q, none⟩ (.int .i64 gi)).setCell ⟨blk, off + iN, none⟩ (.int .i64 gj)).drew = w3 at S3 ⊢
          clear e1
          go_wp2
          exact ⟨⟨q + 1, by omega, by omega, by simp, S3⟩, (show j - ((q : Int) + 1).toNat < j - ((q : Int)).toNat by omega)⟩
        · have hqj' : ¬ (q : Int) < (j : Int) - 1 := by omega
          have e : q + 1 = j := by omega
          rw [e] at S
          go_wp2
          (try simp only [Exit.inBlock, Exit.then])
          refine bodyPost_ret (results_none rfl _ _ _) rfl ?_
          exact ⟨rfl, unhide hfin _ (unhide S)⟩

set_option maxHeartbeats 1000000 in
set_option maxRecDepth 100000 in
theorem merge_last (w0 : World) (blk off n cap L : Nat) (k f : Nat → Nat) (bx : Value) (a m : Nat) (w : World) (hc : CmpOK w0 blk L k bx) (hr : SRow w0 blk off n L f w) (hst : St k f n) (hn : n ≤ 1000) (ham : a + 1 < m) (hb : m + 1 ≤ n) (hA : Asc k f a m) :
    Calls Tryd.prog 98 #[.slice (some ⟨blk, off, none⟩) n cap, .int .i64 (a : Int), .int .i64 (m : Int), .int .i64 ((m : Int) + 1), .func (.func 84) #[] #[bx]] w fun e w' =>
      e = .returned (.tuple #[]) ∧ ∃ g, Ord w0 blk off n L k a (m + 1) f g w' ∧ Asc k g a (m + 1) := by
  go_enter Tryd.func98, Tryd.ntmps98
  have HR := hide hr
  have HC := hide hc
  have HST := hide hst
  have HA := hide hA
  clear hr hst hc hA
  have h0 : ((m : Int) - (a : Int) == 1) = false := beq_eq_false_iff_ne.2 (by omega)
  have h0' : ¬ ((m : Int) - (a : Int) = 1) := by omega
  have h1 : ((m : Int) + 1 - (m : Int)) = 1 := by omega
  go_wp2_with fail
  go_loopw [14, 15] (fun vi vj wr => ∃ (i j : Nat), a ≤ i ∧ i ≤ j ∧ j ≤ m ∧ vi = .int .i64 i ∧ vj = .int .i64 j ∧ Hid (SRow w0 blk off n L f wr) ∧ Hid (∀ x, a ≤ x → x < i → k (f x) ≤ k (f m)) ∧ Hid (∀ x, j ≤ x → x < m → k (f m) < k (f x))) (fun vi vj _ => (intOf vj).toNat - (intOf vi).toNat)
  case atStart => exact ⟨a, m, by omega, by omega, by omega, rfl, rfl, HR, fun x h1 h2 => by omega, fun x h1 h2 => by omega⟩
  case round =>
    clear HR
    obtain ⟨i, j, hi1, hij, hjb, rfl, rfl, S, LO, HI⟩ := hrel
    by_cases hlt : i < j
    · obtain ⟨h, hh⟩ : ∃ h, h = (i + j) / 2 := ⟨_, rfl⟩
      have hh1 : i ≤ h := by omega
      have hh2 : h < j := by omega
      have S0 := unhide S
      have l1 := S0.cell m (by omega)
      have l2 := S0.cell h (by omega)
      have hcm := fun q => (unhide HC).at S0 m h (by omega) (by omega) q
      have HS := hide (fun q => S0.drewN q)
      have b1 : (h : Int) < (n : Int) := by omega
      have b2 : (m : Int) < (n : Int) := by omega
      have EH : Hid (((i : Int) + (j : Int)) / 2 = (h : Int)) := (show ((i : Int) + (j : Int)) / 2 = (h : Int) by omega)
      clear S0 S hh
      by_cases hlv : k (f m) < k (f h)
      · have hv := cf_lt hlv
        have hd : decide (cf (k (f m)) (k (f h)) < 0) = true := decide_eq_true hv
        have HI2 : Hid (∀ x, h ≤ x → x < m → k (f m) < k (f x)) := fun x h1 h2 => by
          by_cases e : x = h
          · rw [e]; exact hlv
          · exact Nat.lt_of_lt_of_le hlv (unhide HA h x (by omega) (by omega) (by omega))
        clear HI hlv
        generalize cf (k (f m)) (k (f h)) = z at *
        generalize (f h : Int) = x1 at *
        generalize (f m : Int) = x2 at *
        go_wp2_with fail
        rw [unhide EH]
        clear EH
        go_quiet (first | (go_at_call 84; exact Calls.quiet_of (hcm _)))
        clear hcm l1 l2
        go_wp2
        exact ⟨⟨i, h, by omega, by omega, by omega, rfl, rfl, unhide HS nq, LO, HI2⟩, (show ((h : Int)).toNat - ((i : Int)).toNat < ((j : Int)).toNat - ((i : Int)).toNat by omega)⟩
      · have hv := cf_ge hlv
        have hd : decide (cf (k (f m)) (k (f h)) < 0) = false := decide_eq_false hv
        have LO2 : Hid (∀ x, a ≤ x → x < h + 1 → k (f x) ≤ k (f m)) := fun x h1 h2 => by
          by_cases e : x = h
          · rw [e]; omega
          · have := unhide HA x h (by omega) (by omega) (by omega)
            omega
        clear LO hlv
        generalize cf (k (f m)) (k (f h)) = z at *
        generalize (f h : Int) = x1 at *
        generalize (f m : Int) = x2 at *
        go_wp2_with fail
        rw [unhide EH]
        clear EH
        go_quiet (first | (go_at_call 84; exact Calls.quiet_of (hcm _)))
        clear hcm l1 l2
        go_wp2
        exact ⟨⟨h + 1, j, by omega, by omega, by omega, by simp, rfl, unhide HS nq, LO2, HI⟩, (show ((j : Int)).toNat - ((h : Int) + 1).toNat < ((j : Int)).toNat - ((i : Int)).toNat by omega)⟩
    · have e : j = i := by omega
      subst e
      clear hlt hij
      have hfin : Hid (∀ W, SRow w0 blk off n L (rot f j m (m + 1)) W → ∃ g, Ord w0 blk off n L k a (m + 1) f g W ∧ Asc k g a (m + 1)) := fun W hW =>
        ⟨rot f j m (m + 1), ⟨hW, (pm_rot f hjb (by omega)).mono hi1 (Nat.le_refl _), (unhide HST).rot hjb (by omega) (by omega) fun x y h1 h2 h3 h4 => by
          have e : y = m := by omega
          rw [e]
          exact unhide HI x h1 h2⟩, asc_last (unhide HA) hi1 hjb (unhide LO) (unhide HI)⟩
      clear LO HI
      go_wp2_with fail
      go_loopw [17] (fun vk wr2 => ∃ q : Nat, j ≤ q ∧ q ≤ m ∧ vk = .int .i64 q ∧ Hid (SRow w0 blk off n L (rot f q m (m + 1)) wr2)) (fun vk _ => (intOf vk).toNat)
      case atStart => exact ⟨m, hjb, Nat.le_refl _, rfl, by rw [rot_none]; exact S⟩
      case round =>
        clear S
        obtain ⟨q, hq1, hq2, rfl, S⟩ := hrel
        by_cases hqj : j < q
        · obtain ⟨p, rfl⟩ : ∃ z, q = z + 1 := ⟨q - 1, by omega⟩
          have hqj' : (j : Int) < (p : Int) + 1 := by omega
          obtain ⟨iN, hiN⟩ : ∃ z, z = p + 1 := ⟨_, rfl⟩
          have S0 := unhide S
          generalize hg : rot f (p + 1) m (m + 1) = g at *
          have S3 : Hid (SRow w0 blk off n L (rot f p m (m + 1)) ((wr.setCell ⟨blk, off + iN, none⟩ (.int .i64 (g p : Int))).setCell ⟨blk, off + p, none⟩ (.int .i64 (g iN : Int))).drew) := by
            have := S0.sw (p + 1) p (by omega) (by omega)
            rw [← hg, rot_bwd f (by omega), hg] at this
            rw [hiN]
            exact this
          have c1 := S0.cell iN (by omega)
          have c2 := S0.cell p (by omega)
          have f1 := S0.fz iN (by omega)
          have f2 := S0.fz p (by omega)
          obtain ⟨u, c3⟩ := S0.c2 iN p (by omega) (by omega) (.int .i64 (g p : Int))
          have e1 : ((p : Int) + 1).toNat = iN := by omega
          have p1 : (0 : Int) ≤ (p : Int) + 1 := by omega
          have b1 : (p : Int) + 1 < (n : Int) := by omega
          have b2 : (p : Int) < (n : Int) := by omega
          have r1 : IntKind.i64.wrap ((p : Int) + 1) = (p : Int) + 1 := by rw [IntKind.wrap_i64]; omega
          have r2 : IntKind.i64.wrap (p : Int) = (p : Int) := by rw [IntKind.wrap_i64]; omega
          rw [show ((p + 1 : Nat) : Int) = (p : Int) + 1 by omega]
          clear S S0 hiN hg
          generalize (g iN : Int) = gi at *
          generalize (g p : Int) = gj at *
          go_wp2_with fail
          go_region
          clear c1 c2 c3 f1 f2
          generalize ((wr.setCell ⟨blk, off + iN, none⟩ (.int .i64 gj)).setCell ⟨blk, off + p, none⟩ (.int .i64 gi)).drew = w3 at S3 ⊢
          clear e1
          go_wp2
          exact ⟨⟨p, by omega, by omega, by first | rfl | simp, S3⟩, (show ((p : Int)).toNat < ((p : Int) + 1).toNat by omega)⟩
        · have hqj' : ¬ (j : Int) < (q : Int) := by omega
          have e : q = j := by omega
          rw [e] at S
          go_wp2
          (try simp only [Exit.inBlock, Exit.then])
          refine bodyPost_ret (results_none rfl _ _ _) rfl ?_
          exact ⟨rfl, unhide hfin _ (unhide S)⟩
end Go.Proofs.YtgnkhfmpooomkaaDoor
