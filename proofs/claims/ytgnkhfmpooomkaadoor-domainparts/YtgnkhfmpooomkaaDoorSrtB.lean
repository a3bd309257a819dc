/-
  The library's insertion sort, over a row of numbers and a comparison that reads.
-/
import Derived.Test.YtgnkhfmpooomkaaDoorSrtA
namespace Go.Proofs.YtgnkhfmpooomkaaDoor
set_option linter.unusedVariables false
open Go.RowKit

def cf (a b : Nat) : Int := if a < b then -1 else if b < a then 1 else 0
theorem cf_lt {a b : Nat} (h : a < b) : cf a b < 0 := by unfold cf; rw [if_pos h]; omega
theorem cf_ge {a b : Nat} (h : ¬ a < b) : ¬ cf a b < 0 := by unfold cf; rw [if_neg h]; split <;> omega

/-- The comparison hands back how the keys stand; it reads and turns nothing. -/
def CmpOK (w0 : World) (blk L : Nat) (k : Nat → Nat) (bx : Value) : Prop :=
  ∀ W, Oth blk w0 W → ∀ x y : Nat, x < L → y < L → Calls Tryd.prog 84 #[.int .i64 (x : Int), .int .i64 (y : Int), bx] W fun e w' => e = .returned (.int .i64 (cf (k x) (k y))) ∧ ∃ q, w' = W.drewN q

theorem CmpOK.at {w0 W : World} {blk L off n : Nat} {k f : Nat → Nat} {bx : Value} (h : CmpOK w0 blk L k bx) (S : SRow w0 blk off n L f W) (i j : Nat) (hi : i < n) (hj : j < n) (m : Nat) :
    Calls Tryd.prog 84 #[.int .i64 (f i : Int), .int .i64 (f j : Int), bx] (W.drewN m) fun e w' => e = .returned (.int .i64 (cf (k (f i)) (k (f j)))) ∧ ∃ q, w' = (W.drewN m).drewN q :=
  h _ (S.oth.drewN m) _ _ (S.lt i hi) (S.lt j hj)

/-- The row, put in another order within [a, b), those of one key in their order. -/
def Ord (w0 : World) (blk off n L : Nat) (k : Nat → Nat) (a b : Nat) (f g : Nat → Nat) (W : World) : Prop := SRow w0 blk off n L g W ∧ Pm a b f g ∧ St k g n

set_option maxHeartbeats 4000000 in
set_option maxRecDepth 100000 in
theorem insertion_any (w0 : World) (blk off n cap L : Nat) (k f : Nat → Nat) (bx : Value) (a b : Nat) (w : World) (hc : CmpOK w0 blk L k bx) (hr : SRow w0 blk off n L f w) (hst : St k f n) (hn : n ≤ 1000) (hab : a ≤ b) (hb : b ≤ n) :
    Calls Tryd.prog 97 #[.slice (some ⟨blk, off, none⟩) n cap, .int .i64 (a : Int), .int .i64 (b : Int), .func (.func 84) #[] #[bx]] w fun e w' =>
      e = .returned (.tuple #[]) ∧ ∃ g, Ord w0 blk off n L k a b f g w' ∧ Asc k g a b := by
  go_enter Tryd.func97, Tryd.ntmps97
  have HR : Hid (Ord w0 blk off n L k a b f f w) := ⟨hr, Pm.refl _ _ _, hst⟩
  have HC := hide hc
  clear hr hst hc
  go_wp2_with fail
  go_loopw [8] (fun vi wr => ∃ (i : Nat) (g : Nat → Nat), a < i ∧ i ≤ b + 1 ∧ vi = .int .i64 i ∧ Hid (Ord w0 blk off n L k a b f g wr) ∧ Hid (Asc k g a i)) (fun vi _ => b + 1 - (intOf vi).toNat)
  case atStart => exact ⟨a + 1, f, by omega, by omega, by simp, HR, fun x y h1 h2 h3 => by omega⟩
  case round =>
    clear HR
    obtain ⟨i, g, hai, hib, rfl, S, A⟩ := hrel
    by_cases hlt : i < b
    · go_wp2_with fail
      go_loopw [9] (fun vj wr2 => ∃ (j : Nat) (g2 : Nat → Nat), a ≤ j ∧ j ≤ i ∧ vj = .int .i64 j ∧ Hid (Ord w0 blk off n L k a b f g2 wr2) ∧ Hid (InI k g2 a i j)) (fun vj _ => (intOf vj).toNat)
      case atStart => exact ⟨i, g, by omega, Nat.le_refl _, rfl, S, InI.start A⟩
      case round =>
        clear S A
        obtain ⟨j, g2, haj, hji, rfl, S, A⟩ := hrel
        by_cases hja : a < j
        · obtain ⟨jp, rfl⟩ : ∃ q, j = q + 1 := ⟨j - 1, by omega⟩
          obtain ⟨S0, PM, ST⟩ := unhide S
          have l1 := S0.cell (jp + 1) (by omega)
          have l2 := S0.cell jp (by omega)
          have f1 := S0.fz (jp + 1) (by omega)
          have f2 := S0.fz jp (by omega)
          have hcm := fun m => (unhide HC).at S0 (jp + 1) jp (by omega) (by omega) m
          obtain ⟨iN, hiN⟩ : ∃ q, q = jp + 1 := ⟨_, rfl⟩
          have e1 : ((jp : Int) + 1).toNat = iN := by omega
          have p1 : (0 : Int) ≤ (jp : Int) + 1 := by omega
          have b1 : (jp : Int) + 1 < (n : Int) := by omega
          have b2 : (jp : Int) < (n : Int) := by omega
          have r1 : IntKind.i64.wrap ((jp : Int) + 1) = (jp : Int) + 1 := by rw [IntKind.wrap_i64]; omega
          have r2 : IntKind.i64.wrap (jp : Int) = (jp : Int) := by rw [IntKind.wrap_i64]; omega
          have hgd : decide ((jp : Int) + 1 > (a : Int)) = true := decide_eq_true (by omega)
          have hgd' : (a : Int) < (jp : Int) + 1 := by omega
          rw [show ((jp + 1 : Nat) : Int) = (jp : Int) + 1 by omega]
          by_cases hlv : k (g2 (jp + 1)) < k (g2 jp)
          · have hv := cf_lt hlv
            have hd : decide (cf (k (g2 (jp + 1))) (k (g2 jp)) < 0) = true := decide_eq_true hv
            have HNEXT : ∀ W, Hid (SRow w0 blk off n L (sw g2 (jp + 1) jp) W) → Hid (Ord w0 blk off n L k a b f (sw g2 (jp + 1) jp) W) ∧ Hid (InI k (sw g2 (jp + 1) jp) a i jp) := fun W hW =>
              ⟨⟨hW, PM.trans ((by rw [sw_rot]; exact (pm_rot g2 (by omega) (by omega)).mono (by omega) (by omega)) : Pm a b g2 (sw g2 (jp + 1) jp)), ST.sw (by omega) hlv⟩, (unhide A).step (by omega) (by omega) hlv⟩
            have HNX := hide HNEXT
            have HS3 : Hid (∀ q, SRow w0 blk off n L (sw g2 (jp + 1) jp) (((wr.drewN q).setCell ⟨blk, off + iN, none⟩ (.int .i64 (g2 jp : Int))).setCell ⟨blk, off + jp, none⟩ (.int .i64 (g2 (jp + 1) : Int))).drew) := by
              intro q
              rw [hiN]
              exact (S0.drewN q).sw (jp + 1) jp (by omega) (by omega)
            have HC3 : Hid (∀ q, ∃ u, ((wr.drewN q).setCell ⟨blk, off + iN, none⟩ (.int .i64 (g2 jp : Int))).cell? ⟨blk, off + jp, none⟩ = some u) := by
              intro q
              rw [hiN]
              exact (S0.drewN q).c2 (jp + 1) jp (by omega) (by omega) _
            clear S0 PM ST S A HNEXT
            generalize cf (k (g2 (jp + 1))) (k (g2 jp)) = z at *
            generalize sw g2 (jp + 1) jp = g3 at *
            generalize (g2 (jp + 1) : Int) = x1 at *
            generalize (g2 jp : Int) = x2 at *
            rw [← hiN] at l1 f1
            clear hiN
            go_wp2_with fail
            go_quiet (first | (go_at_call 84; exact Calls.quiet_of (hcm _)))
            have S3 := hide (unhide HS3 nq)
            obtain ⟨u, c3⟩ := unhide HC3 nq
            have l1' : (wr.drewN nq).cell? ⟨blk, off + iN, none⟩ = some (.int .i64 x1) := l1
            have l2' : (wr.drewN nq).cell? ⟨blk, off + jp, none⟩ = some (.int .i64 x2) := l2
            have f1' : (wr.drewN nq).frozen? ⟨blk, off + iN, none⟩ = false := f1
            have f2' : (wr.drewN nq).frozen? ⟨blk, off + jp, none⟩ = false := f2
            clear HS3 HC3 hcm l1 l2 f1 f2
            generalize wr.drewN nq = w2 at *
            go_wp2_with fail
            go_region
            clear c3 l1' l2' f1' f2'
            generalize ((w2.setCell ⟨blk, off + iN, none⟩ (.int .i64 x2)).setCell ⟨blk, off + jp, none⟩ (.int .i64 x1)).drew = w3 at S3 ⊢
            clear e1
            go_wp2
            exact ⟨⟨jp, g3, by omega, by omega, by first | rfl | simp, (unhide HNX w3 S3).1, (unhide HNX w3 S3).2⟩, (show ((jp : Int)).toNat < ((jp : Int) + 1).toNat by omega)⟩
          · have hv := cf_ge hlv
            have hd : decide (cf (k (g2 (jp + 1))) (k (g2 jp)) < 0) = false := decide_eq_false hv
            have HEND : Hid (∀ q, Ord w0 blk off n L k a b f g2 (wr.drewN q)) := fun q => ⟨S0.drewN q, PM, ST⟩
            have HA2 := hide ((unhide A).stop (by omega) (by omega) (.inr (by simpa using hlv)))
            clear S0 PM ST S A
            generalize cf (k (g2 (jp + 1))) (k (g2 jp)) = z at *
            generalize (g2 (jp + 1) : Int) = x1 at *
            generalize (g2 jp : Int) = x2 at *
            rw [← hiN] at l1 f1
            clear hiN
            go_wp2_with fail
            go_quiet (first | (go_at_call 84; exact Calls.quiet_of (hcm _)))
            clear hcm l1 l2 f1 f2 e1
            go_wp2
            exact ⟨⟨i + 1, g2, by omega, by omega, by simp, unhide HEND nq, HA2⟩, (show b + 1 - ((i : Int) + 1).toNat < b + 1 - ((i : Int)).toNat by omega)⟩
        · have hgd : decide ((j : Int) > (a : Int)) = false := decide_eq_false (by omega)
          have hgd' : ¬ (a : Int) < (j : Int) := by omega
          obtain ⟨S0, PM, ST⟩ := unhide S
          have HEND : Hid (Ord w0 blk off n L k a b f g2 wr.drew) := ⟨S0.drew, PM, ST⟩
          have HA2 := hide ((unhide A).stop haj hji (.inl (by omega)))
          clear S0 PM ST S A
          go_wp2_with fail
          go_region
          go_wp2
          exact ⟨⟨i + 1, g2, by omega, by omega, by simp, HEND, HA2⟩, (show b + 1 - ((i : Int) + 1).toNat < b + 1 - ((i : Int)).toNat by omega)⟩
    · go_wp2
      go_end0
      have A2 : Asc k g a b := fun x y h1 h2 h3 => (unhide A) x y h1 h2 (by omega)
      exact ⟨rfl, g, unhide S, A2⟩
end Go.Proofs.YtgnkhfmpooomkaaDoor
