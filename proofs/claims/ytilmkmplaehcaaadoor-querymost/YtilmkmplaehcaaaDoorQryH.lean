/-
  No more pairs than so many are read.
-/
import Derived.Test.YtilmkmplaehcaaaDoorQryF
namespace Go.Proofs.YtilmkmplaehcaaaDoor
set_option linter.unusedVariables false
open Go.RowKit

set_option maxHeartbeats 2000000 in
theorem most11_walk (hp : ParseOk) (hs : ShowOk) (n : Nat) (hn : n < 256) (w : World) (tb : MaxL w) :
    Calls Tryd.prog 6 #[.int .u8 (n : Int)] w fun e w' => e = .returned (.bool true) ∧ Ext w w' := by
  have HB := hide (begun_yes hp hs w tb)
  obtain ⟨K, hK⟩ : ∃ K, K = n % 60 := ⟨_, rfl⟩
  have t0 : Int.tmod (n : Int) 60 = (K : Int) := by rw [Int.tmod_eq_emod_of_nonneg (by omega)]; omega
  have t1 : IntKind.u8.wrap (K : Int) = (K : Int) := by simp [IntKind.wrap, IntKind.bits, IntKind.signed]; omega
  have t2 : IntKind.i64.wrap (K : Int) = (K : Int) := by rw [IntKind.wrap_i64]; omega
  have hK60 : K < 60 := by omega
  clear hK hn
  go_enter Tryd.func6, Tryd.ntmps6
  go_wp2_with fail
  refine (unhide HB).mono ?_
  rintro e w1 ⟨rfl, hx1⟩
  have HM := hide (MaxL.below tb hx1)
  clear HB tb
  have ST : Hid (∃ k : Nat, k ≤ K ∧ Value.string ⟨#[]⟩ = S (mst k) ∧ Value.int .i64 0 = .int .i64 (k : Int) ∧ Ext w1 w1) := ⟨0, by omega, rfl, rfl, Ext.refl _⟩
  go_wp2_with fail
  go_loopw [4, 5] (fun o i wr => ∃ k : Nat, k ≤ K ∧ o = S (mst k) ∧ i = .int .i64 (k : Int) ∧ Ext w1 wr) (fun _ i _ => K - (intOf i).toNat)
  case atStart => exact unhide ST
  case round =>
    clear ST
    obtain ⟨k, hk, rfl, rfl, hx⟩ := hrel
    have hml := mst_len k
    have hms := size_S (mst k)
    by_cases hkl : k < K
    · have hkl' : (k : Int) < (K : Int) := by omega
      have z0 : Int.tmod (k : Int) 26 = ((k % 26 : Nat) : Int) := by rw [Int.tmod_eq_emod_of_nonneg (by omega)]; omega
      have z1 : IntKind.u8.wrap ((k % 26 : Nat) : Int) = ((k % 26 : Nat) : Int) := by simp [IntKind.wrap, IntKind.bits, IntKind.signed]; omega
      have z2 : IntKind.u8.wrap (97 + ((k % 26 : Nat) : Int)) = 97 + ((k % 26 : Nat) : Int) := by simp [IntKind.wrap, IntKind.bits, IntKind.signed]; omega
      have z3 : IntKind.i64.wrap ((k % 26 : Nat) : Int) = ((k % 26 : Nat) : Int) := by rw [IntKind.wrap_i64]; omega
      have eB : B (UInt8.ofNat (97 + k % 26)) = .int .u8 (97 + ((k % 26 : Nat) : Int)) := by
        have : (UInt8.ofNat (97 + k % 26)).toNat = 97 + k % 26 := by simp; omega
        simp only [B, this]
        simp
      have cs := oconv_str (wr.alloc (.cells #[B (UInt8.ofNat (97 + k % 26))] 5 (0, 0))) (some ⟨wr.heap.size, 0, none⟩) 1 1 [UInt8.ofNat (97 + k % 26)] rfl (RdV.lit wr [B (UInt8.ofNat (97 + k % 26))] 5 (0, 0) (by simp))
      have KEY : Hid (∀ w', Ext wr w' → (∃ k' : Nat, k' ≤ K ∧ Value.string ⟨(mst (k + 1)).toArray⟩ = S (mst k') ∧ Value.int .i64 ((k : Int) + 1) = .int .i64 (k' : Int) ∧ Ext w1 w') ∧ K - ((k : Int) + 1).toNat < K - k) := fun w' h' =>
        ⟨⟨k + 1, by omega, rfl, by simp, hx.trans h'⟩, by omega⟩
      have e1 := cat_to (mst k) [38]
      have e2 := cat_to (mst k ++ [38]) [UInt8.ofNat (97 + k % 26)]
      have e3 := cat_to (mst k ++ [38] ++ [UInt8.ofNat (97 + k % 26)]) [61, 49, 38]
      rw [eB] at cs
      have em : mst (k + 1) = mst k ++ [38] ++ [UInt8.ofNat (97 + k % 26)] ++ [61, 49, 38] := rfl
      rw [← em] at e3
      clear em
      generalize UInt8.ofNat (97 + k % 26) = c at *
      generalize k % 26 = d at *
      generalize mst (k + 1) = M2 at *
      generalize mst k = M at *
      rw [show M ++ [38] ++ [c] = M ++ [38, c] by simp] at e2 e3
      go_wp2
      exact unhide KEY _ (Ext.alloc wr _)
    · have hk2 : k = K := by omega
      subst hk2
      have hml2 := mst_par k
      have HP := hide (hp (mst k) wr (by omega) ((unhide HM).below hx))
      have FX := hide (hx1.trans hx)
      have r0 : ∀ a b : Int, (if a < b then a else b) = min a b := fun a b => by split <;> omega
      clear hx HM hx1
      generalize mst k = M at *
      rw [hml2] at HP
      go_wp2_with fail
      refine (unhide HP).mono ?_
      rintro e w2 ⟨a2, c2, rfl, R2, hx2⟩
      clear HP
      have FF := (unhide FX).trans hx2
      have hle := R2.le
      clear R2 hx2 FX
      by_cases h40 : k < 40
      · have q1 : min k 40 = k := by omega
        have q2 : (k : Int) < 40 := by omega
        rw [q1]
        go_wp2
        go_ret
        exact ⟨rfl, FF⟩
      · have q1 : min k 40 = 40 := by omega
        have q2 : ¬ (k : Int) < 40 := by omega
        have q3 : min 40 (k : Int) = 40 := by omega
        rw [q1]
        go_wp2
        go_ret
        exact ⟨rfl, FF⟩
end Go.Proofs.YtilmkmplaehcaaaDoor
