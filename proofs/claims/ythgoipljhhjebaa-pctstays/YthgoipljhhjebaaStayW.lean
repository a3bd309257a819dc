/-
  The walk of PctStays.
-/
import Derived.Test.YthgoipljhhjebaaPctC
namespace Go.Proofs.Ythgoipljhhjebaa
set_option linter.unusedVariables false
open Go.RowKit

set_option maxHeartbeats 800000 in
theorem stay_walk (s : UInt8) (ao : Option Addr) (l cap : Nat) (bs : List UInt8) (w : World) (hl : bs.length = l) (h : RdV w ao cap (bs.map B)) :
    Calls Try.prog 6 #[B s, .slice ao l cap] w fun e w' => e = .returned (.bool true) ∧ Below w.heap.size w w' := by
  subst hl
  go_enter Try.func6, Try.ntmps6
  go_wp2_with fail
  refine (begun_yes _).mono ?_
  rintro e w1 ⟨rfl, hx1⟩
  by_cases hb : 60 < bs.length
  · go_wp2
    go_ret
    exact ⟨rfl, hx1⟩
  have h1 := h.below hx1
  go_wp2_with fail
  have ek : (s.toNat : Int) % 6 = ((s.toNat % 6 : Nat) : Int) := by omega
  have hk : s.toNat % 6 < 6 := by omega
  rw [ek]
  clear ek
  generalize s.toNat % 6 = k at *
  refine (encode_own (k : Int) ao _ cap bs _ rfl (by omega) h1).mono ?_
  rintro e w2 ⟨rfl, hx2⟩
  have hx2 := hx1.trans hx2
  have hout := encd_out k hk bs
  have hsame := encd_same k hk _ hout
  have hlen := encd_len (k : Int) bs
  clear hx1 h1
  generalize encd (k : Int) bs = t at *
  have hsz := size_S t
  have hat := at_S t
  generalize hz : (⟨t.toArray⟩ : ByteArray) = z at *
  have HO := hide hout
  have HS := hide hsame
  clear hout hsame
  have HA := hide hat
  clear hat
  have HZ := hide hz
  clear hz
  go_wp2_with fail
  go_loopw [7] (fun i wr => ∃ j : Nat, j ≤ t.length ∧ i = .int .i64 j ∧ Ext w wr) (fun i _ => t.length - (intOf i).toNat)
  case atStart => exact ⟨0, by omega, rfl, hx2⟩
  case round =>
    obtain ⟨j, hj, rfl, hxr⟩ := hrel
    clear hx2
    by_cases hjl : j < t.length
    · have hat := unhide HA j (by omega)
      have ho := unhide HO (t.getD j 0) (by simp [List.getD, hjl])
      generalize t.getD j 0 = y at *
      have IN := hide (in_any (k : Int) y)
      rw [ho] at IN
      go_wp2_with fail
      refine (unhide IN _).mono ?_
      rintro e w3 ⟨rfl, hx3⟩
      have hx3 := hxr.trans hx3
      clear IN ho hat hxr
      go_wp2
      go_roundw
      case rel => exact ⟨j + 1, by omega, by go_num, hx3⟩
      case measure => simp [intOf]; omega
    · have hz := unhide HZ
      subst hz
      obtain ⟨c, w3, hcv, hr3, hx3, _⟩ := conv_bytes wr t (by omega)
      have EN := hide (encode_own (k : Int) _ _ c t w3 rfl (by omega) hr3)
      rw [unhide HS] at EN
      have hx3 := hxr.trans hx3
      go_wp2_with fail
      refine (unhide EN).mono ?_
      rintro e w4 ⟨rfl, hx4⟩
      have hx4 := hx3.trans hx4
      clear EN hcv hr3 hx3
      go_wp2
      go_ret
      exact ⟨by simp, hx4⟩
end Go.Proofs.Ythgoipljhhjebaa
