/-
  That pct has begun.
-/
import Derived.Test.YthgoipljhhjebaaPctD
namespace Go.Proofs.Ythgoipljhhjebaa
set_option linter.unusedVariables false
open Go.RowKit

theorem in_4 : inS 4 63 = true := by decide +kernel
theorem in_2 : inS 2 63 = false := by decide +kernel
theorem enc_begun : encd 4 [97, 32, 98] = [97, 37, 50, 48, 98] := by decide +kernel
theorem dec_begun : decd [37, 52, 49] = [65] := by decide +kernel

set_option maxHeartbeats 800000 in
theorem begun_yes (w : World) : Calls Try.prog 8 #[] w fun e w' => e = .returned (.bool true) ∧ Ext w w' := by
  have kc := fun (w : World) (C : Array Value) (n c : Nat) => Lib.run_convert_bytes_const (P := Try.prog) w 22 5 C n c Try.underlying22 Try.underlying5
  go_enter Try.func8, Try.ntmps8
  go_wp2_with fail
  refine (in_any 4 63 _).mono ?_
  rw [in_4]
  rintro e w1 ⟨rfl, hx1⟩
  go_wp2_with fail
  refine (in_any 2 63 _).mono ?_
  rw [in_2]
  rintro e w2 ⟨rfl, hx2⟩
  have hx2 := hx1.trans hx2
  clear hx1
  go_wp2_with fail
  have R3 : ∀ fz, RdV (w2.alloc (.cells #[.int .u8 97, .int .u8 32, .int .u8 98] 5 fz)) (some ⟨w2.heap.size, 0, none⟩) 3 (([97, 32, 98] : List UInt8).map B) := fun fz => RdV.lit w2 (([97, 32, 98] : List UInt8).map B) 5 fz (show 3 ≤ 9223372036854775807 by omega)
  refine (encode_own 4 _ 3 3 [97, 32, 98] _ rfl (by omega) (R3 _)).mono ?_
  rw [enc_begun]
  rintro e w3 ⟨rfl, hx3⟩
  have hx3 : Ext w w3 := (hx2.trans (Ext.alloc w2 _)).trans hx3
  clear R3 hx2 kc
  go_wp2_with fail
  refine (decode_any [37, 52, 49] _ (by simp)).mono ?_
  rw [dec_begun]
  rintro e w4 ⟨ao, cap, rfl, hr4, hx4⟩
  have cs := conv_str w4 ao 1 cap [65] rfl hr4
  have hx4 := hx3.trans hx4
  clear hx3
  go_wp2
  go_ret
  exact ⟨rfl, hx4⟩
end Go.Proofs.Ythgoipljhhjebaa
