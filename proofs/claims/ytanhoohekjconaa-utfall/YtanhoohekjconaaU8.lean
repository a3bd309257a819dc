/-
  That utf has begun.
-/
import Derived.Test.YtanhoohekjconaaU7
namespace Go.Proofs.Ytanhoohekjconaa
set_option linter.unusedVariables false
open Go.RowKit

theorem dec_begun : dec [195, 164, 97] = [228, 97] := by decide +kernel
theorem enc_begun : enc [228, 97] = [195, 164, 97] := by decide +kernel
theorem vld_97 : vld [97] = true := by decide +kernel
theorem vld_255 : vld [255] = false := by decide +kernel

set_option maxHeartbeats 800000 in
theorem begun_yes (w : World) : Calls Try.prog 8 #[] w fun e w' => e = .returned (.bool true) ∧ Ext w w' := by
  have HD : ∀ fz : Nat × Nat, Hid (Calls Try.prog 10 #[.slice (some ⟨w.heap.size, 0, none⟩) 3 3] (w.alloc (.cells #[.int .u8 195, .int .u8 164, .int .u8 97] 5 fz)) (Gives (w.alloc (.cells #[.int .u8 195, .int .u8 164, .int .u8 97] 5 fz)) (([228, 97] : List Int).map R))) := by
    intro fz
    have := decode_any _ 3 3 [195, 164, 97] _ rfl (by omega) (RdV.lit w (([195, 164, 97] : List UInt8).map B) 5 fz (show 3 ≤ 9223372036854775807 by omega))
    rw [dec_begun] at this
    exact this
  have kc := fun (w : World) (C : Array Value) (n c : Nat) => Lib.run_convert_bytes_const (P := Try.prog) w 22 5 C n c Try.underlying22 Try.underlying5
  go_enter Try.func8, Try.ntmps8
  go_wp2_with fail
  refine (unhide (HD _)).mono ?_
  rintro e w1 ⟨ao, cap, rfl, hr, hx⟩
  have hx1 : Ext w w1 := (Ext.alloc w _).trans hx
  clear HD hx
  have hle := hr.le
  have hmx := hr.max
  obtain ⟨b, off, rfl, hc⟩ := hr.cells (by simp)
  have c0 : w1.cell? ⟨b, off, none⟩ = some (.int .i32 228) := by simpa using hc 0 (by simp)
  clear hc hr
  simp only [List.map_cons, List.map_nil, List.length_cons, List.length_nil] at *
  have R2 : RdV (w1.alloc (.cells #[.int .i32 228, .int .i32 97] 21 (0, 0))) (some ⟨w1.heap.size, 0, none⟩) 2 (([228, 97] : List Int).map R) := RdV.lit w1 [.int .i32 228, .int .i32 97] 21 (0, 0) (show 2 ≤ 9223372036854775807 by omega)
  have HE := hide (encode_any _ 2 2 [228, 97] _ rfl (by omega) R2)
  rw [enc_begun] at HE
  clear R2
  go_wp2_with fail
  refine (unhide HE).mono ?_
  rintro e w2 ⟨ao2, cap2, rfl, hr2, hx2⟩
  have hx2 : Ext w w2 := (hx1.trans (Ext.alloc w1 _)).trans hx2
  clear HE hx1 c0
  have cs := conv_str w2 ao2 3 cap2 [195, 164, 97] rfl hr2
  go_wp2_with fail
  have R3 : ∀ fz, RdV (w2.alloc (.cells #[.int .u8 97] 5 fz)) (some ⟨w2.heap.size, 0, none⟩) 1 (([97] : List UInt8).map B) := fun fz => RdV.lit w2 (([97] : List UInt8).map B) 5 fz (show 1 ≤ 9223372036854775807 by omega)
  refine (valid_any _ 1 1 [97] _ rfl (R3 _)).mono ?_
  rw [vld_97]
  rintro e w3 ⟨rfl, k, hw3⟩
  have hx3 : Ext w w3 := by rw [hw3]; exact (hx2.trans (Ext.alloc w2 _)).trans (Ext.drewN _ k)
  clear hw3 R3 cs hr2 hx2
  go_wp2_with fail
  have R4 : ∀ fz, RdV (w3.alloc (.cells #[.int .u8 255] 5 fz)) (some ⟨w3.heap.size, 0, none⟩) 1 (([255] : List UInt8).map B) := fun fz => RdV.lit w3 (([255] : List UInt8).map B) 5 fz (show 1 ≤ 9223372036854775807 by omega)
  refine (valid_any _ 1 1 [255] _ rfl (R4 _)).mono ?_
  rw [vld_255]
  rintro e w4 ⟨rfl, k4, hw4⟩
  have hx4 : Ext w w4 := by rw [hw4]; exact (hx3.trans (Ext.alloc w3 _)).trans (Ext.drewN _ k4)
  clear hw4 R4 hx3
  go_wp2
  go_ret
  exact ⟨rfl, hx4⟩
end Go.Proofs.Ytanhoohekjconaa
