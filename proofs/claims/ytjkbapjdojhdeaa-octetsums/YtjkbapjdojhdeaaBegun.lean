/-
  What begun tells: true, in whatever memory.
-/
import Derived.Test.YtjkbapjdojhdeaaRdv
namespace Go.Proofs.Ytjkbapjdojhdeaa
set_option linter.unusedVariables false
open Go.RowKit

theorem fr7 : unf (fr [7]) = ⟨[7], 9, 0⟩ := by kernel_rfl
theorem tk8 : tkb ([] ++ be 4 1 ++ [8]) = ⟨[8], 5, 0⟩ := by kernel_rfl
theorem pt2 : [] ++ be (psz 2) 258 = [1, 2] := by kernel_rfl
theorem nm2 : num [1, 2] = 258 := by kernel_rfl
theorem crc9 : crc [49, 50, 51, 52, 53, 54, 55, 56, 57] = 3421780262 := by kernel_rfl

theorem take12 (w : World) (b : Nat) (hb : b = w.heap.size) :
    Calls Try.prog 13 #[.slice (some ⟨b, 0, none⟩) 2 2, .int .i64 2] (w.alloc (.cells #[.int .u8 1, .int .u8 2] 5)) fun e w' => e = .returned (.tuple #[.int .u64 258, .int .i64 0]) ∧ w' = w.alloc (.cells #[.int .u8 1, .int .u8 2] 5) := by
  subst hb
  refine (take_ok _ 2 2 2 [1, 2] _ rfl (Rd.lit w [1, 2] (0, 0) (by decide)) (by omega) (by omega)).mono fun e w' h => ⟨?_, h.2⟩
  rw [h.1]
  show Ending.returned (.tuple #[.int .u64 (num [1, 2] : Int), .int .i64 0]) = _
  rw [nm2]
  rfl

theorem frame7 (w : World) (b : Nat) (hb : b = w.heap.size) :
    Calls Try.prog 24 #[.slice (some ⟨b, 0, none⟩) 1 1] (w.alloc (.cells #[.int .u8 7] 5)) fun e w' => ∃ ao cap, e = .returned (.slice ao 9 cap) ∧ Rd w' ao cap (fr [7]) ∧ Below w.heap.size w w' := by
  subst hb
  refine (frame_rd _ 1 1 [7] _ rfl (Rd.lit w [7] (0, 0) (by decide)) (by omega)).mono fun e w' h => ?_
  obtain ⟨ao, cap, h1, h2, _, h3⟩ := h
  exact ⟨ao, cap, h1, h2, ((Below.refl _ _).alloc (Nat.le_refl _) _).trans (h3.mono (by simp))⟩

theorem unframe7 (w : World) (ao : Option Addr) (cap : Nat) (h : Rd w ao cap (fr [7])) :
    Calls Try.prog 20 #[.slice ao 9 cap] w fun e w' => ∃ ao cap, e = .returned (.tuple #[.slice ao 1 cap, .int .i64 9, .int .i64 0]) ∧ Below w.heap.size w w' := by
  refine (unframe_rd ao 9 cap (fr [7]) w rfl h (by omega)).mono fun e w' h => ?_
  obtain ⟨a, c, h1, _, h3⟩ := h
  rw [fr7] at h1
  exact ⟨a, c, h1, h3⟩

theorem put8 (w : World) (b : Nat) (hb : b = w.heap.size) :
    Calls Try.prog 18 #[.slice none 0 0, .slice (some ⟨b, 0, none⟩) 1 1] (w.alloc (.cells #[.int .u8 8] 5)) fun e w' => ∃ ao cap, e = .returned (.slice ao 5 cap) ∧ Rd w' ao cap ([] ++ be 4 1 ++ [8]) ∧ Below w.heap.size w w' := by
  subst hb
  refine (putBytes_rd none _ 0 0 1 1 [] [8] _ rfl (Rd.nothing _) rfl (Rd.lit w [8] (0, 0) (by decide)) (by omega)).mono fun e w' h => ?_
  obtain ⟨ao, cap, h1, h2, _, h3⟩ := h
  exact ⟨ao, cap, h1, h2, ((Below.refl _ _).alloc (Nat.le_refl _) _).trans (h3.mono (by simp))⟩

theorem takeB8 (w : World) (ao : Option Addr) (cap : Nat) (h : Rd w ao cap ([] ++ be 4 1 ++ [8])) :
    Calls Try.prog 16 #[.slice ao 5 cap] w fun e w' => ∃ ao cap, e = .returned (.tuple #[.slice ao 1 cap, .int .i64 5, .int .i64 0]) ∧ Below w.heap.size w w' := by
  refine (takeBytes_rd ao 5 cap _ w rfl h (by omega)).mono fun e w' h => ?_
  obtain ⟨a, c, h1, _, h3⟩ := h
  rw [tk8] at h1
  exact ⟨a, c, h1, h3⟩

theorem put2 (w : World) :
    Calls Try.prog 11 #[.slice none 0 0, .int .u64 258, .int .i64 2] w fun e w' => ∃ ao cap, e = .returned (.slice ao 2 cap) ∧ (convert 22 9 (.slice ao 2 cap)).run Try.prog w' = .ok (.string ⟨#[1, 2]⟩) w' ∧ Below w.heap.size w w' := by
  refine (put_rd none 0 0 258 2 [] w rfl (Rd.nothing _) (by omega)).mono fun e w' h => ?_
  obtain ⟨ao, cap, h1, h2, _, h3⟩ := h
  rw [pt2] at h2
  exact ⟨ao, cap, h1, conv_str w' ao 2 cap [1, 2] rfl h2, h3⟩

theorem sum9 (w : World) (b : Nat) (hb : b = w.heap.size + 1) :
    Calls Try.prog 22 #[.slice (some ⟨b, 0, none⟩) 1 1] ((w.alloc (.cells #[.int .u8 49, .int .u8 50, .int .u8 51, .int .u8 52, .int .u8 53, .int .u8 54, .int .u8 55, .int .u8 56, .int .u8 57] 5 (9, 10))).alloc (.cells #[.slice (some ⟨w.heap.size, 0, none⟩) 9 9] 22)) fun e w' => e = .returned (.int .u32 3421780262) ∧ Below w.heap.size w w' := by
  refine (sum_one _ 9 9 [49, 50, 51, 52, 53, 54, 55, 56, 57] _ b (by simp [hb]) rfl (Rd.lit w [49, 50, 51, 52, 53, 54, 55, 56, 57] (9, 10) (by decide))).mono fun e w' h => ⟨?_, ((Below.refl _ _).alloc (Nat.le_refl _) _).trans (h.2.mono (by simp))⟩
  rw [h.1, crc9]
  rfl

set_option maxHeartbeats 1000000 in
theorem begun_any (w : World) : Calls Try.prog 9 #[] w fun e w' => e = .returned (.bool true) ∧ Below w.heap.size w w' := by
  have kc := fun (w : World) (C : Array Value) (n c : Nat) => Lib.run_convert_bytes_const (P := Try.prog) w 22 5 C n c Try.underlying22 Try.underlying5
  go_enter Try.func9, Try.ntmps9
  go_wp2_with fail
  refine (take12 w _ rfl).mono ?_
  rintro e w1 ⟨rfl, hw1⟩
  have hb1 : Below w.heap.size w w1 := by rw [hw1]; exact (Below.refl _ _).alloc (Nat.le_refl _) _
  clear hw1
  go_wp2_with fail
  refine (frame7 w1 _ rfl).mono ?_
  rintro e w2 ⟨a2, c2, rfl, hr2, hb2⟩
  have hb12 := hb1.trans (hb2.mono hb1.size)
  go_wp2_with fail
  refine (unframe7 w2 a2 c2 hr2).mono ?_
  rintro e w3 ⟨a3, c3, rfl, hb3⟩
  have hb13 := hb12.trans (hb3.mono hb12.size)
  clear hr2 hb2 hb3 hb12 hb1
  go_wp2_with fail
  refine (put8 w3 _ rfl).mono ?_
  rintro e w4 ⟨a4, c4, rfl, hr4, hb4⟩
  have hb14 := hb13.trans (hb4.mono hb13.size)
  go_wp2_with fail
  refine (takeB8 w4 a4 c4 hr4).mono ?_
  rintro e w5 ⟨a5, c5, rfl, hb5⟩
  have hb15 := hb14.trans (hb5.mono hb14.size)
  clear hr4 hb4 hb5 hb13 hb14
  go_wp2_with fail
  refine (put2 w5).mono ?_
  rintro e w6 ⟨a6, c6, rfl, hcv, hb6⟩
  have hb16 := hb15.trans (hb6.mono hb15.size)
  clear hb15 hb6
  go_wp2_with fail
  refine (sum9 w6 _ rfl).mono ?_
  rintro e w7 ⟨rfl, hb7⟩
  have hb17 := hb16.trans (hb7.mono hb16.size)
  clear hb16 hb7
  go_wp2
  go_ret
  exact ⟨rfl, hb17⟩
end Go.Proofs.Ytjkbapjdojhdeaa
