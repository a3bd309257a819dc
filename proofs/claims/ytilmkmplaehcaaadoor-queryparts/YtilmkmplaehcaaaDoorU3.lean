/-
  What 'first' of package utf tells.
-/
import Derived.Test.YtilmkmplaehcaaaDoorU2
namespace Go.Proofs.YtilmkmplaehcaaaDoor
set_option linter.unusedVariables false
open Go.RowKit

def Tells (w : World) (r n : Nat) (e : Ending) (w' : World) : Prop := e = .returned (.tuple #[.int .i32 (r : Int), .int .i64 (n : Int)]) ∧ ∃ k, w' = w.drewN k

theorem first_zero (b off cap len x0 : Nat) (w : World) (hx : x0 < 256) (hl : 1 ≤ len) (hlc : len ≤ cap) (hmx : cap ≤ 9223372036854775807) (h0 : w.cell? ⟨b, off, none⟩ = some (.int .u8 (x0 : Int))) (hd : ld x0 = 0 ∨ len < ld x0) :
    Calls Tryd.prog 52 #[.slice (some ⟨b, off, none⟩) len cap] w (Tells w 0 0) := by
  have HS := hide (sizeByLead_any x0 w hx)
  generalize ld x0 = n at *
  go_enter Tryd.func52, Tryd.ntmps52
  go_wp2_with fail
  refine (unhide HS).mono ?_
  rintro e w1 ⟨rfl, rfl⟩
  clear HS
  by_cases hn : n = 0
  · subst hn
    go_wp2
    go_ret2
    exact ⟨rfl, 0, rfl⟩
  · have hd : len < n := by omega
    go_wp2
    go_ret2
    exact ⟨rfl, 0, rfl⟩

theorem an0 : ∀ x : Fin 256, bits .andNot .u8 (x.val : Int) 0 = (x.val : Int) := by decide +kernel
theorem an192 : ∀ x : Fin 256, bits .andNot .u8 (x.val : Int) 192 = ((x.val % 64 : Nat) : Int) := by decide +kernel
theorem an224 : ∀ x : Fin 256, bits .andNot .u8 (x.val : Int) 224 = ((x.val % 32 : Nat) : Int) := by decide +kernel
theorem an240 : ∀ x : Fin 256, bits .andNot .u8 (x.val : Int) 240 = ((x.val % 16 : Nat) : Int) := by decide +kernel
theorem an63 : ∀ x : Fin 256, bits .andNot .u8 (x.val : Int) 63 = ((x.val / 64 * 64 : Nat) : Int) := by decide +kernel
theorem a63 : ∀ x : Fin 256, bits .and .u8 (x.val : Int) 63 = ((x.val % 64 : Nat) : Int) := by decide +kernel

theorem lead1 (w : World) : Calls Tryd.prog 68 #[.int .i64 1] w fun e w' => e = .returned (.int .u8 0) ∧ w' = w := lead_any 1 w (by decide) (by decide)
theorem lead2 (w : World) : Calls Tryd.prog 68 #[.int .i64 2] w fun e w' => e = .returned (.int .u8 192) ∧ w' = w := lead_any 2 w (by decide) (by decide)
theorem lead3 (w : World) : Calls Tryd.prog 68 #[.int .i64 3] w fun e w' => e = .returned (.int .u8 224) ∧ w' = w := lead_any 3 w (by decide) (by decide)
theorem lead4 (w : World) : Calls Tryd.prog 68 #[.int .i64 4] w fun e w' => e = .returned (.int .u8 240) ∧ w' = w := lead_any 4 w (by decide) (by decide)

theorem first_one (b off cap len x0 : Nat) (w : World) (hx : x0 < 128) (hl : 1 ≤ len) (hlc : len ≤ cap) (hmx : cap ≤ 9223372036854775807) (h0 : w.cell? ⟨b, off, none⟩ = some (.int .u8 (x0 : Int))) :
    Calls Tryd.prog 52 #[.slice (some ⟨b, off, none⟩) len cap] w (Tells w x0 1) := by
  have hd : ld x0 = 1 := by unfold ld; rw [if_pos hx]
  have HS := hide (sizeByLead_any x0 w (by omega))
  rw [hd] at HS
  go_enter Tryd.func52, Tryd.ntmps52
  go_wp2_with fail
  refine (unhide HS).mono ?_
  rintro e w1 ⟨rfl, rfl⟩
  clear HS
  have e0 := an0 ⟨x0, by omega⟩
  simp only at e0
  go_wp2_with fail
  go_quiet ((go_at_call 68; exact Calls.quiet_of_same (lead1 _)))
  have HC := hide (uisCode_any (x0 : Int) (w1.drewN nq))
  have HZ := hide (size_any (x0 : Int) (w1.drewN nq))
  have hs : ush (x0 : Int) = 1 := by unfold ush; rw [if_neg (by omega), if_pos (by omega)]
  have hz : sz (x0 : Int) = 1 := by rw [sz_sh (by omega), hs]
  rw [hz] at HZ
  rw [show decide (ush (x0 : Int) ≠ 0) = true by simp [hs]] at HC
  clear hs hz
  go_wp2
  all_goals
    refine wp_loop_rounds 1 ?_
    rw [rounds_succ]
    go_wp2_with fail
    refine (unhide HC).mono ?_
    rintro e w2 ⟨rfl, rfl⟩
    go_wp2_with fail
    refine (unhide HZ).mono ?_
    rintro e w2 ⟨rfl, rfl⟩
    go_wp2
    go_ret2
    exact ⟨rfl, nq, rfl⟩

set_option maxHeartbeats 800000 in
set_option maxRecDepth 100000 in
theorem first2_bad1 (b off cap len x0 x1 : Nat) (w : World) (hx : 192 ≤ x0 ∧ x0 < 224) (hx1 : x1 < 256) (hl : 2 ≤ len) (hlc : len ≤ cap) (hmx : cap ≤ 9223372036854775807)
    (h0 : w.cell? ⟨b, off, none⟩ = some (.int .u8 (x0 : Int))) (h1 : w.cell? ⟨b, off + 1, none⟩ = some (.int .u8 (x1 : Int)))  (g1 : ¬ x1 / 64 = 2) :
    Calls Tryd.prog 52 #[.slice (some ⟨b, off, none⟩) len cap] w (Tells w 0 0) := by
  have hd : ld x0 = 2 := by unfold ld; rw [if_neg (by omega), if_neg (by omega), if_pos (by omega)]
  have HS := hide (sizeByLead_any x0 w (by omega))
  rw [hd] at HS
  clear hd
  have e0 := an192 ⟨x0, by omega⟩
  have p1 := an63 ⟨x1, by omega⟩
  have q1 := a63 ⟨x1, by omega⟩
  simp only at e0 p1 q1
  have hcap : ¬ cap = 1 := by omega
  go_enter Tryd.func52, Tryd.ntmps52
  go_wp2_with fail
  refine (unhide HS).mono ?_
  rintro e w1 ⟨rfl, rfl⟩
  clear HS
  go_wp2_with fail
  go_quiet ((go_at_call 68; exact Calls.quiet_of_same (lead2 _)))
  go_wp2
  refine wp_loop_rounds 2 ?_
  rw [rounds_succ]
  go_wp2_with fail
  go_ret2
  exact ⟨rfl, nq, rfl⟩

set_option maxHeartbeats 800000 in
set_option maxRecDepth 100000 in
theorem first2_no (b off cap len x0 x1 : Nat) (w : World) (hx : 192 ≤ x0 ∧ x0 < 224) (hx1 : x1 < 256) (hl : 2 ≤ len) (hlc : len ≤ cap) (hmx : cap ≤ 9223372036854775807)
    (h0 : w.cell? ⟨b, off, none⟩ = some (.int .u8 (x0 : Int))) (h1 : w.cell? ⟨b, off + 1, none⟩ = some (.int .u8 (x1 : Int))) (g1 : x1 / 64 = 2) (hs : ush ((x0 : Int) % 64 * 64 + (x1 : Int) % 64) ≠ 2) :
    Calls Tryd.prog 52 #[.slice (some ⟨b, off, none⟩) len cap] w (Tells w 0 0) := by
  have hd : ld x0 = 2 := by unfold ld; rw [if_neg (by omega), if_neg (by omega), if_pos (by omega)]
  have HS := hide (sizeByLead_any x0 w (by omega))
  rw [hd] at HS
  clear hd
  have e0 := an192 ⟨x0, by omega⟩
  have p1 := an63 ⟨x1, by omega⟩
  have q1 := a63 ⟨x1, by omega⟩
  simp only at e0 p1 q1
  have hcap : ¬ cap = 1 := by omega
  go_enter Tryd.func52, Tryd.ntmps52
  go_wp2_with fail
  refine (unhide HS).mono ?_
  rintro e w1 ⟨rfl, rfl⟩
  clear HS
  go_wp2_with fail
  go_quiet ((go_at_call 68; exact Calls.quiet_of_same (lead2 _)))
  go_wp2
  refine wp_loop_rounds 2 ?_
  rw [rounds_succ]
  go_wp2_with fail
  rw [rounds_succ]
  go_wp2_with fail
  refine (uisCode_any _ _).mono ?_
  rintro e w2 ⟨rfl, rfl⟩
  generalize (x0 : Int) % 64 * 64 + (x1 : Int) % 64 = r at *
  by_cases hz : ush r = 0
  · have d : decide (ush r ≠ 0) = false := by simp [hz]
    rw [d]
    clear d hz hs
    go_wp2
    go_ret2
    exact ⟨rfl, nq, rfl⟩
  · have d : decide (ush r ≠ 0) = true := by simp [hz]
    rw [d]
    have s := sz_sh hz
    clear d
    go_wp2_with fail
    refine (size_any _ _).mono ?_
    rintro e w2 ⟨rfl, rfl⟩
    have hk : ¬ sz r = 2 := by omega
    clear hz hs s
    generalize sz r = k at *
    go_wp2
    go_ret2
    exact ⟨rfl, nq, rfl⟩

set_option maxHeartbeats 800000 in
set_option maxRecDepth 100000 in
theorem first2_ok (b off cap len x0 x1 : Nat) (w : World) (hx : 192 ≤ x0 ∧ x0 < 224) (hx1 : x1 < 256) (hl : 2 ≤ len) (hlc : len ≤ cap) (hmx : cap ≤ 9223372036854775807)
    (h0 : w.cell? ⟨b, off, none⟩ = some (.int .u8 (x0 : Int))) (h1 : w.cell? ⟨b, off + 1, none⟩ = some (.int .u8 (x1 : Int))) (g1 : x1 / 64 = 2) (r : Nat) (hr : (r : Int) = (x0 : Int) % 64 * 64 + (x1 : Int) % 64) (hs : ush (r : Int) = 2) :
    Calls Tryd.prog 52 #[.slice (some ⟨b, off, none⟩) len cap] w (Tells w r 2) := by
  have hd : ld x0 = 2 := by unfold ld; rw [if_neg (by omega), if_neg (by omega), if_pos (by omega)]
  have HS := hide (sizeByLead_any x0 w (by omega))
  rw [hd] at HS
  clear hd
  have e0 := an192 ⟨x0, by omega⟩
  have p1 := an63 ⟨x1, by omega⟩
  have q1 := a63 ⟨x1, by omega⟩
  simp only at e0 p1 q1
  have hcap : ¬ cap = 1 := by omega
  go_enter Tryd.func52, Tryd.ntmps52
  go_wp2_with fail
  refine (unhide HS).mono ?_
  rintro e w1 ⟨rfl, rfl⟩
  clear HS
  go_wp2_with fail
  go_quiet ((go_at_call 68; exact Calls.quiet_of_same (lead2 _)))
  go_wp2
  refine wp_loop_rounds 2 ?_
  rw [rounds_succ]
  go_wp2_with fail
  rw [rounds_succ]
  go_wp2_with fail
  refine (uisCode_any _ _).mono ?_
  rintro e w2 ⟨rfl, rfl⟩
  rw [← hr]
  clear hr
  have d : decide (ush (r : Int) ≠ 0) = true := by simp [hs]
  rw [d]
  have s := sz_sh (r := (r : Int)) (by omega)
  rw [hs] at s
  clear d
  go_wp2_with fail
  refine (size_any _ _).mono ?_
  rintro e w2 ⟨rfl, rfl⟩
  rw [s]
  clear s hs
  go_wp2
  go_ret2
  exact ⟨rfl, nq, rfl⟩

set_option maxHeartbeats 800000 in
set_option maxRecDepth 100000 in
theorem first3_bad1 (b off cap len x0 x1 x2 : Nat) (w : World) (hx : 224 ≤ x0 ∧ x0 < 240) (hx1 : x1 < 256) (hx2 : x2 < 256) (hl : 3 ≤ len) (hlc : len ≤ cap) (hmx : cap ≤ 9223372036854775807)
    (h0 : w.cell? ⟨b, off, none⟩ = some (.int .u8 (x0 : Int))) (h1 : w.cell? ⟨b, off + 1, none⟩ = some (.int .u8 (x1 : Int))) (h2 : w.cell? ⟨b, off + 2, none⟩ = some (.int .u8 (x2 : Int)))  (g1 : ¬ x1 / 64 = 2) :
    Calls Tryd.prog 52 #[.slice (some ⟨b, off, none⟩) len cap] w (Tells w 0 0) := by
  have hd : ld x0 = 3 := by unfold ld; rw [if_neg (by omega), if_neg (by omega), if_neg (by omega), if_pos (by omega)]
  have HS := hide (sizeByLead_any x0 w (by omega))
  rw [hd] at HS
  clear hd
  have e0 := an224 ⟨x0, by omega⟩
  have p1 := an63 ⟨x1, by omega⟩
  have q1 := a63 ⟨x1, by omega⟩
  simp only at e0 p1 q1
  clear h2
  have hcap : ¬ cap = 1 := by omega
  go_enter Tryd.func52, Tryd.ntmps52
  go_wp2_with fail
  refine (unhide HS).mono ?_
  rintro e w1 ⟨rfl, rfl⟩
  clear HS
  go_wp2_with fail
  go_quiet ((go_at_call 68; exact Calls.quiet_of_same (lead3 _)))
  go_wp2
  refine wp_loop_rounds 3 ?_
  rw [rounds_succ]
  go_wp2_with fail
  go_ret2
  exact ⟨rfl, nq, rfl⟩

set_option maxHeartbeats 800000 in
set_option maxRecDepth 100000 in
theorem first3_bad2 (b off cap len x0 x1 x2 : Nat) (w : World) (hx : 224 ≤ x0 ∧ x0 < 240) (hx1 : x1 < 256) (hx2 : x2 < 256) (hl : 3 ≤ len) (hlc : len ≤ cap) (hmx : cap ≤ 9223372036854775807)
    (h0 : w.cell? ⟨b, off, none⟩ = some (.int .u8 (x0 : Int))) (h1 : w.cell? ⟨b, off + 1, none⟩ = some (.int .u8 (x1 : Int))) (h2 : w.cell? ⟨b, off + 2, none⟩ = some (.int .u8 (x2 : Int))) (g1 : x1 / 64 = 2) (g2 : ¬ x2 / 64 = 2) :
    Calls Tryd.prog 52 #[.slice (some ⟨b, off, none⟩) len cap] w (Tells w 0 0) := by
  have hd : ld x0 = 3 := by unfold ld; rw [if_neg (by omega), if_neg (by omega), if_neg (by omega), if_pos (by omega)]
  have HS := hide (sizeByLead_any x0 w (by omega))
  rw [hd] at HS
  clear hd
  have e0 := an224 ⟨x0, by omega⟩
  have p1 := an63 ⟨x1, by omega⟩
  have q1 := a63 ⟨x1, by omega⟩
  have p2 := an63 ⟨x2, by omega⟩
  have q2 := a63 ⟨x2, by omega⟩
  simp only at e0 p1 q1 p2 q2
  have hcap : ¬ cap = 1 := by omega
  go_enter Tryd.func52, Tryd.ntmps52
  go_wp2_with fail
  refine (unhide HS).mono ?_
  rintro e w1 ⟨rfl, rfl⟩
  clear HS
  go_wp2_with fail
  go_quiet ((go_at_call 68; exact Calls.quiet_of_same (lead3 _)))
  go_wp2
  refine wp_loop_rounds 3 ?_
  rw [rounds_succ]
  go_wp2_with fail
  rw [rounds_succ]
  go_wp2_with fail
  go_ret2
  exact ⟨rfl, nq, rfl⟩

set_option maxHeartbeats 800000 in
set_option maxRecDepth 100000 in
theorem first3_no (b off cap len x0 x1 x2 : Nat) (w : World) (hx : 224 ≤ x0 ∧ x0 < 240) (hx1 : x1 < 256) (hx2 : x2 < 256) (hl : 3 ≤ len) (hlc : len ≤ cap) (hmx : cap ≤ 9223372036854775807)
    (h0 : w.cell? ⟨b, off, none⟩ = some (.int .u8 (x0 : Int))) (h1 : w.cell? ⟨b, off + 1, none⟩ = some (.int .u8 (x1 : Int))) (h2 : w.cell? ⟨b, off + 2, none⟩ = some (.int .u8 (x2 : Int))) (g1 : x1 / 64 = 2) (g2 : x2 / 64 = 2) (hs : ush (((x0 : Int) % 32 * 64 + (x1 : Int) % 64) * 64 + (x2 : Int) % 64) ≠ 3) :
    Calls Tryd.prog 52 #[.slice (some ⟨b, off, none⟩) len cap] w (Tells w 0 0) := by
  have hd : ld x0 = 3 := by unfold ld; rw [if_neg (by omega), if_neg (by omega), if_neg (by omega), if_pos (by omega)]
  have HS := hide (sizeByLead_any x0 w (by omega))
  rw [hd] at HS
  clear hd
  have e0 := an224 ⟨x0, by omega⟩
  have p1 := an63 ⟨x1, by omega⟩
  have q1 := a63 ⟨x1, by omega⟩
  have p2 := an63 ⟨x2, by omega⟩
  have q2 := a63 ⟨x2, by omega⟩
  simp only at e0 p1 q1 p2 q2
  have hcap : ¬ cap = 1 := by omega
  go_enter Tryd.func52, Tryd.ntmps52
  go_wp2_with fail
  refine (unhide HS).mono ?_
  rintro e w1 ⟨rfl, rfl⟩
  clear HS
  go_wp2_with fail
  go_quiet ((go_at_call 68; exact Calls.quiet_of_same (lead3 _)))
  go_wp2
  refine wp_loop_rounds 3 ?_
  rw [rounds_succ]
  go_wp2_with fail
  rw [rounds_succ]
  go_wp2_with fail
  rw [rounds_succ]
  go_wp2_with fail
  refine (uisCode_any _ _).mono ?_
  rintro e w2 ⟨rfl, rfl⟩
  generalize ((x0 : Int) % 32 * 64 + (x1 : Int) % 64) * 64 + (x2 : Int) % 64 = r at *
  by_cases hz : ush r = 0
  · have d : decide (ush r ≠ 0) = false := by simp [hz]
    rw [d]
    clear d hz hs
    go_wp2
    go_ret2
    exact ⟨rfl, nq, rfl⟩
  · have d : decide (ush r ≠ 0) = true := by simp [hz]
    rw [d]
    have s := sz_sh hz
    clear d
    go_wp2_with fail
    refine (size_any _ _).mono ?_
    rintro e w2 ⟨rfl, rfl⟩
    have hk : ¬ sz r = 3 := by omega
    clear hz hs s
    generalize sz r = k at *
    go_wp2
    go_ret2
    exact ⟨rfl, nq, rfl⟩

set_option maxHeartbeats 800000 in
set_option maxRecDepth 100000 in
theorem first3_ok (b off cap len x0 x1 x2 : Nat) (w : World) (hx : 224 ≤ x0 ∧ x0 < 240) (hx1 : x1 < 256) (hx2 : x2 < 256) (hl : 3 ≤ len) (hlc : len ≤ cap) (hmx : cap ≤ 9223372036854775807)
    (h0 : w.cell? ⟨b, off, none⟩ = some (.int .u8 (x0 : Int))) (h1 : w.cell? ⟨b, off + 1, none⟩ = some (.int .u8 (x1 : Int))) (h2 : w.cell? ⟨b, off + 2, none⟩ = some (.int .u8 (x2 : Int))) (g1 : x1 / 64 = 2) (g2 : x2 / 64 = 2) (r : Nat) (hr : (r : Int) = ((x0 : Int) % 32 * 64 + (x1 : Int) % 64) * 64 + (x2 : Int) % 64) (hs : ush (r : Int) = 3) :
    Calls Tryd.prog 52 #[.slice (some ⟨b, off, none⟩) len cap] w (Tells w r 3) := by
  have hd : ld x0 = 3 := by unfold ld; rw [if_neg (by omega), if_neg (by omega), if_neg (by omega), if_pos (by omega)]
  have HS := hide (sizeByLead_any x0 w (by omega))
  rw [hd] at HS
  clear hd
  have e0 := an224 ⟨x0, by omega⟩
  have p1 := an63 ⟨x1, by omega⟩
  have q1 := a63 ⟨x1, by omega⟩
  have p2 := an63 ⟨x2, by omega⟩
  have q2 := a63 ⟨x2, by omega⟩
  simp only at e0 p1 q1 p2 q2
  have hcap : ¬ cap = 1 := by omega
  go_enter Tryd.func52, Tryd.ntmps52
  go_wp2_with fail
  refine (unhide HS).mono ?_
  rintro e w1 ⟨rfl, rfl⟩
  clear HS
  go_wp2_with fail
  go_quiet ((go_at_call 68; exact Calls.quiet_of_same (lead3 _)))
  go_wp2
  refine wp_loop_rounds 3 ?_
  rw [rounds_succ]
  go_wp2_with fail
  rw [rounds_succ]
  go_wp2_with fail
  rw [rounds_succ]
  go_wp2_with fail
  refine (uisCode_any _ _).mono ?_
  rintro e w2 ⟨rfl, rfl⟩
  rw [← hr]
  clear hr
  have d : decide (ush (r : Int) ≠ 0) = true := by simp [hs]
  rw [d]
  have s := sz_sh (r := (r : Int)) (by omega)
  rw [hs] at s
  clear d
  go_wp2_with fail
  refine (size_any _ _).mono ?_
  rintro e w2 ⟨rfl, rfl⟩
  rw [s]
  clear s hs
  go_wp2
  go_ret2
  exact ⟨rfl, nq, rfl⟩

set_option maxHeartbeats 800000 in
set_option maxRecDepth 100000 in
theorem first4_bad1 (b off cap len x0 x1 x2 x3 : Nat) (w : World) (hx : 240 ≤ x0 ∧ x0 < 248) (hx1 : x1 < 256) (hx2 : x2 < 256) (hx3 : x3 < 256) (hl : 4 ≤ len) (hlc : len ≤ cap) (hmx : cap ≤ 9223372036854775807)
    (h0 : w.cell? ⟨b, off, none⟩ = some (.int .u8 (x0 : Int))) (h1 : w.cell? ⟨b, off + 1, none⟩ = some (.int .u8 (x1 : Int))) (h2 : w.cell? ⟨b, off + 2, none⟩ = some (.int .u8 (x2 : Int))) (h3 : w.cell? ⟨b, off + 3, none⟩ = some (.int .u8 (x3 : Int)))  (g1 : ¬ x1 / 64 = 2) :
    Calls Tryd.prog 52 #[.slice (some ⟨b, off, none⟩) len cap] w (Tells w 0 0) := by
  have hd : ld x0 = 4 := by unfold ld; rw [if_neg (by omega), if_neg (by omega), if_neg (by omega), if_neg (by omega), if_pos (by omega)]
  have HS := hide (sizeByLead_any x0 w (by omega))
  rw [hd] at HS
  clear hd
  have e0 := an240 ⟨x0, by omega⟩
  have p1 := an63 ⟨x1, by omega⟩
  have q1 := a63 ⟨x1, by omega⟩
  simp only at e0 p1 q1
  clear h2
  clear h3
  have hcap : ¬ cap = 1 := by omega
  go_enter Tryd.func52, Tryd.ntmps52
  go_wp2_with fail
  refine (unhide HS).mono ?_
  rintro e w1 ⟨rfl, rfl⟩
  clear HS
  go_wp2_with fail
  go_quiet ((go_at_call 68; exact Calls.quiet_of_same (lead4 _)))
  go_wp2
  refine wp_loop_rounds 4 ?_
  rw [rounds_succ]
  go_wp2_with fail
  go_ret2
  exact ⟨rfl, nq, rfl⟩

set_option maxHeartbeats 800000 in
set_option maxRecDepth 100000 in
theorem first4_bad2 (b off cap len x0 x1 x2 x3 : Nat) (w : World) (hx : 240 ≤ x0 ∧ x0 < 248) (hx1 : x1 < 256) (hx2 : x2 < 256) (hx3 : x3 < 256) (hl : 4 ≤ len) (hlc : len ≤ cap) (hmx : cap ≤ 9223372036854775807)
    (h0 : w.cell? ⟨b, off, none⟩ = some (.int .u8 (x0 : Int))) (h1 : w.cell? ⟨b, off + 1, none⟩ = some (.int .u8 (x1 : Int))) (h2 : w.cell? ⟨b, off + 2, none⟩ = some (.int .u8 (x2 : Int))) (h3 : w.cell? ⟨b, off + 3, none⟩ = some (.int .u8 (x3 : Int))) (g1 : x1 / 64 = 2) (g2 : ¬ x2 / 64 = 2) :
    Calls Tryd.prog 52 #[.slice (some ⟨b, off, none⟩) len cap] w (Tells w 0 0) := by
  have hd : ld x0 = 4 := by unfold ld; rw [if_neg (by omega), if_neg (by omega), if_neg (by omega), if_neg (by omega), if_pos (by omega)]
  have HS := hide (sizeByLead_any x0 w (by omega))
  rw [hd] at HS
  clear hd
  have e0 := an240 ⟨x0, by omega⟩
  have p1 := an63 ⟨x1, by omega⟩
  have q1 := a63 ⟨x1, by omega⟩
  have p2 := an63 ⟨x2, by omega⟩
  have q2 := a63 ⟨x2, by omega⟩
  simp only at e0 p1 q1 p2 q2
  clear h3
  have hcap : ¬ cap = 1 := by omega
  go_enter Tryd.func52, Tryd.ntmps52
  go_wp2_with fail
  refine (unhide HS).mono ?_
  rintro e w1 ⟨rfl, rfl⟩
  clear HS
  go_wp2_with fail
  go_quiet ((go_at_call 68; exact Calls.quiet_of_same (lead4 _)))
  go_wp2
  refine wp_loop_rounds 4 ?_
  rw [rounds_succ]
  go_wp2_with fail
  rw [rounds_succ]
  go_wp2_with fail
  go_ret2
  exact ⟨rfl, nq, rfl⟩

set_option maxHeartbeats 800000 in
set_option maxRecDepth 100000 in
theorem first4_bad3 (b off cap len x0 x1 x2 x3 : Nat) (w : World) (hx : 240 ≤ x0 ∧ x0 < 248) (hx1 : x1 < 256) (hx2 : x2 < 256) (hx3 : x3 < 256) (hl : 4 ≤ len) (hlc : len ≤ cap) (hmx : cap ≤ 9223372036854775807)
    (h0 : w.cell? ⟨b, off, none⟩ = some (.int .u8 (x0 : Int))) (h1 : w.cell? ⟨b, off + 1, none⟩ = some (.int .u8 (x1 : Int))) (h2 : w.cell? ⟨b, off + 2, none⟩ = some (.int .u8 (x2 : Int))) (h3 : w.cell? ⟨b, off + 3, none⟩ = some (.int .u8 (x3 : Int))) (g1 : x1 / 64 = 2) (g2 : x2 / 64 = 2) (g3 : ¬ x3 / 64 = 2) :
    Calls Tryd.prog 52 #[.slice (some ⟨b, off, none⟩) len cap] w (Tells w 0 0) := by
  have hd : ld x0 = 4 := by unfold ld; rw [if_neg (by omega), if_neg (by omega), if_neg (by omega), if_neg (by omega), if_pos (by omega)]
  have HS := hide (sizeByLead_any x0 w (by omega))
  rw [hd] at HS
  clear hd
  have e0 := an240 ⟨x0, by omega⟩
  have p1 := an63 ⟨x1, by omega⟩
  have q1 := a63 ⟨x1, by omega⟩
  have p2 := an63 ⟨x2, by omega⟩
  have q2 := a63 ⟨x2, by omega⟩
  have p3 := an63 ⟨x3, by omega⟩
  have q3 := a63 ⟨x3, by omega⟩
  simp only at e0 p1 q1 p2 q2 p3 q3
  have hcap : ¬ cap = 1 := by omega
  go_enter Tryd.func52, Tryd.ntmps52
  go_wp2_with fail
  refine (unhide HS).mono ?_
  rintro e w1 ⟨rfl, rfl⟩
  clear HS
  go_wp2_with fail
  go_quiet ((go_at_call 68; exact Calls.quiet_of_same (lead4 _)))
  go_wp2
  refine wp_loop_rounds 4 ?_
  rw [rounds_succ]
  go_wp2_with fail
  rw [rounds_succ]
  go_wp2_with fail
  rw [rounds_succ]
  go_wp2_with fail
  go_ret2
  exact ⟨rfl, nq, rfl⟩

set_option maxHeartbeats 800000 in
set_option maxRecDepth 100000 in
theorem first4_no (b off cap len x0 x1 x2 x3 : Nat) (w : World) (hx : 240 ≤ x0 ∧ x0 < 248) (hx1 : x1 < 256) (hx2 : x2 < 256) (hx3 : x3 < 256) (hl : 4 ≤ len) (hlc : len ≤ cap) (hmx : cap ≤ 9223372036854775807)
    (h0 : w.cell? ⟨b, off, none⟩ = some (.int .u8 (x0 : Int))) (h1 : w.cell? ⟨b, off + 1, none⟩ = some (.int .u8 (x1 : Int))) (h2 : w.cell? ⟨b, off + 2, none⟩ = some (.int .u8 (x2 : Int))) (h3 : w.cell? ⟨b, off + 3, none⟩ = some (.int .u8 (x3 : Int))) (g1 : x1 / 64 = 2) (g2 : x2 / 64 = 2) (g3 : x3 / 64 = 2) (hs : ush ((((x0 : Int) % 16 * 64 + (x1 : Int) % 64) * 64 + (x2 : Int) % 64) * 64 + (x3 : Int) % 64) ≠ 4) :
    Calls Tryd.prog 52 #[.slice (some ⟨b, off, none⟩) len cap] w (Tells w 0 0) := by
  have hd : ld x0 = 4 := by unfold ld; rw [if_neg (by omega), if_neg (by omega), if_neg (by omega), if_neg (by omega), if_pos (by omega)]
  have HS := hide (sizeByLead_any x0 w (by omega))
  rw [hd] at HS
  clear hd
  have e0 := an240 ⟨x0, by omega⟩
  have p1 := an63 ⟨x1, by omega⟩
  have q1 := a63 ⟨x1, by omega⟩
  have p2 := an63 ⟨x2, by omega⟩
  have q2 := a63 ⟨x2, by omega⟩
  have p3 := an63 ⟨x3, by omega⟩
  have q3 := a63 ⟨x3, by omega⟩
  simp only at e0 p1 q1 p2 q2 p3 q3
  have hcap : ¬ cap = 1 := by omega
  go_enter Tryd.func52, Tryd.ntmps52
  go_wp2_with fail
  refine (unhide HS).mono ?_
  rintro e w1 ⟨rfl, rfl⟩
  clear HS
  go_wp2_with fail
  go_quiet ((go_at_call 68; exact Calls.quiet_of_same (lead4 _)))
  go_wp2
  refine wp_loop_rounds 4 ?_
  rw [rounds_succ]
  go_wp2_with fail
  rw [rounds_succ]
  go_wp2_with fail
  rw [rounds_succ]
  go_wp2_with fail
  rw [rounds_succ]
  go_wp2_with fail
  refine (uisCode_any _ _).mono ?_
  rintro e w2 ⟨rfl, rfl⟩
  generalize (((x0 : Int) % 16 * 64 + (x1 : Int) % 64) * 64 + (x2 : Int) % 64) * 64 + (x3 : Int) % 64 = r at *
  by_cases hz : ush r = 0
  · have d : decide (ush r ≠ 0) = false := by simp [hz]
    rw [d]
    clear d hz hs
    go_wp2
    go_ret2
    exact ⟨rfl, nq, rfl⟩
  · have d : decide (ush r ≠ 0) = true := by simp [hz]
    rw [d]
    have s := sz_sh hz
    clear d
    go_wp2_with fail
    refine (size_any _ _).mono ?_
    rintro e w2 ⟨rfl, rfl⟩
    have hk : ¬ sz r = 4 := by omega
    clear hz hs s
    generalize sz r = k at *
    go_wp2
    go_ret2
    exact ⟨rfl, nq, rfl⟩

set_option maxHeartbeats 800000 in
set_option maxRecDepth 100000 in
theorem first4_ok (b off cap len x0 x1 x2 x3 : Nat) (w : World) (hx : 240 ≤ x0 ∧ x0 < 248) (hx1 : x1 < 256) (hx2 : x2 < 256) (hx3 : x3 < 256) (hl : 4 ≤ len) (hlc : len ≤ cap) (hmx : cap ≤ 9223372036854775807)
    (h0 : w.cell? ⟨b, off, none⟩ = some (.int .u8 (x0 : Int))) (h1 : w.cell? ⟨b, off + 1, none⟩ = some (.int .u8 (x1 : Int))) (h2 : w.cell? ⟨b, off + 2, none⟩ = some (.int .u8 (x2 : Int))) (h3 : w.cell? ⟨b, off + 3, none⟩ = some (.int .u8 (x3 : Int))) (g1 : x1 / 64 = 2) (g2 : x2 / 64 = 2) (g3 : x3 / 64 = 2) (r : Nat) (hr : (r : Int) = (((x0 : Int) % 16 * 64 + (x1 : Int) % 64) * 64 + (x2 : Int) % 64) * 64 + (x3 : Int) % 64) (hs : ush (r : Int) = 4) :
    Calls Tryd.prog 52 #[.slice (some ⟨b, off, none⟩) len cap] w (Tells w r 4) := by
  have hd : ld x0 = 4 := by unfold ld; rw [if_neg (by omega), if_neg (by omega), if_neg (by omega), if_neg (by omega), if_pos (by omega)]
  have HS := hide (sizeByLead_any x0 w (by omega))
  rw [hd] at HS
  clear hd
  have e0 := an240 ⟨x0, by omega⟩
  have p1 := an63 ⟨x1, by omega⟩
  have q1 := a63 ⟨x1, by omega⟩
  have p2 := an63 ⟨x2, by omega⟩
  have q2 := a63 ⟨x2, by omega⟩
  have p3 := an63 ⟨x3, by omega⟩
  have q3 := a63 ⟨x3, by omega⟩
  simp only at e0 p1 q1 p2 q2 p3 q3
  have hcap : ¬ cap = 1 := by omega
  go_enter Tryd.func52, Tryd.ntmps52
  go_wp2_with fail
  refine (unhide HS).mono ?_
  rintro e w1 ⟨rfl, rfl⟩
  clear HS
  go_wp2_with fail
  go_quiet ((go_at_call 68; exact Calls.quiet_of_same (lead4 _)))
  go_wp2
  refine wp_loop_rounds 4 ?_
  rw [rounds_succ]
  go_wp2_with fail
  rw [rounds_succ]
  go_wp2_with fail
  rw [rounds_succ]
  go_wp2_with fail
  rw [rounds_succ]
  go_wp2_with fail
  refine (uisCode_any _ _).mono ?_
  rintro e w2 ⟨rfl, rfl⟩
  rw [← hr]
  clear hr
  have d : decide (ush (r : Int) ≠ 0) = true := by simp [hs]
  rw [d]
  have s := sz_sh (r := (r : Int)) (by omega)
  rw [hs] at s
  clear d
  go_wp2_with fail
  refine (size_any _ _).mono ?_
  rintro e w2 ⟨rfl, rfl⟩
  rw [s]
  clear s hs
  go_wp2
  go_ret2
  exact ⟨rfl, nq, rfl⟩

end Go.Proofs.YtilmkmplaehcaaaDoor
