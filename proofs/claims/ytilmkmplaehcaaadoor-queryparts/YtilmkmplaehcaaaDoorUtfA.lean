/-
  What the document's own 'at' tells.
-/
import Derived.Test.YtilmkmplaehcaaaDoorOp3
namespace Go.Proofs.YtilmkmplaehcaaaDoor
set_option linter.unusedVariables false
open Go.RowKit

/-- What stands at the front, or U+FFFD and nought. -/
def atR (bs : List UInt8) : Nat := match at1 bs with | some (r, _) => r | none => 65533
def atN (bs : List UInt8) : Nat := match at1 bs with | some (_, n) => n | none => 0

theorem at_yes {bs : List UInt8} {k r : Nat} (hr : r = cand bs k) (hkl : k ≤ bs.length) (hs : ush (r : Int) = k) (ho : one (r : Int) = bs.take k) : atR bs = r ∧ atN bs = k := by
  have : okAt bs k = true := by
    unfold okAt
    rw [← hr]
    simp [hkl, hs, ho]
  have e := at1_some this
  unfold atR atN
  rw [e, hr]
  exact ⟨rfl, rfl⟩

theorem no_sh {bs : List UInt8} {k r : Nat} (hr : r = cand bs k) (hs : ¬ ush (r : Int) = k) : okAt bs k = false := by
  cases h : okAt bs k with
  | false => rfl
  | true => exact absurd (by rw [hr]; exact (okAt_spec h).2.1) hs

theorem no_one {bs : List UInt8} {k r : Nat} (hr : r = cand bs k) (ho : ¬ one (r : Int) = bs.take k) : okAt bs k = false := by
  cases h : okAt bs k with
  | false => rfl
  | true => exact absurd (by rw [hr]; exact (okAt_spec h).2.2) ho

theorem no_more {bs : List UInt8} {k : Nat} (hno : ∀ m, m < k → okAt bs m = false) (h : okAt bs k = false) : ∀ m, m < k + 1 → okAt bs m = false := by
  intro m hm
  rcases Nat.lt_or_ge m k with h1 | h1
  · exact hno m h1
  · have : m = k := by omega
    rw [this]; exact h

theorem at_no {bs : List UInt8} {k : Nat} (hno : ∀ m, m < k → okAt bs m = false) (hk : ¬ (k ≤ 4 ∧ k ≤ bs.length)) : atR bs = 65533 ∧ atN bs = 0 := by
  have : at1 bs = none := by
    refine at1_none fun m => ?_
    rcases Nat.lt_or_ge m k with h1 | h1
    · exact hno m h1
    · cases h : okAt bs m with
      | false => rfl
      | true =>
        have h4 := okAt_le bs m h
        have hl := (okAt_spec h).1
        omega
  unfold atR atN
  rw [this]
  exact ⟨rfl, rfl⟩

theorem cell_at {w wr : World} {b off : Nat} {bs : List UInt8} (hx : Ext w wr) (hlt : b < w.heap.size) (hc : ∀ i, i < bs.length → w.cell? ⟨b, off + i, none⟩ = some (B (bs.getD i 0))) (i : Nat) (hi : i < bs.length) :
    ∃ y : Nat, y < 256 ∧ y = (bs.getD i 0).toNat ∧ wr.cell? ⟨b, off + i, none⟩ = some (.int .u8 (y : Int)) :=
  ⟨(bs.getD i 0).toNat, (bs.getD i 0).toNat_lt, rfl, (hx.cell (p := ⟨b, off + i, none⟩) hlt).trans (hc i hi)⟩

theorem i31 : ∀ y : Fin 256, bits .and .i32 (y.val : Int) 31 = ((y.val % 32 : Nat) : Int) := by decide +kernel
theorem i15 : ∀ y : Fin 256, bits .and .i32 (y.val : Int) 15 = ((y.val % 16 : Nat) : Int) := by decide +kernel
theorem i7 : ∀ y : Fin 256, bits .and .i32 (y.val : Int) 7 = ((y.val % 8 : Nat) : Int) := by decide +kernel

set_option maxHeartbeats 8000000 in
set_option maxRecDepth 100000 in
theorem at_some (b off cap : Nat) (bs : List UInt8) (w : World) (hlc : bs.length ≤ cap) (hmx : cap ≤ 9223372036854775807) (hpos : 0 < bs.length) (hm : bs.length ≤ 1000000)
    (hlt : b < w.heap.size) (hc : ∀ i, i < bs.length → w.cell? ⟨b, off + i, none⟩ = some (B (bs.getD i 0))) :
    Calls Tryd.prog 33 #[.slice (some ⟨b, off, none⟩) bs.length cap] w fun e w' => e = .returned (.tuple #[.int .i32 (atR bs : Int), .int .i64 (atN bs : Int)]) ∧ Ext w w' := by
  have hRd : RdV w (some ⟨b, off, none⟩) cap (bs.map B) := ⟨by simpa using hlc, hmx, fun e => (by cases e), fun i hi => ⟨b, off, rfl, by rw [hc i (by simpa using hi), getB bs i (by simpa using hi)]⟩⟩
  go_enter Tryd.func33, Tryd.ntmps33
  go_wp2_with fail
  go_loopw [4] (fun i wr => ∃ k : Nat, 1 ≤ k ∧ k ≤ 5 ∧ i = .int .i64 k ∧ (∀ m, m < k → okAt bs m = false) ∧ Ext w wr) (fun i _ => 5 - (intOf i).toNat)
  case atStart => exact ⟨1, Nat.le_refl _, by omega, rfl, fun m hm => by
    have : m = 0 := by omega
    subst this
    cases h : okAt bs 0 with
    | false => rfl
    | true => exact absurd rfl (okAt_zero bs 0 h), Ext.refl _⟩
  case round =>
    obtain ⟨k, hk1, hk5, rfl, hno, hx⟩ := hrel
    by_cases hk : k ≤ 4 ∧ k ≤ bs.length
    · obtain ⟨hk4, hkl⟩ := hk
      have ck : k = 1 ∨ k = 2 ∨ k = 3 ∨ k = 4 := by omega
      rcases ck with rfl | rfl | rfl | rfl
      · obtain ⟨y0, hy0, ey0, c0⟩ := cell_at hx hlt hc 0 (by omega)
        simp only [Nat.add_zero] at c0
        obtain ⟨r, hr⟩ : ∃ r : Nat, (r : Int) = (y0 : Int) := ⟨((y0 : Int)).toNat, by omega⟩
        have HR : Hid (r = cand bs 1) := by
          show r = _
          simp only [cand]
          rw [← ey0]
          omega
        have hr9 : r < 2097152 := by omega
        clear hc ey0
        go_wp2_with fail
        have hxz : Ext w wr := hx
        generalize wr = wz at *
        refine wp_loop_rounds 1 ?_
        rw [rounds_succ]
        go_wp2_with fail
        rw [← hr]
        clear hr
        by_cases hsh : ush (r : Int) = 1
        · have hs := fun w => ushortest_any (r : Int) w
          rw [hsh] at hs
          have HS := hide hs
          clear hs
          have cv0 := oconv_str wz.drew (some ⟨b, off, none⟩) 1 cap (bs.take 1) (by simp; omega) (by rw [List.map_take]; exact ((hRd.take 1).below hxz).below (Ext.drew _))
          obtain ⟨L2, hL2⟩ : ∃ L2, L2 = bs.take 1 := ⟨_, rfl⟩
          rw [← hL2] at cv0
          have HL2 := hide hL2
          have R2 : ∀ w', Ext w w' → RdV w' (some ⟨b, off, none⟩) cap (L2.map B) := fun w' h' => by rw [hL2, List.map_take]; exact (hRd.take 1).below h'
          have hL2l : L2.length = 1 := by rw [hL2]; simp; omega
          clear hL2
          have HX := hide hxz
          have HRR := hide R2
          have HNO := hide hno
          clear R2 hno
          go_region_with (first | (go_at_call 43; refine (unhide HS _).mono ?_; rintro e w' ⟨rfl, rfl⟩) | (go_at_call 32; refine (one_any _ _ (by omega)).mono ?_; rintro e w1 ⟨ao, c, rfl, R1, hx1⟩; have cv1 := oconv_str w1 ao (one r).length c (one r) rfl R1; have cv2 := oconv_str w1 (some ⟨b, off, none⟩) 1 cap L2 hL2l (unhide HRR w1 (((unhide HX).trans (Ext.drew _)).trans hx1))))
          all_goals
            cases dq : (one (r : Int) == L2) with
            | true =>
              have heq : one (r : Int) = L2 := by simpa using dq
              have hy := at_yes (unhide HR) hkl hsh (by rw [heq, unhide HL2])
              go_wp2
              go_ret2
              rw [hy.1, hy.2]
              exact ⟨rfl, ((unhide HX).trans (Ext.drew _)).trans hx1⟩
            | false =>
              have heq : ¬ one (r : Int) = L2 := by intro h; rw [h] at dq; simp at dq
              have HEQ := hide heq
              clear heq
              go_wp2
              go_roundw
              case rel => exact ⟨1 + 1, by omega, by omega, rfl, no_more (unhide HNO) (no_one (unhide HR) (by intro h; exact (unhide HEQ) (by rw [h, unhide HL2]))), ((unhide HX).trans (Ext.drew _)).trans hx1⟩
              case measure => simp [intOf]
        · have hs := fun w => ushortest_any (r : Int) w
          have HSH : Hid (¬ ush (r : Int) = 1) := hsh
          generalize hgs : ush (r : Int) = s at hs hsh
          clear hgs
          have ds : ((s : Int) == 1) = false := by simp; omega
          have HS := hide hs
          have HX := hide hxz
          have HNO := hide hno
          clear hs hno hsh
          go_quiet ((go_at_call 43; exact Calls.quiet_of_same (unhide HS _)))
          go_wp2
          go_roundw
          case rel => exact ⟨1 + 1, by omega, by omega, rfl, no_more (unhide HNO) (no_sh (unhide HR) (unhide HSH)), (unhide HX).trans (Ext.drewN _ _)⟩
          case measure => simp [intOf]
      · obtain ⟨y0, hy0, ey0, c0⟩ := cell_at hx hlt hc 0 (by omega)
        simp only [Nat.add_zero] at c0
        obtain ⟨y1, hy1, ey1, c1⟩ := cell_at hx hlt hc 1 (by omega)
        obtain ⟨r, hr⟩ : ∃ r : Nat, (r : Int) = (y0 : Int) % 32 * 64 + (y1 : Int) % 64 := ⟨((y0 : Int) % 32 * 64 + (y1 : Int) % 64).toNat, by omega⟩
        have HR : Hid (r = cand bs 2) := by
          show r = _
          simp only [cand]
          rw [← ey0, ← ey1]
          omega
        have hr9 : r < 2097152 := by omega
        clear hc ey0 ey1
        have m0 := i31 ⟨y0, hy0⟩
        simp only at m0
        have n1 := a63 ⟨y1, hy1⟩
        simp only at n1
        go_wp2_with fail
        go_quiet (fail)
        go_wp2_with fail
        have hxz : Ext w (wr.drewN nq) := hx.trans (Ext.drewN _ _)
        have c1z : (wr.drewN nq).cell? ⟨b, off + 1, none⟩ = some (.int .u8 (y1 : Int)) := c1
        generalize wr.drewN nq = wz at *
        clear c0 c1
        refine wp_loop_rounds 2 ?_
        rw [rounds_succ]
        go_wp2_with fail
        rw [rounds_succ]
        go_wp2_with fail
        rw [← hr]
        clear hr
        by_cases hsh : ush (r : Int) = 2
        · have hs := fun w => ushortest_any (r : Int) w
          rw [hsh] at hs
          have HS := hide hs
          clear hs
          have cv0 := oconv_str wz.drew (some ⟨b, off, none⟩) 2 cap (bs.take 2) (by simp; omega) (by rw [List.map_take]; exact ((hRd.take 2).below hxz).below (Ext.drew _))
          obtain ⟨L2, hL2⟩ : ∃ L2, L2 = bs.take 2 := ⟨_, rfl⟩
          rw [← hL2] at cv0
          have HL2 := hide hL2
          have R2 : ∀ w', Ext w w' → RdV w' (some ⟨b, off, none⟩) cap (L2.map B) := fun w' h' => by rw [hL2, List.map_take]; exact (hRd.take 2).below h'
          have hL2l : L2.length = 2 := by rw [hL2]; simp; omega
          clear hL2
          have HX := hide hxz
          have HRR := hide R2
          have HNO := hide hno
          clear R2 hno
          go_region_with (first | (go_at_call 43; refine (unhide HS _).mono ?_; rintro e w' ⟨rfl, rfl⟩) | (go_at_call 32; refine (one_any _ _ (by omega)).mono ?_; rintro e w1 ⟨ao, c, rfl, R1, hx1⟩; have cv1 := oconv_str w1 ao (one r).length c (one r) rfl R1; have cv2 := oconv_str w1 (some ⟨b, off, none⟩) 2 cap L2 hL2l (unhide HRR w1 (((unhide HX).trans (Ext.drew _)).trans hx1))))
          all_goals
            cases dq : (one (r : Int) == L2) with
            | true =>
              have heq : one (r : Int) = L2 := by simpa using dq
              have hy := at_yes (unhide HR) hkl hsh (by rw [heq, unhide HL2])
              go_wp2
              go_ret2
              rw [hy.1, hy.2]
              exact ⟨rfl, ((unhide HX).trans (Ext.drew _)).trans hx1⟩
            | false =>
              have heq : ¬ one (r : Int) = L2 := by intro h; rw [h] at dq; simp at dq
              have HEQ := hide heq
              clear heq
              go_wp2
              go_roundw
              case rel => exact ⟨2 + 1, by omega, by omega, rfl, no_more (unhide HNO) (no_one (unhide HR) (by intro h; exact (unhide HEQ) (by rw [h, unhide HL2]))), ((unhide HX).trans (Ext.drew _)).trans hx1⟩
              case measure => simp [intOf]
        · have hs := fun w => ushortest_any (r : Int) w
          have HSH : Hid (¬ ush (r : Int) = 2) := hsh
          generalize hgs : ush (r : Int) = s at hs hsh
          clear hgs
          have ds : ((s : Int) == 2) = false := by simp; omega
          have HS := hide hs
          have HX := hide hxz
          have HNO := hide hno
          clear hs hno hsh
          go_quiet ((go_at_call 43; exact Calls.quiet_of_same (unhide HS _)))
          go_wp2
          go_roundw
          case rel => exact ⟨2 + 1, by omega, by omega, rfl, no_more (unhide HNO) (no_sh (unhide HR) (unhide HSH)), (unhide HX).trans (Ext.drewN _ _)⟩
          case measure => simp [intOf]
      · obtain ⟨y0, hy0, ey0, c0⟩ := cell_at hx hlt hc 0 (by omega)
        simp only [Nat.add_zero] at c0
        obtain ⟨y1, hy1, ey1, c1⟩ := cell_at hx hlt hc 1 (by omega)
        obtain ⟨y2, hy2, ey2, c2⟩ := cell_at hx hlt hc 2 (by omega)
        obtain ⟨r, hr⟩ : ∃ r : Nat, (r : Int) = ((y0 : Int) % 16 * 64 + (y1 : Int) % 64) * 64 + (y2 : Int) % 64 := ⟨(((y0 : Int) % 16 * 64 + (y1 : Int) % 64) * 64 + (y2 : Int) % 64).toNat, by omega⟩
        have HR : Hid (r = cand bs 3) := by
          show r = _
          simp only [cand]
          rw [← ey0, ← ey1, ← ey2]
          omega
        have hr9 : r < 2097152 := by omega
        clear hc ey0 ey1 ey2
        have m0 := i15 ⟨y0, hy0⟩
        simp only at m0
        have n1 := a63 ⟨y1, hy1⟩
        simp only at n1
        have n2 := a63 ⟨y2, hy2⟩
        simp only at n2
        go_wp2_with fail
        go_quiet (fail)
        go_wp2_with fail
        have hxz : Ext w (wr.drewN nq) := hx.trans (Ext.drewN _ _)
        have c1z : (wr.drewN nq).cell? ⟨b, off + 1, none⟩ = some (.int .u8 (y1 : Int)) := c1
        have c2z : (wr.drewN nq).cell? ⟨b, off + 2, none⟩ = some (.int .u8 (y2 : Int)) := c2
        generalize wr.drewN nq = wz at *
        clear c0 c1 c2
        refine wp_loop_rounds 3 ?_
        rw [rounds_succ]
        go_wp2_with fail
        rw [rounds_succ]
        go_wp2_with fail
        rw [rounds_succ]
        go_wp2_with fail
        rw [← hr]
        clear hr
        by_cases hsh : ush (r : Int) = 3
        · have hs := fun w => ushortest_any (r : Int) w
          rw [hsh] at hs
          have HS := hide hs
          clear hs
          have cv0 := oconv_str wz.drew (some ⟨b, off, none⟩) 3 cap (bs.take 3) (by simp; omega) (by rw [List.map_take]; exact ((hRd.take 3).below hxz).below (Ext.drew _))
          obtain ⟨L2, hL2⟩ : ∃ L2, L2 = bs.take 3 := ⟨_, rfl⟩
          rw [← hL2] at cv0
          have HL2 := hide hL2
          have R2 : ∀ w', Ext w w' → RdV w' (some ⟨b, off, none⟩) cap (L2.map B) := fun w' h' => by rw [hL2, List.map_take]; exact (hRd.take 3).below h'
          have hL2l : L2.length = 3 := by rw [hL2]; simp; omega
          clear hL2
          have HX := hide hxz
          have HRR := hide R2
          have HNO := hide hno
          clear R2 hno
          go_region_with (first | (go_at_call 43; refine (unhide HS _).mono ?_; rintro e w' ⟨rfl, rfl⟩) | (go_at_call 32; refine (one_any _ _ (by omega)).mono ?_; rintro e w1 ⟨ao, c, rfl, R1, hx1⟩; have cv1 := oconv_str w1 ao (one r).length c (one r) rfl R1; have cv2 := oconv_str w1 (some ⟨b, off, none⟩) 3 cap L2 hL2l (unhide HRR w1 (((unhide HX).trans (Ext.drew _)).trans hx1))))
          all_goals
            cases dq : (one (r : Int) == L2) with
            | true =>
              have heq : one (r : Int) = L2 := by simpa using dq
              have hy := at_yes (unhide HR) hkl hsh (by rw [heq, unhide HL2])
              go_wp2
              go_ret2
              rw [hy.1, hy.2]
              exact ⟨rfl, ((unhide HX).trans (Ext.drew _)).trans hx1⟩
            | false =>
              have heq : ¬ one (r : Int) = L2 := by intro h; rw [h] at dq; simp at dq
              have HEQ := hide heq
              clear heq
              go_wp2
              go_roundw
              case rel => exact ⟨3 + 1, by omega, by omega, rfl, no_more (unhide HNO) (no_one (unhide HR) (by intro h; exact (unhide HEQ) (by rw [h, unhide HL2]))), ((unhide HX).trans (Ext.drew _)).trans hx1⟩
              case measure => simp [intOf]
        · have hs := fun w => ushortest_any (r : Int) w
          have HSH : Hid (¬ ush (r : Int) = 3) := hsh
          generalize hgs : ush (r : Int) = s at hs hsh
          clear hgs
          have ds : ((s : Int) == 3) = false := by simp; omega
          have HS := hide hs
          have HX := hide hxz
          have HNO := hide hno
          clear hs hno hsh
          go_quiet ((go_at_call 43; exact Calls.quiet_of_same (unhide HS _)))
          go_wp2
          go_roundw
          case rel => exact ⟨3 + 1, by omega, by omega, rfl, no_more (unhide HNO) (no_sh (unhide HR) (unhide HSH)), (unhide HX).trans (Ext.drewN _ _)⟩
          case measure => simp [intOf]
      · obtain ⟨y0, hy0, ey0, c0⟩ := cell_at hx hlt hc 0 (by omega)
        simp only [Nat.add_zero] at c0
        obtain ⟨y1, hy1, ey1, c1⟩ := cell_at hx hlt hc 1 (by omega)
        obtain ⟨y2, hy2, ey2, c2⟩ := cell_at hx hlt hc 2 (by omega)
        obtain ⟨y3, hy3, ey3, c3⟩ := cell_at hx hlt hc 3 (by omega)
        obtain ⟨r, hr⟩ : ∃ r : Nat, (r : Int) = (((y0 : Int) % 8 * 64 + (y1 : Int) % 64) * 64 + (y2 : Int) % 64) * 64 + (y3 : Int) % 64 := ⟨((((y0 : Int) % 8 * 64 + (y1 : Int) % 64) * 64 + (y2 : Int) % 64) * 64 + (y3 : Int) % 64).toNat, by omega⟩
        have HR : Hid (r = cand bs 4) := by
          show r = _
          simp only [cand]
          rw [← ey0, ← ey1, ← ey2, ← ey3]
          omega
        have hr9 : r < 2097152 := by omega
        clear hc ey0 ey1 ey2 ey3
        have m0 := i7 ⟨y0, hy0⟩
        simp only at m0
        have n1 := a63 ⟨y1, hy1⟩
        simp only at n1
        have n2 := a63 ⟨y2, hy2⟩
        simp only at n2
        have n3 := a63 ⟨y3, hy3⟩
        simp only at n3
        go_wp2_with fail
        go_quiet (fail)
        go_wp2_with fail
        have hxz : Ext w (wr.drewN nq) := hx.trans (Ext.drewN _ _)
        have c1z : (wr.drewN nq).cell? ⟨b, off + 1, none⟩ = some (.int .u8 (y1 : Int)) := c1
        have c2z : (wr.drewN nq).cell? ⟨b, off + 2, none⟩ = some (.int .u8 (y2 : Int)) := c2
        have c3z : (wr.drewN nq).cell? ⟨b, off + 3, none⟩ = some (.int .u8 (y3 : Int)) := c3
        generalize wr.drewN nq = wz at *
        clear c0 c1 c2 c3
        refine wp_loop_rounds 4 ?_
        rw [rounds_succ]
        go_wp2_with fail
        rw [rounds_succ]
        go_wp2_with fail
        rw [rounds_succ]
        go_wp2_with fail
        rw [rounds_succ]
        go_wp2_with fail
        rw [← hr]
        clear hr
        by_cases hsh : ush (r : Int) = 4
        · have hs := fun w => ushortest_any (r : Int) w
          rw [hsh] at hs
          have HS := hide hs
          clear hs
          have cv0 := oconv_str wz.drew (some ⟨b, off, none⟩) 4 cap (bs.take 4) (by simp; omega) (by rw [List.map_take]; exact ((hRd.take 4).below hxz).below (Ext.drew _))
          obtain ⟨L2, hL2⟩ : ∃ L2, L2 = bs.take 4 := ⟨_, rfl⟩
          rw [← hL2] at cv0
          have HL2 := hide hL2
          have R2 : ∀ w', Ext w w' → RdV w' (some ⟨b, off, none⟩) cap (L2.map B) := fun w' h' => by rw [hL2, List.map_take]; exact (hRd.take 4).below h'
          have hL2l : L2.length = 4 := by rw [hL2]; simp; omega
          clear hL2
          have HX := hide hxz
          have HRR := hide R2
          have HNO := hide hno
          clear R2 hno
          go_region_with (first | (go_at_call 43; refine (unhide HS _).mono ?_; rintro e w' ⟨rfl, rfl⟩) | (go_at_call 32; refine (one_any _ _ (by omega)).mono ?_; rintro e w1 ⟨ao, c, rfl, R1, hx1⟩; have cv1 := oconv_str w1 ao (one r).length c (one r) rfl R1; have cv2 := oconv_str w1 (some ⟨b, off, none⟩) 4 cap L2 hL2l (unhide HRR w1 (((unhide HX).trans (Ext.drew _)).trans hx1))))
          all_goals
            cases dq : (one (r : Int) == L2) with
            | true =>
              have heq : one (r : Int) = L2 := by simpa using dq
              have hy := at_yes (unhide HR) hkl hsh (by rw [heq, unhide HL2])
              go_wp2
              go_ret2
              rw [hy.1, hy.2]
              exact ⟨rfl, ((unhide HX).trans (Ext.drew _)).trans hx1⟩
            | false =>
              have heq : ¬ one (r : Int) = L2 := by intro h; rw [h] at dq; simp at dq
              have HEQ := hide heq
              clear heq
              go_wp2
              go_roundw
              case rel => exact ⟨4 + 1, by omega, by omega, rfl, no_more (unhide HNO) (no_one (unhide HR) (by intro h; exact (unhide HEQ) (by rw [h, unhide HL2]))), ((unhide HX).trans (Ext.drew _)).trans hx1⟩
              case measure => simp [intOf]
        · have hs := fun w => ushortest_any (r : Int) w
          have HSH : Hid (¬ ush (r : Int) = 4) := hsh
          generalize hgs : ush (r : Int) = s at hs hsh
          clear hgs
          have ds : ((s : Int) == 4) = false := by simp; omega
          have HS := hide hs
          have HX := hide hxz
          have HNO := hide hno
          clear hs hno hsh
          go_quiet ((go_at_call 43; exact Calls.quiet_of_same (unhide HS _)))
          go_wp2
          go_roundw
          case rel => exact ⟨4 + 1, by omega, by omega, rfl, no_more (unhide HNO) (no_sh (unhide HR) (unhide HSH)), (unhide HX).trans (Ext.drewN _ _)⟩
          case measure => simp [intOf]
    · have HF := hide (at_no hno hk)
      by_cases h4 : k ≤ 4
      · have hkl : bs.length < k := by omega
        clear hk hno hc
        go_wp2
        go_ret2
        rw [(unhide HF).1, (unhide HF).2]
        exact ⟨rfl, hx⟩
      · clear hk hno hc
        go_wp2
        go_ret2
        rw [(unhide HF).1, (unhide HF).2]
        exact ⟨rfl, hx⟩
end Go.Proofs.YtilmkmplaehcaaaDoor
