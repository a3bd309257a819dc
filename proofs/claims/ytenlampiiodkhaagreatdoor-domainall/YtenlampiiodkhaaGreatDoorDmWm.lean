/-
  The walk of DomainAll.
-/
import Derived.Test.YtenlampiiodkhaaGreatDoorDmVm
import Derived.Test.YtenlampiiodkhaaGreatDoorDmK0m
import Derived.Test.YtenlampiiodkhaaGreatDoorCut
import Derived.Test.YtenlampiiodkhaaGreatDoorOp4
namespace Go.Proofs.YtenlampiiodkhaaGreatDoor
set_option linter.unusedVariables false
open Go.RowKit

theorem rlabels_any (s : List UInt8) (w : World) (hs : s.length ≤ 100000) : Calls Tryz.prog 13 #[S s] w fun e w' => ∃ g cap, e = .returned (.slice (some ⟨g, 0, none⟩) (pcs 46 s).length cap) ∧ RdV w' (some ⟨g, 0, none⟩) cap ((pcs 46 s).map S) ∧ Ext w w' := by
  have HC := hide (rcut_any s 46 w (by omega))
  have hn0 := List.length_pos_iff.2 (pcs_ne 46 s)
  generalize pcs 46 s = ps at *
  go_enter Tryz.func13, Tryz.ntmps13
  go_wp2_with fail
  refine (unhide HC).mono ?_
  rintro e w1 ⟨v, rfl, own, hx⟩
  clear HC
  rcases own.2 with ⟨_, h0⟩ | ⟨g, cap, cur, rfl, _, _, _⟩
  · omega
  · have FF : Hid (∃ g' cap', Ending.returned (.slice (some ⟨g, 0, none⟩) ps.length cap) = .returned (.slice (some ⟨g', 0, none⟩) ps.length cap') ∧ RdV w1 (some ⟨g', 0, none⟩) cap' (ps.map S) ∧ Ext w w1) := ⟨g, cap, rfl, RdV.of_owned_at own, hx⟩
    clear own hx
    go_wp2
    go_ret
    exact unhide FF

set_option maxHeartbeats 4000000 in
set_option maxRecDepth 100000 in
theorem all6d_walk (ao : Option Addr) (l cap : Nat) (b : List UInt8) (w : World) (hl : b.length = l) (h : RdV w ao cap (b.map B)) (tb : Tb6 w) :
    Calls Tryz.prog 3 #[.slice ao l cap] w fun e w' => e = .returned (.bool true) ∧ Ext w w' := by
  subst hl
  have hle := h.le
  have hmx := h.max
  simp only [List.length_map] at hle
  have HB := hide (begun_yes w tb)
  by_cases h410 : b.length ≤ 410
  · have h410' : ¬ 410 < (b.length : Int) := by omega
    have HA := hide (fun (v : World) (hv : Ext w v) => ascii_any ao b.length cap b v rfl (h.below hv) (tb.tab.below hv))
    have HR := hide (fun (v : World) (hv : Ext w v) => rascii_any ao b.length cap b v rfl (h.below hv))
    have hpl : (pcs 46 b).length ≤ 1000000 := by
      rw [pcs_count]
      have : Lib.countByte b 46 ≤ b.length := List.count_le_length
      omega
    have HL1 := hide (fun (v : World) (hv : Ext w v) => labels_any b v (by omega) (tb.max.below hv))
    have HL2 := hide (fun (v : World) => rlabels_any b v (by omega))
    have HS := hide (fun (g cap g2 cap2 : Nat) (v : World) h1 h2 => sameT_some g 0 cap g2 0 cap2 (pcs 46 b) v hpl h1 h2)
    have HH := hide h
    clear h tb hpl
    generalize pcs 46 b = ps at *
    generalize nS (nam b) = z at *
    generalize nE (nam b) = q at *
    go_enter Tryz.func3, Tryz.ntmps3
    go_wp2_with fail
    refine (unhide HB).mono ?_
    rintro e w1 ⟨rfl, hx1⟩
    clear HB
    have HA1 := hide (unhide HA w1 hx1)
    go_wp2_with fail
    refine (unhide HA1).mono ?_
    rintro e w2 ⟨rfl, hy⟩
    have hx2 := hx1.trans hy
    clear hy HA1 HA
    have HR1 := hide (unhide HR w2 hx2)
    go_wp2_with fail
    refine (unhide HR1).mono ?_
    rintro e w3 ⟨rfl, hy⟩
    have hx3 := hx2.trans hy
    clear hy HR1 HR
    have HX := hide hx3
    clear hx1 hx2 hx3
    go_wp2_with fail
    refine wp_region_open2 (A := knows [(22, isF (S z)), (23, isF (S z)), (24, isF (.bool true)), (25, isF (.bool true)), (26, isF (.int .i64 q)), (27, isF (.int .i64 q)), (28, isF (.bool true)), (29, isF (.bool true)), (30, isF (.bool true)), (31, cellsF (b.map B)), (32, isF (S b)), (33, textsF ps), (34, cellsF (b.map B)), (35, isF (S b)), (36, textsF ps), (37, isF (.bool true)), (38, isF (.bool true)), (2, isF (.bool true))]) [22, 23, 24, 25, 26, 27, 28, 29, 30, 31, 32, 33, 34, 35, 36, 37, 38, 2] (by kernel_rfl) (by kernel_rfl) (by kernel_rfl) (knows_mono _) (steps_of ?_) ?_
    · skip
      refine allOps_cons (ok_fixed (.inl rfl) rfl 3 (S z) (.inl rfl) (by kernel_rfl) rfl (fun _ _ => rfl)) ?_
      refine allOps_cons (ok_fixed (.inl rfl) rfl 5 (S z) (.inl rfl) (by kernel_rfl) rfl (fun _ _ => rfl)) ?_
      refine allOps_cons (ok_eqT (.inl rfl) rfl 22 23 _ _ rfl (by kernel_rfl) (by kernel_rfl) z (fun _ _ h => h) (fun _ _ h => h) (fun _ => rfl)) ?_
      refine allOps_cons (ok_move (.inl rfl) rfl 24 (.inl rfl) (by kernel_rfl) (fun _ _ h => h)) ?_
      refine allOps_cons (ok_fixed (.inr ⟨3, true, 25, rfl, by kernel_rfl, by kernel_rfl, fun _ _ h => h⟩) rfl 4 (.int .i64 q) (.inl rfl) (by kernel_rfl) rfl (fun _ _ => rfl)) ?_
      refine allOps_cons (ok_fixed (.inr ⟨3, true, 25, rfl, by kernel_rfl, by kernel_rfl, fun _ _ h => h⟩) rfl 6 (.int .i64 q) (.inl rfl) (by kernel_rfl) rfl (fun _ _ => rfl)) ?_
      refine allOps_cons (ok_eqN (.inr ⟨3, true, 25, rfl, by kernel_rfl, by kernel_rfl, fun _ _ h => h⟩) rfl 26 27 _ _ .i64 q rfl (by kernel_rfl) (by kernel_rfl) (fun _ _ h => h) (fun _ _ h => h) (fun _ => rfl)) ?_
      refine allOps_cons (ok_pick (.inl rfl) rfl 25 28 _ rfl (by kernel_rfl) (by kernel_rfl) (fun _ _ h => h) (fun _ _ h => h)) ?_
      refine allOps_cons (ok_move (.inl rfl) rfl 29 (.inl rfl) (by kernel_rfl) (fun _ _ h => h)) ?_
      refine allOps_cons (ok_fixed (.inr ⟨8, true, 30, rfl, by kernel_rfl, by kernel_rfl, fun _ _ h => h⟩) rfl 0 (.slice ao b.length cap) (.inl rfl) (by kernel_rfl) rfl (fun wx hx => ⟨ao, cap, by simp, (unhide HH).below ((unhide HX).trans hx)⟩)) ?_
      refine allOps_cons (ok_strT (.inr ⟨8, true, 30, rfl, by kernel_rfl, by kernel_rfl, fun _ _ h => h⟩) rfl 31 rfl (by kernel_rfl) b (fun _ _ h => h) (fun _ => rfl)) ?_
      refine allOps_cons (ok_texts (.inr ⟨8, true, 30, rfl, by kernel_rfl, by kernel_rfl, fun _ _ h => h⟩) rfl 12 #[.tmp 32] _ (fun args v => run_enter 12 Tryz.f12 Tryz.func12 (by kernel_rfl) (by kernel_rfl) args v) rfl ps (fun a v hx hf hd => by
        rw [argsT1, show a.tmps.getD 32 undef = S b from hd 32 (by kernel_rfl)]
        exact unhide HL1 v ((unhide HX).trans hx)) (fun _ _ h => h)) ?_
      refine allOps_cons (ok_fixed (.inr ⟨8, true, 30, rfl, by kernel_rfl, by kernel_rfl, fun _ _ h => h⟩) rfl 0 (.slice ao b.length cap) (.inl rfl) (by kernel_rfl) rfl (fun wx hx => ⟨ao, cap, by simp, (unhide HH).below ((unhide HX).trans hx)⟩)) ?_
      refine allOps_cons (ok_strT (.inr ⟨8, true, 30, rfl, by kernel_rfl, by kernel_rfl, fun _ _ h => h⟩) rfl 34 rfl (by kernel_rfl) b (fun _ _ h => h) (fun _ => rfl)) ?_
      refine allOps_cons (ok_texts (.inr ⟨8, true, 30, rfl, by kernel_rfl, by kernel_rfl, fun _ _ h => h⟩) rfl 13 #[.tmp 35] _ (fun args v => run_enter 13 Tryz.f13 Tryz.func13 (by kernel_rfl) (by kernel_rfl) args v) rfl ps (fun a v hx hf hd => by
        rw [argsT1, show a.tmps.getD 35 undef = S b from hd 35 (by kernel_rfl)]
        exact unhide HL2 v) (fun _ _ h => h)) ?_
      refine allOps_cons (ok_is (.inr ⟨8, true, 30, rfl, by kernel_rfl, by kernel_rfl, fun _ _ h => h⟩) rfl 11 #[.tmp 33, .tmp 36] _ (fun args v => run_enter 11 Tryz.f11 Tryz.func11 (by kernel_rfl) (by kernel_rfl) args v) rfl (.bool true) (fun a v hx hf hd => by
        obtain ⟨g1, k1, e1, r1⟩ : (textsF ps).holds (a.tmps.getD 33 undef) v := hd 33 (by kernel_rfl)
        obtain ⟨g2, k2, e2, r2⟩ : (textsF ps).holds (a.tmps.getD 36 undef) v := hd 36 (by kernel_rfl)
        rw [argsT2, e1, e2]
        exact unhide HS g1 k1 g2 k2 v r1 r2) (fun _ => rfl)) ?_
      refine allOps_cons (ok_pick (.inl rfl) rfl 30 37 _ rfl (by kernel_rfl) (by kernel_rfl) (fun _ _ h => h) (fun _ _ h => h)) ?_
      refine allOps_cons (ok_move (.inl rfl) rfl 38 (.inr rfl) (by kernel_rfl) (fun _ _ h => h)) ?_
      exact allOps_nil
    · intro vs wz hx hkn
      have h2 : vs 2 = .bool true := hkn 2 rfl
      have X5 := hide ((unhide HX).trans hx)
      simp only [putAll, h2, Act.put, List.setIfInBounds_toArray, List.set_cons_succ, List.set_cons_zero]
      clear hkn h2 hx HX HL1 HL2 HS HH
      go_wp2
      go_ret
      exact ⟨rfl, unhide X5⟩
  · have h410' : 410 < (b.length : Int) := by omega
    clear h tb
    go_enter Tryz.func3, Tryz.ntmps3
    go_wp2_with fail
    refine (unhide HB).mono ?_
    rintro e w1 ⟨rfl, hx1⟩
    clear HB
    go_wp2
    go_ret
    exact ⟨rfl, hx1⟩
end Go.Proofs.YtenlampiiodkhaaGreatDoor
