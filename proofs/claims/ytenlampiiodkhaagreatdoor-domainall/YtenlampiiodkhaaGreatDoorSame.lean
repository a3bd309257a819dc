/-
  What the document's SameRunes tells of two lists that are one.
-/
import Derived.Test.YtenlampiiodkhaaGreatDoorGen
namespace Go.Proofs.YtenlampiiodkhaaGreatDoor
set_option linter.unusedVariables false
open Go.RowKit

theorem infoR : (Tryz.prog.info? 21).map (fun i => (i.zero, i.size, i.bytes)) = some (some (.int .i32 0), 1, 4) := by kernel_rfl

set_option maxHeartbeats 400000 in
theorem same_some (b off cap b2 off2 cap2 : Nat) (rs qs : List Int) (w : World) (hl : qs.length = rs.length) (hlc : rs.length ≤ cap) (hlc2 : rs.length ≤ cap2) (hmx : cap ≤ 9223372036854775807) (hmx2 : cap2 ≤ 9223372036854775807)
    (hc : ∀ i, i < rs.length → w.cell? ⟨b, off + i, none⟩ = some (R (rs.getD i 0))) (hc2 : ∀ i, i < rs.length → w.cell? ⟨b2, off2 + i, none⟩ = some (R (qs.getD i 0))) (he : rs = qs) :
    Calls Tryz.prog 106 #[.slice (some ⟨b, off, none⟩) rs.length cap, .slice (some ⟨b2, off2, none⟩) rs.length cap2] w fun e w' => e = .returned (.bool true) ∧ Ext w w' := by
  subst he
  go_enter Tryz.func106, Tryz.ntmps106
  go_wp2
  go_loopw [5] (fun i wr => ∃ k : Nat, k ≤ rs.length ∧ i = .int .i64 k ∧ ∃ n, wr = w.drewN n) (fun i _ => rs.length - (intOf i).toNat)
  case atStart => exact ⟨0, Nat.zero_le _, rfl, 0, rfl⟩
  case round =>
    obtain ⟨k, hk, rfl, n, rfl⟩ := hrel
    by_cases hkl : k < rs.length
    · have c1 := hc k hkl
      have c2 := hc2 k hkl
      have i1 : (0 : Int) ≤ (k : Int) := by omega
      have i2 : (k : Int) < (rs.length : Int) := by omega
      generalize rs.getD k 0 = x at *
      clear hc hc2
      go_wp2_with fail
      go_quiet (fail)
      go_wp2
      go_roundw
      case rel => exact ⟨k + 1, by omega, by go_num, n + nq, rfl⟩
      case measure => simp [intOf]; omega
    · go_wp2
      go_ret
      exact ⟨rfl, Ext.drewN _ _⟩

theorem same_none (ao ao2 : Option Addr) (cap cap2 : Nat) (w : World) : Calls Tryz.prog 106 #[.slice ao 0 cap, .slice ao2 0 cap2] w fun e w' => e = .returned (.bool true) ∧ Ext w w' := by
  go_enter Tryz.func106, Tryz.ntmps106
  go_wp2
  refine wp_loop_rounds 1 ?_
  rw [rounds_succ]
  go_wp2
  go_ret
  exact ⟨rfl, Ext.refl _⟩

/-- Two lists that are one are the same. -/
theorem same_any (ao ao2 : Option Addr) (l cap cap2 : Nat) (rs : List Int) (w : World) (hl : rs.length = l) (h : RdV w ao cap (rs.map R)) (h2 : RdV w ao2 cap2 (rs.map R)) :
    Calls Tryz.prog 106 #[.slice ao l cap, .slice ao2 l cap2] w fun e w' => e = .returned (.bool true) ∧ Ext w w' := by
  subst hl
  by_cases h0 : rs.length = 0
  · rw [h0]
    exact same_none ao ao2 cap cap2 w
  · obtain ⟨b, off, rfl, hc⟩ := h.cells (by simp; omega)
    obtain ⟨b2, off2, rfl, hc2⟩ := h2.cells (by simp; omega)
    have g1 := h.le
    have g2 := h2.le
    exact same_some b off cap b2 off2 cap2 rs rs w rfl (by simpa using g1) (by simpa using g2) h.max h2.max (fun i hi => by rw [hc i (by simpa using hi), getR rs i hi]) (fun i hi => by rw [hc2 i (by simpa using hi), getR rs i hi]) rfl
end Go.Proofs.YtenlampiiodkhaaGreatDoor
