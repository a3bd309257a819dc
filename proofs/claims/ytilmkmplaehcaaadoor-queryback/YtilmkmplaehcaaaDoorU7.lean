/-
  What Encode of package utf tells of any code points.
-/
import Derived.Test.YtilmkmplaehcaaaDoorU6
namespace Go.Proofs.YtilmkmplaehcaaaDoor
set_option linter.unusedVariables false
open Go.RowKit

theorem appendCode_any (base n : Nat) (r : Int) (v : Value) (pre : List UInt8) (w : World) (h : ush r ≠ 0) (own : w.ownsRow base 5 1 v n (pre.map B)) (hb : base ≤ w.heap.size) (hn : n ≤ 100000000) :
    Calls Tryd.prog 51 #[v, .int .i32 r] w fun e w' => ∃ v', e = .returned v' ∧ w'.ownsRow base 5 1 v' (n + (one r).length) ((pre ++ one r).map B) ∧ Below base w w' := by
  rw [one_length h, one_ok h, List.map_append]
  obtain ⟨h0, _⟩ := sh_bound (r := r) rfl h
  obtain ⟨x, rfl⟩ := Int.eq_ofNat_of_zero_le h0
  simp only [Int.toNat_natCast]
  have h4 := sh_le (x : Int)
  have c : ush (x : Int) = 1 ∨ ush (x : Int) = 2 ∨ ush (x : Int) = 3 ∨ ush (x : Int) = 4 := by omega
  rcases c with c | c | c | c
  · rw [c]; exact app1 base n x v pre w c own hb hn
  · rw [c]; exact app2 base n x v pre w c own hb hn
  · rw [c]; exact app3 base n x v pre w c own hb hn
  · rw [c]; exact app4 base n x v pre w c own hb hn

set_option maxHeartbeats 400000 in
set_option maxRecDepth 100000 in
theorem encode_some (b off cap : Nat) (rs : List Int) (w : World) (hlc : rs.length ≤ cap) (hmx : cap ≤ 9223372036854775807) (hm : rs.length ≤ 1000000)
    (hlt : b < w.heap.size) (hc : ∀ i, i < rs.length → w.cell? ⟨b, off + i, none⟩ = some (R (rs.getD i 0))) :
    Calls Tryd.prog 37 #[.slice (some ⟨b, off, none⟩) rs.length cap] w fun e w' => ∃ v, e = .returned v ∧ w'.ownsRow w.heap.size 5 1 v (enc rs).length ((enc rs).map B) ∧ Below w.heap.size w w' := by
  obtain ⟨i0, hi, hz0, hz1, hz2⟩ := info_parts uinfoB
  go_enter Tryd.func37, Tryd.ntmps37
  go_wp2_with (at_make; refine wpList_make_own _ rfl _ _ 33 rfl w.heap.size 5 i0 (.int .u8 0) 1 Tryd.underlying33 hi hz0 hz1 _ _ _ rs.length rfl rfl (by omega) ?b2 ?b3 (Nat.le_refl _) ?_)
  case b2 => rw [hz2]; omega
  case b3 => unfold maxLen; omega
  intro w0 hown0 hgrow0
  have hb0 : Below w.heap.size w w0 := (Below.refl _ _).grown hgrow0 (Nat.le_refl _) (fun k h => by cases h)
  go_wp2
  go_loopw [3, 11] (fun v i wr => ∃ k : Nat, k ≤ rs.length ∧ i = .int .i64 k ∧ wr.ownsRow w.heap.size 5 1 v (enc (rs.take k)).length ((enc (rs.take k)).map B) ∧ Below w.heap.size w wr) (fun _ i _ => rs.length - (intOf i).toNat)
  case atStart => exact ⟨0, Nat.zero_le _, rfl, by simpa [enc] using hown0, hb0⟩
  case round =>
    clear hown0 hgrow0 hb0
    obtain ⟨k, hk, rfl, own, hbr⟩ := hrel
    by_cases hkl : k < rs.length
    · have hcell : wr.cell? ⟨b, off + k, none⟩ = some (R (rs.getD k 0)) := (hbr.cell (p := ⟨b, off + k, none⟩) hlt).trans (hc k hkl)
      have HE := hide (enc_take rs k hkl)
      have hel := enc_len (rs.take k)
      have htl : (rs.take k).length ≤ rs.length := by simp; omega
      generalize hx : rs.getD k 0 = x at *
      generalize enc (rs.take k) = pre at *
      clear hx hc
      go_wp2_with fail
      refine (uisCode_any x _).mono ?_
      rintro e w1 ⟨rfl, rfl⟩
      have hf := sh_fix x
      have ho := one_fix x
      by_cases hs : ush x = 0
      · have e1 : decide (ush x ≠ 0) = false := by simp [hs]
        have e2 : fix x = 65533 := by unfold fix; rw [if_pos hs]
        rw [e1]
        rw [e2] at hf ho
        clear e1 e2 hs
        have HA := hide (appendCode_any w.heap.size pre.length 65533 _ pre w1 hf own hbr.size (by omega))
        rw [ho] at HA
        clear own ho hf
        go_wp2_with fail
        refine (unhide HA).mono ?_
        rintro e w2 ⟨v2, rfl, own2, hb2⟩
        clear HA
        have hb3 := hbr.trans hb2
        have R2 : w2.ownsRow w.heap.size 5 1 v2 (enc (rs.take (k + 1))).length ((enc (rs.take (k + 1))).map B) := by
          rw [unhide HE]
          simpa using own2
        clear own2 HE
        go_wp2
        go_roundw
        case rel => exact ⟨k + 1, by omega, by go_num, R2, hb3⟩
        case measure => simp [intOf]; omega
      · have e1 : decide (ush x ≠ 0) = true := by simp [hs]
        rw [e1]
        have HA := hide (appendCode_any w.heap.size pre.length x _ pre w1 hs own hbr.size (by omega))
        clear own ho hf e1
        go_wp2_with fail
        refine (unhide HA).mono ?_
        rintro e w2 ⟨v2, rfl, own2, hb2⟩
        clear HA
        have hb3 := hbr.trans hb2
        have R2 : w2.ownsRow w.heap.size 5 1 v2 (enc (rs.take (k + 1))).length ((enc (rs.take (k + 1))).map B) := by
          rw [unhide HE]
          simpa using own2
        clear own2 HE
        go_wp2
        go_roundw
        case rel => exact ⟨k + 1, by omega, by go_num, R2, hb3⟩
        case measure => simp [intOf]; omega
    · have e : k = rs.length := by omega
      subst e
      go_wp2
      go_ret
      exact ⟨_, rfl, by simpa using own, hbr⟩

theorem encode_none (ao : Option Addr) (cap : Nat) (w : World) : Calls Tryd.prog 37 #[.slice ao 0 cap] w (Gives w []) := by
  obtain ⟨i0, hi, hz0, hz1, hz2⟩ := info_parts uinfoB
  go_enter Tryd.func37, Tryd.ntmps37
  go_wp2_with (at_make; refine wpList_make_own _ rfl _ _ 33 rfl w.heap.size 5 i0 (.int .u8 0) 1 Tryd.underlying33 hi hz0 hz1 _ _ _ 0 rfl rfl (by omega) ?b2 ?b3 (Nat.le_refl _) ?_)
  case b2 => rw [hz2]; omega
  case b3 => unfold maxLen; omega
  intro w0 hown0 hgrow0
  have hb0 : Below w.heap.size w w0 := (Below.refl _ _).grown hgrow0 (Nat.le_refl _) (fun k h => by cases h)
  go_wp2
  refine wp_loop_rounds 1 ?_
  rw [rounds_succ]
  go_wp2
  go_ret
  exact gives_of_owned hown0 hb0

/-- The bytes of code points, in new memory. -/
theorem utf_encode_any (ao : Option Addr) (l cap : Nat) (rs : List Int) (w : World) (hl : rs.length = l) (hm : l ≤ 1000000) (h : RdV w ao cap (rs.map R)) :
    Calls Tryd.prog 37 #[.slice ao l cap] w (Gives w ((enc rs).map B)) := by
  subst hl
  by_cases h0 : rs.length = 0
  · have : rs = [] := List.eq_nil_of_length_eq_zero h0
    subst this
    exact encode_none ao cap w
  · have hle := h.le
    obtain ⟨b, off, rfl, hc⟩ := h.cells (by simp; omega)
    obtain ⟨b', off', e, hlt⟩ := h.lt (by simp; omega)
    simp only [Option.some.injEq, Addr.mk.injEq] at e
    obtain ⟨rfl, rfl, _⟩ := e
    refine (encode_some b off cap rs w (by simpa using hle) h.max hm hlt fun i hi => by rw [hc i (by simpa using hi), getR rs i hi]).mono ?_
    rintro e w' ⟨v, rfl, h1, h2⟩
    exact gives_of_owned h1 h2
end Go.Proofs.YtilmkmplaehcaaaDoor
