/-
  PunyW, PunyL, Short.
-/
import Derived.Test.YtenlampiiodkhaaGreatDoorBPc
import Derived.Test.YtenlampiiodkhaaGreatDoorBAc
namespace Go.Proofs.YtenlampiiodkhaaGreatDoor
set_option linter.unusedVariables false
open Go.RowKit
def ints (ns : List Nat) : List Int := ns.map fun (n : Nat) => (n : Int)
def penI (rs : List Int) : Option (List UInt8) := if rs.all (fun r => decide (0 ≤ r)) = true then penc (rs.map Int.toNat) else none
def eS (rs : List Int) : List UInt8 := (penI rs).getD []
def eE (rs : List Int) : Int := if (penI rs).isSome then 0 else 1
def dL (s : List UInt8) : List Int := ints ((pdec s).getD [])
def dE (s : List UInt8) : Int := if (pdec s).isSome then 0 else 2
def TellsE (w : World) (rs : List Int) (e : Ending) (w' : World) : Prop := e = .returned (.tuple #[S (eS rs), .int .i64 (eE rs)]) ∧ Ext w w'
def TellsD (w : World) (s : List UInt8) (e : Ending) (w' : World) : Prop := ∃ ao cap, e = .returned (.tuple #[.slice ao (dL s).length cap, .int .i64 (dE s)]) ∧ RdV w' ao cap ((dL s).map R) ∧ Ext w w'
def DecOf (f : FuncId) : Prop := ∀ (s : List UInt8) (w : World), s.length ≤ 1000 → Calls Tryz.prog f #[S s] w (TellsD w s)
theorem ints_back (ns : List Nat) : (ints ns).map Int.toNat = ns := by
  unfold ints; rw [List.map_map]
  conv => rhs; rw [← List.map_id ns]
  exact List.map_congr_left fun x _ => by simp
theorem ints_all (ns : List Nat) : (ints ns).all (fun r => decide (0 ≤ r)) = true := by
  rw [List.all_eq_true]; intro x hx; unfold ints at hx; obtain ⟨n, _, rfl⟩ := List.mem_map.1 hx; simp
theorem ints_fwd {rs : List Int} (h : rs.all (fun r => decide (0 ≤ r)) = true) : ints (rs.map Int.toNat) = rs := by
  unfold ints; rw [List.map_map]
  conv => rhs; rw [← List.map_id rs]
  apply List.map_congr_left; intro x hx; have := List.all_eq_true.1 h x hx; simp only [decide_eq_true_eq] at this; simp only [Function.comp, id]; omega
theorem penI_ints (ns : List Nat) : penI (ints ns) = penc ns := by
  unfold penI; rw [if_pos (ints_all ns), ints_back]
theorem back_of {rs : List Int} {s : List UInt8} (h : penI rs = some s) (hs : s.length ≤ 200) : pdec s = some (rs.map Int.toNat) ∧ ints (rs.map Int.toNat) = rs := by
  unfold penI at h
  split at h
  · rename_i hc; exact ⟨pdec_penc h hs, ints_fwd hc⟩
  · simp at h
theorem pdec_range {s : List UInt8} {l : List Nat} (h : pdec s = some l) : l.length ≤ 63 := by
  unfold pdec at h
  split at h
  · simp only [Option.bind_eq_some_iff] at h; obtain ⟨p, _, ds, _, l2, _, h3⟩ := h
    split at h3
    · simp only [Option.some.injEq] at h3; rw [← h3]
      assumption
    · simp at h3
  · simp at h
theorem penc_cp {l : List Nat} {s : List UInt8} (h : penc l = some s) : ∀ x ∈ l, x ≤ 1114111 := by
  unfold penc at h
  split at h
  · rename_i hc; intro x hx; have := List.all_eq_true.1 hc.2 x hx; unfold cp at this; simp at this; omega
  · simp at h
end Go.Proofs.YtenlampiiodkhaaGreatDoor
namespace Go.Proofs.YtenlampiiodkhaaGreatDoor
set_option linter.unusedVariables false
open Go.RowKit
theorem thr_int (k bias : Nat) : ((thr k bias : Nat) : Int) = min (max ((k : Int) - (bias : Int)) 1) 26 := by unfold thr; omega
set_option maxHeartbeats 400000 in
theorem redge_any (k bias : Nat) (w : World) (hk : k ≤ 1000000000000) (hb : bias ≤ 1000000000000) : Calls Tryz.prog 107 #[.int .i64 (k : Int), .int .i64 (bias : Int)] w fun e w' => e = .returned (.int .i64 (thr k bias : Int)) ∧ w' = w := by
  rw [thr_int]; go_enter Tryz.func107, Tryz.ntmps107; go_wp2
  all_goals
    go_ret; exact ⟨by simp <;> omega, rfl⟩
theorem adLoop_more (f d k : Nat) (h : 455 < d) : adLoop (f + 1) d k = adLoop f (d / 35) (k + 36) := by rw [adLoop, if_pos h]
theorem adLoop_end (f d k : Nat) (h : ¬ 455 < d) : adLoop f d k = k + 36 * d / (d + 38) := by
  cases f with
  | zero => rfl
  | succ f => rw [adLoop, if_neg h]
set_option maxHeartbeats 800000 in
theorem radapt_any (delta points : Nat) (first : Bool) (w : World) (hd : delta ≤ 1152921504606846976) (hp : 1 ≤ points) (hp2 : points ≤ 1000000) : Calls Tryz.prog 108 #[.int .i64 (delta : Int), .int .i64 (points : Int), .bool first] w fun e w' => e = .returned (.int .i64 (adp delta points first : Int)) ∧ w' = w := by
  unfold adp
  cases first
  · simp only [Bool.false_eq_true, if_false]; have f1 : ∃ d0 : Nat, Hid (d0 = delta / 2) ∧ (delta : Int) / 2 = (d0 : Int) ∧ d0 ≤ delta := ⟨delta / 2, hide rfl, by simp, Nat.div_le_self _ _⟩; obtain ⟨d0, E0, g0, l0⟩ := f1; have f2 : ∃ q : Nat, Hid (q = d0 / points) ∧ (d0 : Int) / (points : Int) = (q : Int) ∧ q ≤ d0 := ⟨d0 / points, hide rfl, by simp, Nat.div_le_self _ _⟩; obtain ⟨q, E1, g1, l1⟩ := f2; have eF : adLoop 64 (delta / 2 + delta / 2 / points) 0 = adLoop 64 (d0 + q) 0 := by rw [unhide E1, unhide E0]
    obtain ⟨D, ED⟩ : ∃ D, Hid (D = d0 + q) := ⟨_, hide rfl⟩; rw [eF, ← unhide ED]; clear eF E0 E1; go_enter Tryz.func108, Tryz.ntmps108; go_wp2_with fail
    have hD2 : D ≤ 2305843009213693952 := by have := unhide ED; omega
    have hD := hide (show D < 456 * 35 ^ 64 from Nat.lt_of_le_of_lt hD2 (by decide)); rw [show ((d0 : Int) + (q : Int)) = (D : Int) by have := unhide ED; omega]; clear g0 g1 l0 l1 ED
    go_loopw [0, 7] (fun v k wr => ∃ (f d n : Nat), v = .int .i64 (d : Int) ∧ k = .int .i64 (n : Int) ∧ adLoop f d n = adLoop 64 D 0 ∧ d < 456 * 35 ^ f ∧ d ≤ 2305843009213693952 ∧ n + 36 * f ≤ 2304 ∧ wr = w) (fun v _ _ => (intOf v).toNat)
    case atStart => exact ⟨64, D, 0, rfl, rfl, rfl, unhide hD, hD2, by omega, rfl⟩
    case round =>
      clear hD hD2; obtain ⟨f, d, n, rfl, rfl, hv, hb, hd2, hn, rfl⟩ := hrel; have HV := hide hv; have HBB := hide hb; clear hv hb; by_cases c : 455 < d
      · cases f with
        | zero =>
          have := unhide HBB; omega
        | succ f =>
          have hb := unhide HBB; have hb2 : d / 35 < 456 * 35 ^ f := by
            rw [Nat.div_lt_iff_lt_mul (by omega), Nat.mul_assoc, ← Nat.pow_succ]; exact hb
          have hd3 : d / 35 ≤ d := Nat.div_le_self _ _; have hd4 : d / 35 < d := by omega
          have HB := hide hb2; clear hb hb2 HBB; go_wp2; go_roundw
          case rel => exact ⟨f, d / 35, n + 36, by go_num, by go_num, by rw [← adLoop_more f d n c]; exact unhide HV, unhide HB, by omega, by omega, by trivial⟩
          case measure => simp [intOf]; omega
      · have e := unhide HV; rw [adLoop_end f d n c] at e; have f3 : ∃ z : Nat, Hid (z = 36 * d / (d + 38)) ∧ (36 * (d : Int)) / ((d : Int) + 38) = (z : Int) ∧ z ≤ 36 * d := ⟨36 * d / (d + 38), hide rfl, by simp, Nat.div_le_self _ _⟩; obtain ⟨z, E2, g2, l2⟩ := f3; rw [← unhide E2] at e; have HE := hide e; clear e HV HBB E2; go_wp2; go_ret; rw [← unhide HE]; exact ⟨by simp, rfl⟩
  · simp only [if_true]; have f1 : ∃ d0 : Nat, Hid (d0 = delta / 700) ∧ (delta : Int) / 700 = (d0 : Int) ∧ d0 ≤ delta := ⟨delta / 700, hide rfl, by simp, Nat.div_le_self _ _⟩; obtain ⟨d0, E0, g0, l0⟩ := f1; have f2 : ∃ q : Nat, Hid (q = d0 / points) ∧ (d0 : Int) / (points : Int) = (q : Int) ∧ q ≤ d0 := ⟨d0 / points, hide rfl, by simp, Nat.div_le_self _ _⟩; obtain ⟨q, E1, g1, l1⟩ := f2; have eF : adLoop 64 (delta / 700 + delta / 700 / points) 0 = adLoop 64 (d0 + q) 0 := by rw [unhide E1, unhide E0]
    obtain ⟨D, ED⟩ : ∃ D, Hid (D = d0 + q) := ⟨_, hide rfl⟩; rw [eF, ← unhide ED]; clear eF E0 E1; go_enter Tryz.func108, Tryz.ntmps108; go_wp2_with fail
    have hD2 : D ≤ 2305843009213693952 := by have := unhide ED; omega
    have hD := hide (show D < 456 * 35 ^ 64 from Nat.lt_of_le_of_lt hD2 (by decide)); rw [show ((d0 : Int) + (q : Int)) = (D : Int) by have := unhide ED; omega]; clear g0 g1 l0 l1 ED
    go_loopw [0, 7] (fun v k wr => ∃ (f d n : Nat), v = .int .i64 (d : Int) ∧ k = .int .i64 (n : Int) ∧ adLoop f d n = adLoop 64 D 0 ∧ d < 456 * 35 ^ f ∧ d ≤ 2305843009213693952 ∧ n + 36 * f ≤ 2304 ∧ wr = w) (fun v _ _ => (intOf v).toNat)
    case atStart => exact ⟨64, D, 0, rfl, rfl, rfl, unhide hD, hD2, by omega, rfl⟩
    case round =>
      clear hD hD2; obtain ⟨f, d, n, rfl, rfl, hv, hb, hd2, hn, rfl⟩ := hrel; have HV := hide hv; have HBB := hide hb; clear hv hb; by_cases c : 455 < d
      · cases f with
        | zero =>
          have := unhide HBB; omega
        | succ f =>
          have hb := unhide HBB; have hb2 : d / 35 < 456 * 35 ^ f := by
            rw [Nat.div_lt_iff_lt_mul (by omega), Nat.mul_assoc, ← Nat.pow_succ]; exact hb
          have hd3 : d / 35 ≤ d := Nat.div_le_self _ _; have hd4 : d / 35 < d := by omega
          have HB := hide hb2; clear hb hb2 HBB; go_wp2; go_roundw
          case rel => exact ⟨f, d / 35, n + 36, by go_num, by go_num, by rw [← adLoop_more f d n c]; exact unhide HV, unhide HB, by omega, by omega, by trivial⟩
          case measure => simp [intOf]; omega
      · have e := unhide HV; rw [adLoop_end f d n c] at e; have f3 : ∃ z : Nat, Hid (z = 36 * d / (d + 38)) ∧ (36 * (d : Int)) / ((d : Int) + 38) = (z : Int) ∧ z ≤ 36 * d := ⟨36 * d / (d + 38), hide rfl, by simp, Nat.div_le_self _ _⟩; obtain ⟨z, E2, g2, l2⟩ := f3; rw [← unhide E2] at e; have HE := hide e; clear e HV HBB E2; go_wp2; go_ret; rw [← unhide HE]; exact ⟨by simp, rfl⟩
theorem letter_get : ∀ k : Fin 36, ([97, 98, 99, 100, 101, 102, 103, 104, 105, 106, 107, 108, 109, 110, 111, 112, 113, 114, 115, 116, 117, 118, 119, 120, 121, 122, 48, 49, 50, 51, 52, 53, 54, 55, 56, 57] : List UInt8).getD k.val 0 = letter k.val := by decide +kernel
theorem idx_letter (w : World) (kd : IntKind) (k : Nat) (hk : k < 36) : (Instr.index 9 (.string ⟨#[97, 98, 99, 100, 101, 102, 103, 104, 105, 106, 107, 108, 109, 110, 111, 112, 113, 114, 115, 116, 117, 118, 119, 120, 121, 122, 48, 49, 50, 51, 52, 53, 54, 55, 56, 57]⟩) (.int kd (k : Int))).run Tryz.prog w = .ok (B (letter k)) w := by
  have := idx_str w [97, 98, 99, 100, 101, 102, 103, 104, 105, 106, 107, 108, 109, 110, 111, 112, 113, 114, 115, 116, 117, 118, 119, 120, 121, 122, 48, 49, 50, 51, 52, 53, 54, 55, 56, 57] kd k (by simpa using hk); rw [letter_get ⟨k, hk⟩] at this; exact this
def dvi (b : UInt8) : Int := match dv b with | some n => (n : Int) | none => -1
theorem dv_lower : ∀ b : Fin 256, 65 ≤ b.val ∧ b.val ≤ 90 → dv (UInt8.ofNat b.val) = dv (UInt8.ofNat (b.val + 32)) := by decide +kernel
set_option maxHeartbeats 800000 in
theorem digit_loop (b c : UInt8) (w : World) (hc : ¬ (65 ≤ c.toNat ∧ c.toNat ≤ 90)) (hbc : dv b = dv c) (hb : (65 ≤ (b.toNat : Int) ∧ (b.toNat : Int) ≤ 90 ∧ (c.toNat : Int) = (b.toNat : Int) + 32) ∨ (¬ (65 ≤ (b.toNat : Int) ∧ (b.toNat : Int) ≤ 90) ∧ b = c)) :
    Calls Tryz.prog 139 #[B b] w fun e w' => e = .returned (.int .i64 (dvi b)) ∧ w' = w := by
  have hlet : ∀ j : Nat, j < 36 → letter j = c → dvi b = (j : Int) := by
    intro j hj e; unfold dvi; rw [hbc, ← e, (letter_ok ⟨j, hj⟩).1]
  have hnone : (∀ j : Nat, j < 36 → letter j ≠ c) → dvi b = -1 := by
    intro h; unfold dvi; rw [hbc]
    cases hd : dv c with
    | none => rfl
    | some n =>
      have hn := dv_lt hd; have := dv_ok ⟨c.toNat, c.toNat_lt⟩ ⟨n, hn⟩; simp only [UInt8.ofNat_toNat] at this; rcases this hd with h2 | h2
      · exact absurd h2 hc
      · exact absurd h2 (h n hn)
  have HL := hide hlet; have HN := hide hnone; clear hlet hnone hbc hc; have hbl := b.toNat_lt; have hcl := c.toNat_lt; go_enter Tryz.func139, Tryz.ntmps139; rcases hb with ⟨h1, h2, h3⟩ | ⟨h1, h2⟩
  · have h4 : (b.toNat : Int) + 32 = (c.toNat : Int) := h3.symm; clear h3; go_wp2_with fail
    go_loopw [3] (fun i wr => ∃ j : Nat, j ≤ 36 ∧ i = .int .i64 j ∧ (∀ k, k < j → letter k ≠ c) ∧ wr = w) (fun i _ => 36 - (intOf i).toNat)
    case atStart => exact ⟨0, by omega, rfl, fun k hk => absurd hk (by omega), rfl⟩
    case round =>
      obtain ⟨j, hj, rfl, hno, rfl⟩ := hrel; have HO := hide hno; clear hno; by_cases hjl : j < 36
      · have hi := fun w => idx_letter w .i64 j hjl; by_cases e : letter j = c
        · have hv := unhide HL j hjl e; have e2 : ((letter j).toNat : Int) = (c.toNat : Int) := by rw [e]
          have HVV := hide hv; clear hv e; go_wp2; go_ret; rw [unhide HVV]; exact ⟨rfl, rfl⟩
        · have e2 : ¬ ((letter j).toNat : Int) = (c.toNat : Int) := fun h => e (UInt8.toNat_inj.1 (by omega)); have HEE := hide e; clear e; go_wp2; go_roundw
          case rel =>
            refine ⟨j + 1, by omega, by go_num, fun k hk => ?_, by trivial⟩; by_cases ek : k = j
            · subst ek; exact unhide HEE
            · exact unhide HO k (by omega)
          case measure => simp [intOf]; omega
      · have hv := unhide HN fun k hk => unhide HO k (by omega); have HVV := hide hv; clear hv; go_wp2; go_ret; rw [unhide HVV]; exact ⟨rfl, rfl⟩
  · have h3 := h2.symm; subst h3; have h4 : (65 ≤ (c.toNat : Int) ∧ ¬ (c.toNat : Int) ≤ 90) ∨ ¬ 65 ≤ (c.toNat : Int) := by omega
    rcases h4 with ⟨h4, h5⟩ | h4
    all_goals
      go_wp2_with fail
      go_loopw [3] (fun i wr => ∃ j : Nat, j ≤ 36 ∧ i = .int .i64 j ∧ (∀ k, k < j → letter k ≠ c) ∧ wr = w) (fun i _ => 36 - (intOf i).toNat)
      case atStart => exact ⟨0, by omega, rfl, fun k hk => absurd hk (by omega), rfl⟩
      case round =>
        obtain ⟨j, hj, rfl, hno, rfl⟩ := hrel; have HO := hide hno; clear hno; by_cases hjl : j < 36
        · have hi := fun w => idx_letter w .i64 j hjl; by_cases e : letter j = c
          · have hv := unhide HL j hjl e; have e2 : ((letter j).toNat : Int) = (c.toNat : Int) := by rw [e]
            have HVV := hide hv; clear hv e; go_wp2; go_ret; rw [unhide HVV]; exact ⟨rfl, rfl⟩
          · have e2 : ¬ ((letter j).toNat : Int) = (c.toNat : Int) := fun h => e (UInt8.toNat_inj.1 (by omega)); have HEE := hide e; clear e; go_wp2; go_roundw
            case rel =>
              refine ⟨j + 1, by omega, by go_num, fun k hk => ?_, by trivial⟩; by_cases ek : k = j
              · subst ek; exact unhide HEE
              · exact unhide HO k (by omega)
            case measure => simp [intOf]; omega
        · have hv := unhide HN fun k hk => unhide HO k (by omega); have HVV := hide hv; clear hv; go_wp2; go_ret; rw [unhide HVV]; exact ⟨rfl, rfl⟩
theorem rdigit_any (b : UInt8) (w : World) : Calls Tryz.prog 139 #[B b] w fun e w' => e = .returned (.int .i64 (dvi b)) ∧ w' = w := by
  have hb := b.toNat_lt; by_cases h : 65 ≤ b.toNat ∧ b.toNat ≤ 90
  · have hc : (UInt8.ofNat (b.toNat + 32)).toNat = b.toNat + 32 := by rw [UInt8.toNat_ofNat']; omega
    have hd := dv_lower ⟨b.toNat, hb⟩ h; simp only [UInt8.ofNat_toNat] at hd; exact digit_loop b (UInt8.ofNat (b.toNat + 32)) w (by rw [hc]; omega) hd (.inl ⟨by omega, by omega, by rw [hc]; omega⟩)
  · exact digit_loop b b w h rfl (.inr ⟨by omega, rfl⟩)
end Go.Proofs.YtenlampiiodkhaaGreatDoor
namespace Go.Proofs.YtenlampiiodkhaaGreatDoor
set_option linter.unusedVariables false
open Go.RowKit
def sh (r : Int) : Nat :=
  if r < 0 ∨ 1114111 < r ∨ (55296 ≤ r ∧ r ≤ 57343) then 0 else if r < 128 then 1 else if r < 2048 then 2 else if r < 65536 then 3 else 4
theorem shortest_any (r : Int) (w : World) : Calls Tryz.prog 103 #[.int .i32 r] w fun e w' => e = .returned (.int .i64 (sh r : Int)) ∧ w' = w := by
  unfold sh; by_cases h1 : r < 0
  · rw [if_pos (.inl h1)]; go_enter Tryz.func103, Tryz.ntmps103; go_wp2; go_ret; exact ⟨rfl, rfl⟩
  · by_cases h2 : 1114111 < r
    · rw [if_pos (.inr (.inl h2))]; go_enter Tryz.func103, Tryz.ntmps103; go_wp2; go_ret; exact ⟨rfl, rfl⟩
    · by_cases h3 : 55296 ≤ r
      · by_cases h4 : r ≤ 57343
        · rw [if_pos (.inr (.inr ⟨h3, h4⟩))]; go_enter Tryz.func103, Tryz.ntmps103; go_wp2; go_ret; exact ⟨rfl, rfl⟩
        · rw [if_neg (by omega), if_neg (by omega), if_neg (by omega)]; by_cases h5 : r < 65536
          · rw [if_pos h5]; go_enter Tryz.func103, Tryz.ntmps103; go_wp2; go_ret; exact ⟨rfl, rfl⟩
          · rw [if_neg h5]; go_enter Tryz.func103, Tryz.ntmps103; go_wp2; go_ret; exact ⟨rfl, rfl⟩
      · rw [if_neg (by omega)]; by_cases h5 : r < 128
        · rw [if_pos h5]; go_enter Tryz.func103, Tryz.ntmps103; go_wp2; go_ret; exact ⟨rfl, rfl⟩
        · rw [if_neg h5]; by_cases h6 : r < 2048
          · rw [if_pos h6]; go_enter Tryz.func103, Tryz.ntmps103; go_wp2; go_ret; exact ⟨rfl, rfl⟩
          · rw [if_neg h6, if_pos (by omega)]; go_enter Tryz.func103, Tryz.ntmps103; go_wp2; go_ret; exact ⟨rfl, rfl⟩
end Go.Proofs.YtenlampiiodkhaaGreatDoor
