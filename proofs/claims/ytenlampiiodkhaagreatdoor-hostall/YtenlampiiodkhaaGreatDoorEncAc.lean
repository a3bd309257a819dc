/-
  EncA.
-/
import Derived.Test.YtenlampiiodkhaaGreatDoorPunyNc
namespace Go.Proofs.YtenlampiiodkhaaGreatDoor
set_option linter.unusedVariables false
open Go.RowKit
def isc (z : Int) : Bool := decide (0 ≤ z) && cp z.toNat
theorem isc_iff (z : Int) : isc z = true ↔ okc z := by unfold isc okc; simp
theorem isc_val (z : Int) : isc z = (decide (0 ≤ z ∧ z < 55296) || decide (57343 < z ∧ z ≤ 1114111)) := by
  unfold isc cp; rw [Bool.eq_iff_iff]; simp; omega
set_option maxHeartbeats 1000000 in
set_option maxRecDepth 100000 in
theorem isCode_any (z : Int) (w : World) : Calls Tryz.prog 176 #[.int .i64 z] w fun e w' => e = .returned (.bool (isc z)) ∧ w' = w := by
  have fin : ∀ b : Bool, b = isc z → Ending.returned (.bool b) = .returned (.bool (isc z)) := fun b h => by rw [h]
  have FIN := hide fin; clear fin; go_enter Tryz.func176, Tryz.ntmps176; by_cases h1 : 0 ≤ z
  · by_cases h2 : z < 55296
    · go_wp2; go_ret; exact ⟨unhide FIN _ (by rw [isc_val]; simp; omega), rfl⟩
    · by_cases h3 : 57343 < z
      · by_cases h4 : z ≤ 1114111
        · go_wp2; go_ret; exact ⟨unhide FIN _ (by rw [isc_val]; simp; omega), rfl⟩
        · go_wp2; go_ret; exact ⟨unhide FIN _ (by rw [isc_val]; simp; omega), rfl⟩
      · go_wp2; go_ret; exact ⟨unhide FIN _ (by rw [isc_val]; simp; omega), rfl⟩
  · have h3 : ¬ 57343 < z := by omega
    go_wp2; go_ret; exact ⟨unhide FIN _ (by rw [isc_val]; simp; omega), rfl⟩
set_option maxHeartbeats 1000000 in
set_option maxRecDepth 100000 in
theorem areCodes_any (ao : Option Addr) (cap : Nat) (rs : List Int) (w : World) (hm : rs.length ≤ 63) (hr : ∀ r ∈ rs, -2147483648 ≤ r ∧ r ≤ 2147483647) (h : RdV w ao cap (rs.map R)) :
    Calls Tryz.prog 165 #[.slice ao rs.length cap] w fun e w' => e = .returned (.bool (rs.all isc)) ∧ w' = w := by
  have hle := h.le; have hmx := h.max; simp only [List.length_map] at hle; have fin : ∀ b : Bool, b = rs.all isc → Ending.returned (.bool b) = .returned (.bool (rs.all isc)) := fun b h => by rw [h]
  have FIN := hide fin; clear fin; go_enter Tryz.func165, Tryz.ntmps165; go_wp2_with fail
  go_loopw [7] (fun i wr => ∃ k : Nat, k ≤ rs.length ∧ i = .int .i64 k ∧ Hid (∀ r ∈ rs.take k, isc r = true) ∧ wr = w) (fun i _ => rs.length - (intOf i).toNat)
  case atStart => exact ⟨0, by omega, rfl, hide (by simp), rfl⟩
  case round =>
    obtain ⟨k, hk, rfl, HOK, hw⟩ := hrel; subst hw; by_cases hkl : k < rs.length
    · obtain ⟨b, off, rfl, hc⟩ := h.cells (by simp; omega); have c0 : wr.cell? ⟨b, off + k, none⟩ = some (.int .i32 (rs.getD k 0)) := by
        rw [hc k (by simpa using hkl), getR rs k hkl]
      clear hc; have HT := hide (take_snoc rs k 0 hkl); have HMM := hide (show rs.getD k 0 ∈ rs by simp [List.getD, hkl]); have hrg := getD_range hr k hkl; generalize rs.getD k 0 = x at *; have CC := hide (isCode_any x wr); by_cases hx : isc x = true
      · rw [hx] at CC; go_wp2_with fail
        refine (unhide CC).mono ?_; rintro e w2 ⟨rfl, hw⟩; subst hw; clear CC; have HOK2 : Hid (∀ r ∈ rs.take (k + 1), isc r = true) := by
          show ∀ r ∈ rs.take (k + 1), isc r = true; rw [unhide HT]; intro r hr; rcases List.mem_append.1 hr with hr | hr
          · exact unhide HOK r hr
          · rw [List.mem_singleton] at hr; rw [hr]; exact hx
        clear HOK HT HMM; go_wp2; exact ⟨⟨k + 1, by omega, by simp, HOK2, by first | rfl | trivial⟩, (show rs.length - ((k : Int) + 1).toNat < rs.length - ((k : Int)).toNat by omega)⟩
      · have hx' : isc x = false := by simpa using hx
        rw [hx'] at CC; go_wp2_with fail
        refine (unhide CC).mono ?_; rintro e w2 ⟨rfl, hw⟩; subst hw; clear CC; have hF : rs.all isc = false := by
          rw [Bool.eq_false_iff]; intro hall; exact hx (List.all_eq_true.1 hall x (unhide HMM))
        have HF := hide hF; clear hF HOK HT HMM; go_wp2; go_ret; exact ⟨unhide FIN _ (unhide HF).symm, rfl⟩
    · have hok := unhide HOK; rw [List.take_of_length_le (by omega)] at hok; go_wp2; go_ret; exact ⟨unhide FIN _ (List.all_eq_true.2 hok).symm, rfl⟩
set_option maxHeartbeats 1000000 in
set_option maxRecDepth 100000 in
theorem plain_any (ao : Option Addr) (cap : Nat) (rs : List Int) (w : World) (hm : rs.length ≤ 63) (hok : ∀ r ∈ rs, okc r) (h : RdV w ao cap (rs.map R)) :
    Calls Tryz.prog 166 #[.slice ao rs.length cap] w fun e w' => ∃ v, e = .returned v ∧ w'.ownsRow w.heap.size 5 1 v (low rs).length ((low rs).map B) ∧ Ext w w' := by
  have hle := h.le; have hmx := h.max; simp only [List.length_map] at hle; have HOK := hide hok; clear hok; go_enter Tryz.func166, Tryz.ntmps166; go_wp2_with fail
  go_loopw [3, 8] (fun o i wr => ∃ k : Nat, k ≤ rs.length ∧ i = .int .i64 k ∧ wr.ownsRow w.heap.size 5 1 o (low (rs.take k)).length ((low (rs.take k)).map B) ∧ Below w.heap.size w wr) (fun _ i _ => rs.length - (intOf i).toNat)
  case atStart => exact ⟨0, by omega, rfl, World.ownsRow_nil _ _ _ _, Below.refl _ _⟩
  case round =>
    obtain ⟨k, hk, rfl, ownr, hbr⟩ := hrel; by_cases hkl : k < rs.length
    · obtain ⟨b, off, rfl, hc⟩ := h.cells (by simp; omega); have c0 : wr.cell? ⟨b, off + k, none⟩ = some (.int .i32 (rs.getD k 0)) := by
        have := hc k (by simpa using hkl); rw [getR rs k hkl] at this; rw [← this]; exact hbr.cell (p := ⟨b, off + k, none⟩) (cell_lt this)
      clear hc; have hx := unhide HOK (rs.getD k 0) (by simp [List.getD, hkl]); have hT := take_snoc rs k 0 hkl; have hL := low_len (rs.take k); rw [List.length_take, Nat.min_eq_left hk] at hL; generalize rs.getD k 0 = x at *; have HL2 : Hid (low (rs.take (k + 1)) = low (rs.take k) ++ (if x.toNat < 128 then [UInt8.ofNat x.toNat] else [])) := by rw [hT]; exact hide (low_snoc _ _)
      clear hT; generalize low (rs.take k) = out at *; obtain ⟨hx0, hx1⟩ := hx; have hx2 := cp_le hx1; clear hx1; by_cases hx128 : x < 128
      · rw [if_pos (by omega)] at HL2; have wq : IntKind.u8.wrap x = x := by simp [IntKind.wrap, IntKind.bits, IntKind.signed]; omega
        have eB : B (UInt8.ofNat x.toNat) = .int .u8 x := by
          unfold B; congr 1; rw [UInt8.toNat_ofNat']; omega
        have RL := RdV.lit wr [.int .u8 x] 5 (0, 0) (by simp); have own2 := owns_below ownr (Ext.alloc wr (.cells #[.int .u8 x] 5 (0, 0))); have hb2 : Below w.heap.size w (wr.alloc (.cells #[.int .u8 x] 5 (0, 0))) := hbr.trans (Below.mono (Ext.alloc wr _) hbr.size); have hbase2 := hb2.size; have hone : ∀ u ∈ [Value.int .u8 x], u.oneCell' = true := by simp [Value.oneCell']
        have EB := hide eB; clear ownr hbr eB; go_wp2_with (at_builtin; refine wpList_app rfl (.tmp 14) (.tmp 17) 22 5 (.int .u8 0) 1 Tryz.underlying22 infoB rfl rfl w.heap.size _ _ _ rfl own2 _ _ _ [.int .u8 x] rfl rfl RL hone (by omega) hbase2 ?_)
        intro v2 w2 o2 b2; have hb3 := hb2.trans b2; have own3 : w2.ownsRow w.heap.size 5 1 v2 (low (rs.take (k + 1))).length ((low (rs.take (k + 1))).map B) := by
          rw [unhide HL2, List.length_append, List.map_append, List.map_singleton, unhide EB]; exact o2
        clear own2 RL hone o2 b2 hb2 hbase2 HL2 EB; go_wp2; exact ⟨⟨k + 1, by omega, by simp, own3, hb3⟩, (show rs.length - ((k : Int) + 1).toNat < rs.length - ((k : Int)).toNat by omega)⟩
      · rw [if_neg (by omega), List.append_nil] at HL2; rw [← unhide HL2] at ownr; clear HL2; go_wp2; exact ⟨⟨k + 1, by omega, by simp, ownr, hbr⟩, (show rs.length - ((k : Int) + 1).toNat < rs.length - ((k : Int)).toNat by omega)⟩
    · rw [List.take_of_length_le (by omega)] at ownr; go_wp2; go_ret; exact ⟨_, rfl, ownr, hbr⟩
set_option maxHeartbeats 400000 in
theorem threshold_any (at' bias : Nat) (w : World) (hk : at' ≤ 1000000000) (hb : bias ≤ 1000000000000) : Calls Tryz.prog 198 #[.int .i64 (at' : Int), .int .i64 (bias : Int)] w fun e w' => e = .returned (.int .i64 (thr (36 * at' + 36) bias : Int)) ∧ w' = w := by
  rw [thr_int]; go_enter Tryz.func198, Tryz.ntmps198; go_wp2
  all_goals
    go_ret; exact ⟨by simp <;> omega, rfl⟩
set_option maxHeartbeats 800000 in
theorem padapt_any (delta points : Nat) (first : Bool) (w : World) (hd : delta ≤ 1152921504606846976) (hp : 1 ≤ points) (hp2 : points ≤ 1000000) : Calls Tryz.prog 199 #[.int .i64 (delta : Int), .int .i64 (points : Int), .bool first] w fun e w' => e = .returned (.int .i64 (adp delta points first : Int)) ∧ w' = w := by
  unfold adp
  cases first
  · simp only [Bool.false_eq_true, if_false]; have f1 : ∃ d0 : Nat, Hid (d0 = delta / 2) ∧ (delta : Int) / 2 = (d0 : Int) ∧ d0 ≤ delta := ⟨delta / 2, hide rfl, by simp, Nat.div_le_self _ _⟩; obtain ⟨d0, E0, g0, l0⟩ := f1; have f2 : ∃ q : Nat, Hid (q = d0 / points) ∧ (d0 : Int) / (points : Int) = (q : Int) ∧ q ≤ d0 := ⟨d0 / points, hide rfl, by simp, Nat.div_le_self _ _⟩; obtain ⟨q, E1, g1, l1⟩ := f2; have eF : adLoop 64 (delta / 2 + delta / 2 / points) 0 = adLoop 64 (d0 + q) 0 := by rw [unhide E1, unhide E0]
    obtain ⟨D, ED⟩ : ∃ D, Hid (D = d0 + q) := ⟨_, hide rfl⟩; rw [eF, ← unhide ED]; clear eF E0 E1; go_enter Tryz.func199, Tryz.ntmps199; go_wp2_with fail
    have hD2 : D ≤ 2305843009213693952 := by have := unhide ED; omega
    have hD := hide (show D < 456 * 35 ^ 64 from Nat.lt_of_le_of_lt hD2 (by decide)); rw [show ((d0 : Int) + (q : Int)) = (D : Int) by have := unhide ED; omega]; clear g0 g1 l0 l1 ED
    go_loopw [0, 7] (fun v k wr => ∃ (f d n : Nat), v = .int .i64 (d : Int) ∧ k = .int .i64 (n : Int) ∧ adLoop f d n = adLoop 64 D 0 ∧ d < 456 * 35 ^ f ∧ d ≤ 2305843009213693952 ∧ n + 36 * f ≤ 2304 ∧ wr = w) (fun v _ _ => (intOf v).toNat)
    case atStart => exact ⟨64, D, 0, rfl, rfl, rfl, unhide hD, hD2, by omega, rfl⟩
    case round =>
      clear hD hD2; obtain ⟨f, d, n, rfl, rfl, hv, hb, hd2, hn, rfl⟩ := hrel; have HV := hide hv; have HBB := hide hb; clear hv hb; by_cases c : 455 < d
      · cases f with
        | zero =>
          have := unhide HBB; omega
        | succ f =>
          have hb := unhide HBB; have hb2 : d / 35 < 456 * 35 ^ f := by
            rw [Nat.div_lt_iff_lt_mul (by omega), Nat.mul_assoc, ← Nat.pow_succ]; exact hb
          have hd3 : d / 35 ≤ d := Nat.div_le_self _ _; have hd4 : d / 35 < d := by omega
          have HB := hide hb2; clear hb hb2 HBB; go_wp2; go_roundw
          case rel => exact ⟨f, d / 35, n + 36, by go_num, by go_num, by rw [← adLoop_more f d n c]; exact unhide HV, unhide HB, by omega, by omega, by trivial⟩
          case measure => simp [intOf]; omega
      · have e := unhide HV; rw [adLoop_end f d n c] at e; have f3 : ∃ z : Nat, Hid (z = 36 * d / (d + 38)) ∧ (36 * (d : Int)) / ((d : Int) + 38) = (z : Int) ∧ z ≤ 36 * d := ⟨36 * d / (d + 38), hide rfl, by simp, Nat.div_le_self _ _⟩; obtain ⟨z, E2, g2, l2⟩ := f3; rw [← unhide E2] at e; have HE := hide e; clear e HV HBB E2; go_wp2; go_ret; rw [← unhide HE]; exact ⟨by simp, rfl⟩
  · simp only [if_true]; have f1 : ∃ d0 : Nat, Hid (d0 = delta / 700) ∧ (delta : Int) / 700 = (d0 : Int) ∧ d0 ≤ delta := ⟨delta / 700, hide rfl, by simp, Nat.div_le_self _ _⟩; obtain ⟨d0, E0, g0, l0⟩ := f1; have f2 : ∃ q : Nat, Hid (q = d0 / points) ∧ (d0 : Int) / (points : Int) = (q : Int) ∧ q ≤ d0 := ⟨d0 / points, hide rfl, by simp, Nat.div_le_self _ _⟩; obtain ⟨q, E1, g1, l1⟩ := f2; have eF : adLoop 64 (delta / 700 + delta / 700 / points) 0 = adLoop 64 (d0 + q) 0 := by rw [unhide E1, unhide E0]
    obtain ⟨D, ED⟩ : ∃ D, Hid (D = d0 + q) := ⟨_, hide rfl⟩; rw [eF, ← unhide ED]; clear eF E0 E1; go_enter Tryz.func199, Tryz.ntmps199; go_wp2_with fail
    have hD2 : D ≤ 2305843009213693952 := by have := unhide ED; omega
    have hD := hide (show D < 456 * 35 ^ 64 from Nat.lt_of_le_of_lt hD2 (by decide)); rw [show ((d0 : Int) + (q : Int)) = (D : Int) by have := unhide ED; omega]; clear g0 g1 l0 l1 ED
    go_loopw [0, 7] (fun v k wr => ∃ (f d n : Nat), v = .int .i64 (d : Int) ∧ k = .int .i64 (n : Int) ∧ adLoop f d n = adLoop 64 D 0 ∧ d < 456 * 35 ^ f ∧ d ≤ 2305843009213693952 ∧ n + 36 * f ≤ 2304 ∧ wr = w) (fun v _ _ => (intOf v).toNat)
    case atStart => exact ⟨64, D, 0, rfl, rfl, rfl, unhide hD, hD2, by omega, rfl⟩
    case round =>
      clear hD hD2; obtain ⟨f, d, n, rfl, rfl, hv, hb, hd2, hn, rfl⟩ := hrel; have HV := hide hv; have HBB := hide hb; clear hv hb; by_cases c : 455 < d
      · cases f with
        | zero =>
          have := unhide HBB; omega
        | succ f =>
          have hb := unhide HBB; have hb2 : d / 35 < 456 * 35 ^ f := by
            rw [Nat.div_lt_iff_lt_mul (by omega), Nat.mul_assoc, ← Nat.pow_succ]; exact hb
          have hd3 : d / 35 ≤ d := Nat.div_le_self _ _; have hd4 : d / 35 < d := by omega
          have HB := hide hb2; clear hb hb2 HBB; go_wp2; go_roundw
          case rel => exact ⟨f, d / 35, n + 36, by go_num, by go_num, by rw [← adLoop_more f d n c]; exact unhide HV, unhide HB, by omega, by omega, by trivial⟩
          case measure => simp [intOf]; omega
      · have e := unhide HV; rw [adLoop_end f d n c] at e; have f3 : ∃ z : Nat, Hid (z = 36 * d / (d + 38)) ∧ (36 * (d : Int)) / ((d : Int) + 38) = (z : Int) ∧ z ≤ 36 * d := ⟨36 * d / (d + 38), hide rfl, by simp, Nat.div_le_self _ _⟩; obtain ⟨z, E2, g2, l2⟩ := f3; rw [← unhide E2] at e; have HE := hide e; clear e HV HBB E2; go_wp2; go_ret; rw [← unhide HE]; exact ⟨by simp, rfl⟩
set_option maxHeartbeats 1000000 in
set_option maxRecDepth 100000 in
theorem placeOf_any (ns : List Nat) (ao : Option Addr) (cap p : Nat) (w : World) (hm : ns.length ≤ 63) (hp : p < ns.length) (h : RdV w ao cap (ns.map fun (x : Nat) => R (x : Int))) :
    Calls Tryz.prog 170 #[.slice ao ns.length cap, .int .i64 (p : Int)] w fun e w' => e = .returned (.int .i64 (((ns.take p).countP fun x => decide (x ≤ ns.getD p 0) : Nat) : Int)) ∧ w' = w := by
  have hle := h.le; have hmx := h.max; simp only [List.length_map] at hle; obtain ⟨b, off, rfl, hc⟩ := h.cells (by simp; omega); have HC : Hid (∀ j, j < ns.length → w.cell? ⟨b, off + j, none⟩ = some (.int .i32 ((ns.getD j 0 : Nat) : Int))) := fun j hj => by
    rw [hc j (by simpa using hj)]; simp [List.getD, hj]
  clear hc h; have c1 := unhide HC p hp; have hcap : cap ≠ 0 := by omega
  generalize ns.getD p 0 = Y at *; go_enter Tryz.func170, Tryz.ntmps170; go_wp2_with fail
  go_loopw [5, 12] (fun c i wr => ∃ k : Nat, k ≤ p ∧ i = .int .i64 k ∧ c = .int .i64 (((ns.take k).countP fun x => decide (x ≤ Y) : Nat) : Int) ∧ wr = w) (fun _ i _ => p - (intOf i).toNat)
  case atStart => exact ⟨0, by omega, rfl, rfl, rfl⟩
  case round =>
    obtain ⟨k, hk, rfl, rfl, hw⟩ := hrel; subst hw; by_cases hkp : k < p
    · have c0 := unhide HC k (by omega); have hcl : (ns.take k).countP (fun x => decide (x ≤ Y)) ≤ k := Nat.le_trans (List.countP_le_length) (by simp; omega); have HS : Hid ((ns.take (k + 1)).countP (fun x => decide (x ≤ Y)) = (ns.take k).countP (fun x => decide (x ≤ Y)) + (if ns.getD k 0 ≤ Y then 1 else 0)) := by
        rw [take_snoc ns k 0 (by omega), List.countP_append]; simp [List.countP_cons]; exact hide trivial
      generalize (ns.take k).countP (fun x => decide (x ≤ Y)) = q at *; by_cases hx : ns.getD k 0 ≤ Y
      · rw [if_pos hx] at HS; have hx' : ((ns.getD k 0 : Nat) : Int) ≤ (Y : Int) := by omega
        generalize ns.getD k 0 = X at *; go_wp2; exact ⟨⟨k + 1, by omega, by simp, by rw [unhide HS]; simp, by first | rfl | trivial⟩, (show p - ((k : Int) + 1).toNat < p - ((k : Int)).toNat by omega)⟩
      · rw [if_neg hx] at HS; have hx' : ¬ ((ns.getD k 0 : Nat) : Int) ≤ (Y : Int) := by omega
        generalize ns.getD k 0 = X at *; go_wp2; exact ⟨⟨k + 1, by omega, by simp, by rw [unhide HS]; simp, by first | rfl | trivial⟩, (show p - ((k : Int) + 1).toNat < p - ((k : Int)).toNat by omega)⟩
    · have e : k = p := by omega
      subst e; go_wp2; go_ret; exact ⟨rfl, rfl⟩
end Go.Proofs.YtenlampiiodkhaaGreatDoor
