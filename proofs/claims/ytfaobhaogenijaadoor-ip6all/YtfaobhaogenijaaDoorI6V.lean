/-
  strconv.AppendUint at base 16, of numbers below 65536.
-/
import Derived.Test.YtfaobhaogenijaaDoorI6G
import Derived.Test.YtfaobhaogenijaaDoorI4T
namespace Go.Proofs.YtfaobhaogenijaaDoor
set_option linter.unusedVariables false
open Go.RowKit

theorem and15 (x : Nat) (h : x < 65536) : bits .and .u64 (x : Int) 15 = ((x % 16 : Nat) : Int) := by
  have e := u64_and_nat x (2 ^ 4 - 1) (by omega) (by decide)
  rw [Nat.and_two_pow_sub_one_eq_mod] at e
  exact e

set_option maxHeartbeats 4000000 in
set_option maxRecDepth 100000 in
theorem tz16 (w : World) (tb : Tb8 w) : Calls Tryd.prog 55 #[.int .u64 16] w fun e w' => e = .returned (.int .i64 4) ∧ w' = w := by
  have c0 := tb.tz
  have b1 : bits .and .u64 16 18446744073709551600 = 16 := by decide +kernel
  have b2 : IntKind.u64.wrap (-16) = 18446744073709551600 := by decide +kernel
  have b3 : IntKind.u64.wrap 4573923408821661840 = 4573923408821661840 := by decide +kernel
  go_enter Tryd.func55, Tryd.ntmps55
  go_wp2
  go_ret
  exact ⟨rfl, rfl⟩
theorem pw16 (w : World) : Calls Tryd.prog 54 #[.int .i64 16] w fun e w' => e = .returned (.bool true) ∧ w' = w := by
  have b1 : bits .and .i64 16 15 = 0 := by decide +kernel
  go_enter Tryd.func54, Tryd.ntmps54
  go_wp2
  go_ret
  exact ⟨rfl, rfl⟩
theorem arr65_len : Tryd.prog.arrayLen 84 = 65 := by kernel_rfl
theorem arr65_elem : Tryd.prog.elem 84 = 5 := by kernel_rfl
theorem arr65_und : Tryd.prog.underlying 84 = some (TypeDesc.array (Tryd.prog.arrayLen 84) (Tryd.prog.elem 84)) := by kernel_rfl
theorem arr65_size (w : World) : (sizeOf (Tryd.prog.elem 84)).run Tryd.prog w = .ok 1 w := by
  rw [arr65_elem]
  kernel_rfl
theorem arr65_from (w : World) (b n : Nat) (hn : n < 65) : (Instr.sliceAt 84 (.pointer (some ⟨b, 0, none⟩)) (some (.int .i64 (n : Int))) none none).run Tryd.prog w = .ok (.slice (some ⟨b, n, none⟩) (65 - n) (65 - n)) w := by
  rw [run_sliceAt_array_l w _ _ arr65_und .i64 (n : Int) (by omega) (by rw [arr65_len]; omega), arr65_size, arr65_len]
  show Result.ok (slicedAt ⟨b, 0, none⟩ (n : Int).toNat 65 65 1) w = _
  unfold slicedAt
  rw [Int.toNat_natCast, if_neg (by omega), Nat.mul_one, Addr.add_lit, Nat.zero_add]
/-- The library's digits. -/
def digL : List UInt8 := [48, 49, 50, 51, 52, 53, 54, 55, 56, 57, 97, 98, 99, 100, 101, 102, 103, 104, 105, 106, 107, 108, 109, 110, 111, 112, 113, 114, 115, 116, 117, 118, 119, 120, 121, 122]
theorem digL_at : ∀ d : Fin 16, digL.getD d.val 0 = hexd d.val := by decide +kernel
theorem dig_index (d : Nat) (hd : d < 16) (w : World) : (Instr.index 9 (.string ⟨#[48, 49, 50, 51, 52, 53, 54, 55, 56, 57, 97, 98, 99, 100, 101, 102, 103, 104, 105, 106, 107, 108, 109, 110, 111, 112, 113, 114, 115, 116, 117, 118, 119, 120, 121, 122]⟩) (.int .u64 (d : Int))).run Tryd.prog w = .ok (B (hexd d)) w := by
  have h := idx_str w digL .u64 d (by show d < 36; omega)
  rw [digL_at ⟨d, hd⟩] at h
  exact h
theorem row_set (j : Nat) (z x : Value) (l : List Value) : (List.replicate (j + 1) z ++ l).toArray.setIfInBounds j x = (List.replicate j z ++ x :: l).toArray := by
  rw [List.setIfInBounds_toArray]
  congr 1
  rw [List.replicate_succ', List.append_assoc, List.set_append_right j x (by simp)]
  simp
/-- The block of digits: noughts, and those that are written. -/
def Dg (w : World) (g j : Nat) (acc : List UInt8) : Prop := w.heap[g]? = some (.cells (List.replicate j (B 0) ++ acc.map B).toArray 84 (0, 0))
theorem Dg.put {w : World} {g j : Nat} {acc : List UInt8} (h : Dg w g (j + 1) acc) (x : UInt8) : Dg (w.setCell ⟨g, j, none⟩ (B x)) g j (x :: acc) := by
  unfold Dg
  rw [set_heap h, row_set]
  rfl
theorem Dg.cell {w : World} {g j : Nat} {acc : List UInt8} (h : Dg w g (j + 1) acc) : w.cell? ⟨g, j, none⟩ = some (B 0) := by
  unfold Dg at h
  simp [World.cell?, h, List.getElem?_append_left]
theorem Dg.rd {w : World} {g j : Nat} {acc : List UInt8} (h : Dg w g j acc) (hl : acc.length ≤ 100) : RdV w (some ⟨g, j, none⟩) acc.length (acc.map B) := by
  refine ⟨by rw [List.length_map]; exact Nat.le_refl _, by omega, fun e => (by cases e), fun i hi => ⟨g, j, rfl, ?_⟩⟩
  unfold Dg at h
  simp [World.cell?, h, List.getElem?_append_right]
theorem Dg.start (w : World) : Dg (w.alloc (.cells Tryd.zeroCells84 84)) w.heap.size 65 [] := by
  unfold Dg
  rw [alloc_new]
  rfl

set_option maxHeartbeats 4000000 in
set_option maxRecDepth 100000 in
theorem bits_any (B0 n u : Nat) (hu : u < 65536) (sv : Value) (xs : List Value) (w : World) (hown : w.ownsRow B0 5 1 sv n xs) (hBw : B0 ≤ w.heap.size) (hlim : n ≤ 1000) (tb : Tb8 w) :
    Calls Tryd.prog 40 #[sv, .int .u64 (u : Int), .int .i64 16, .bool false, .bool true] w fun e w' => ∃ v', e = .returned (.tuple #[v', .string ⟨#[]⟩]) ∧ w'.ownsRow B0 5 1 v' (n + (bdg 16 u).length) (xs ++ (bdg 16 u).map B) ∧ Below B0 w w' := by
  have HT := hide (fun w' hx => tz16 w' (tb.below hx))
  have HP := hide (fun w' => pw16 w')
  have ST := hide (And.intro (Dg.start w) (Ext.alloc w (.cells Tryd.zeroCells84 84)))
  clear tb
  go_enter Tryd.func40, Tryd.ntmps40
  go_wp2_with fail
  refine (unhide HP _).mono ?_
  rintro e w2 ⟨rfl, rfl⟩
  clear HP
  go_wp2_with fail
  refine (unhide HT _ (Ext.alloc _ _)).mono ?_
  rintro e w2 ⟨rfl, rfl⟩
  clear HT
  go_wp2_with fail
  generalize w.alloc (.cells Tryd.zeroCells84 84) = w1 at *
  go_loopw [1, 13] (fun x i wr => ∃ (m i' : Nat) (acc : List UInt8), x = .int .u64 (m : Int) ∧ i = .int .i64 (i' : Int) ∧ Hid (Wrt 16 u m acc) ∧ i' + acc.length = 65 ∧ m < 65536 ∧ Hid (Dg wr w.heap.size i' acc) ∧ Ext w wr) (fun x _ _ => (intOf x).toNat)
  case atStart => exact ⟨u, 65, [], rfl, rfl, Wrt.start 16 u, rfl, hu, (unhide ST).1, (unhide ST).2⟩
  case round =>
    clear ST
    obtain ⟨m, i, acc, rfl, rfl, HW, hil, hm, HD, hx⟩ := hrel
    have hlen := (unhide HW).len (by omega)
    obtain ⟨j, rfl⟩ : ∃ j, i = j + 1 := ⟨i - 1, by omega⟩
    have hj : ((j + 1 : Nat) : Int) - 1 = (j : Int) := by omega
    have hj65 : j < 65 := by omega
    have c0 := (unhide HD).cell
    have f0 : wr.frozen? ⟨w.heap.size, j, none⟩ = false := froz8 (unhide HD) j
    by_cases hm16 : m < 16
    · have hlast := (unhide HW).last (by decide) hm16
      rw [Nat.mod_eq_of_lt hm16] at hlast
      have HD2 := hide ((unhide HD).put (hexd m))
      have hx2 : Ext w (wr.setCell ⟨w.heap.size, j, none⟩ (B (hexd m))) := Below.trans hx (below_set (Nat.le_refl _))
      have hm' : ¬ (16 : Int) ≤ (m : Int) := by omega
      have hdi := dig_index m hm16
      have hsl := fun v => arr65_from v w.heap.size j hj65
      have hcl : (hexd m :: acc).length = 65 - j := by rw [List.length_cons]; omega
      have RD := (unhide HD2).rd (by rw [hcl]; omega)
      rw [hcl] at RD
      have own2 := owns_below hown hx2
      have hBs := hx2.size
      have FIN : Hid (∀ (v' : Value) (w' : World), w'.ownsRow B0 5 1 v' (n + (65 - j)) (xs ++ (hexd m :: acc).map B) → w'.ownsRow B0 5 1 v' (n + (bdg 16 u).length) (xs ++ (bdg 16 u).map B)) := fun v' w' h => by
        rw [hlast, hcl]
        exact h
      have hone : ∀ u ∈ (hexd m :: acc).map B, u.oneCell' = true := one_B _
      have hys : ((hexd m :: acc).map B).length = 65 - j := by rw [List.length_map, hcl]
      have HX2 := hide hx2
      have hlim2 : (n + (65 - j)) * (1 + 1) ≤ 140737488355328 := by omega
      have hB2 : B0 ≤ (wr.setCell ⟨w.heap.size, j, none⟩ (B (hexd m))).heap.size := by omega
      clear HW hlast hown HD HD2 hx hx2 hcl
      generalize (hexd m :: acc).map B = ys at *
      go_wp2_with (at_builtin; refine wpList_app rfl (.tmp 95) (.tmp 97) 40 5 (.int .u8 0) 1 Tryd.underlying40 infoB4 rfl rfl B0 _ _ _ rfl own2 (some ⟨w.heap.size, j, none⟩) (65 - j) (65 - j) ys rfl hys RD hone hlim2 hB2 ?_)
      intro v3 w3 o3 b3
      have O3 := hide (unhide FIN v3 w3 o3)
      have B3 := hide ((Below.mono (unhide HX2) hBw).trans b3)
      clear FIN o3 b3 RD own2
      go_wp2
      go_ret2
      exact ⟨v3, rfl, unhide O3, unhide B3⟩
    · have hm' : (16 : Int) ≤ (m : Int) := by omega
      have HW2 := hide ((unhide HW).next (by decide) hm16)
      have HD2 := hide ((unhide HD).put (hexd (m % 16)))
      have hx2 : Ext w (wr.setCell ⟨w.heap.size, j, none⟩ (B (hexd (m % 16)))) := Below.trans hx (below_set (Nat.le_refl _))
      have hdi := dig_index (m % 16) (Nat.mod_lt _ (by decide))
      have hband := and15 m hm
      have KK : Hid ((∃ (m' i' : Nat) (acc' : List UInt8), Value.int .u64 ((m : Int) / 16) = .int .u64 (m' : Int) ∧ Value.int .i64 (j : Int) = .int .i64 (i' : Int) ∧ Hid (Wrt 16 u m' acc') ∧ i' + acc'.length = 65 ∧ m' < 65536 ∧ Hid (Dg (wr.setCell ⟨w.heap.size, j, none⟩ (B (hexd (m % 16)))) w.heap.size i' acc') ∧ Ext w (wr.setCell ⟨w.heap.size, j, none⟩ (B (hexd (m % 16))))) ∧ ((m : Int) / 16).toNat < (m : Int).toNat) :=
        ⟨⟨m / 16, j, hexd (m % 16) :: acc, by simp, rfl, HW2, by rw [List.length_cons]; omega, by omega, HD2, hx2⟩, by omega⟩
      clear HW HW2 HD HD2 hown hx hx2
      generalize hexd (m % 16) = hx at *
      generalize m % 16 = d at *
      go_wp2
      exact unhide KK
end Go.Proofs.YtfaobhaogenijaaDoor
