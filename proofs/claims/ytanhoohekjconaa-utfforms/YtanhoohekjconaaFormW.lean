/-
  The walk of UtfForms.
-/
import Derived.Test.YtanhoohekjconaaOp3
namespace Go.Proofs.Ytanhoohekjconaa
set_option linter.unusedVariables false
open Go.RowKit

def goods : List (List UInt8) := [[0], [127], [194, 128], [223, 191], [224, 160, 128], [237, 159, 191], [238, 128, 128], [239, 191, 191], [240, 144, 128, 128], [244, 143, 191, 191]]
def bads : List (List UInt8) := [[128], [192, 128], [193, 191], [194], [224, 159, 191], [237, 160, 128], [240, 143, 191, 191], [244, 144, 128, 128], [248, 136, 128, 128, 128], [255]]

theorem goods_ok : ∀ k : Fin 10, vld (goods.getD k.val []) = true ∧ (dec (goods.getD k.val [])).length = 1 ∧ (goods.getD k.val []).length ≤ 5 := by decide +kernel
theorem bads_ok : ∀ k : Fin 10, vld (bads.getD k.val []) = false ∧ (dec (bads.getD k.val [])).length = (bads.getD k.val []).length ∧ (dec (bads.getD k.val [])).getD 0 0 = 65533 ∧ 1 ≤ (bads.getD k.val []).length ∧ (bads.getD k.val []).length ≤ 5 := by decide +kernel

abbrev S (bs : List UInt8) : Value := .string ⟨bs.toArray⟩

/-- []byte(s). -/
theorem conv_bytes (w : World) (bs : List UInt8) (hm : bs.length ≤ 1000000) : ∃ c w', (convert 9 22 (S bs)).run Try.prog w = .ok (.slice (some ⟨w.heap.size, 0, none⟩) bs.length c) w' ∧ RdV w' (some ⟨w.heap.size, 0, none⟩) c (bs.map B) ∧ Ext w w' := by
  have hr := run_bytes_of_string (P := Try.prog) w 9 22 5 ⟨bs.toArray⟩ Try.underlying9 Try.underlying22 Try.underlying5
  have hsz : (⟨bs.toArray⟩ : ByteArray).size = bs.length := by simp [ByteArray.size]
  rw [hsz] at hr
  have hle := grownCap_ge w bs.length 0 5
  have hmx := grownCap_le_maxLen w bs.length 0 5 (by unfold maxLen; omega)
  refine ⟨_, _, hr, ⟨by simpa using hle, by unfold maxLen at hmx; omega, fun e => (by cases e), fun i hi => ⟨w.heap.size, 0, rfl, ?_⟩⟩, (Ext.drew w).trans (Ext.alloc w.drew _)⟩
  have hi' : i < bs.length := by simpa using hi
  rw [Nat.zero_add]
  have e : w.heap.size = w.drew.heap.size := rfl
  rw [e, World.cell?_alloc_mark]
  unfold bytesRow
  rw [Array.getElem?_append_left (by simp; omega)]
  simp [B, hi']

def wG (w : World) : World := w.alloc (.cells #[.string ⟨#[0]⟩, .string ⟨#[127]⟩, .string ⟨#[194, 128]⟩, .string ⟨#[223, 191]⟩, .string ⟨#[224, 160, 128]⟩, .string ⟨#[237, 159, 191]⟩, .string ⟨#[238, 128, 128]⟩, .string ⟨#[239, 191, 191]⟩, .string ⟨#[240, 144, 128, 128]⟩, .string ⟨#[244, 143, 191, 191]⟩] 9)
def wB (w : World) : World := (wG w).alloc (.cells #[.string ⟨#[128]⟩, .string ⟨#[192, 128]⟩, .string ⟨#[193, 191]⟩, .string ⟨#[194]⟩, .string ⟨#[224, 159, 191]⟩, .string ⟨#[237, 160, 128]⟩, .string ⟨#[240, 143, 191, 191]⟩, .string ⟨#[244, 144, 128, 128]⟩, .string ⟨#[248, 136, 128, 128, 128]⟩, .string ⟨#[255]⟩] 9)

theorem rd_goods (w : World) : RdV (wB w) (some ⟨w.heap.size, 0, none⟩) 10 (goods.map S) := (RdV.lit w (goods.map S) 9 (0, 0) (show 10 ≤ 9223372036854775807 by omega)).below (Ext.alloc (wG w) _)
theorem rd_bads (w : World) : RdV (wB w) (some ⟨w.heap.size + 1, 0, none⟩) 10 (bads.map S) := by
  have h := RdV.lit (wG w) (bads.map S) 9 (0, 0) (show 10 ≤ 9223372036854775807 by omega)
  have e : (wG w).heap.size = w.heap.size + 1 := by show (w.heap.push _).size = _; simp
  rw [e] at h
  exact h
theorem ext_wB (w : World) : Ext w (wB w) := (Ext.alloc w _).trans (Ext.alloc (wG w) _)

theorem strs_cell {w : World} {g : Nat} {ls : List (List UInt8)} (h : RdV w (some ⟨g, 0, none⟩) 10 (ls.map S)) (hl : ls.length = 10) (k : Nat) (hk : k < 10) : w.cell? ⟨g, k, none⟩ = some (.string ⟨(ls.getD k []).toArray⟩) := by
  obtain ⟨b, off, e, hc⟩ := h.cells (by simp; omega)
  simp only [Option.some.injEq, Addr.mk.injEq] at e
  obtain ⟨rfl, rfl, _⟩ := e
  have := hc k (by simp; omega)
  rw [Nat.zero_add] at this
  rw [this]
  simp [S, List.getD, hl, hk]

set_option maxHeartbeats 2000000 in
theorem forms_walk (w : World) : Calls Try.prog 7 #[] w fun e w' => e = .returned (.bool true) ∧ Ext w w' := by
  go_enter Try.func7, Try.ntmps7
  go_wp2_with fail
  refine (begun_yes _).mono ?_
  rintro e w1 ⟨rfl, hx1⟩
  go_wp2_with fail
  have hG := rd_goods w1
  have hB := rd_bads w1
  have hxB := hx1.trans (ext_wB w1)
  change Code.wp _ _ _ _ (wB w1)
  generalize wB w1 = wL at *
  generalize w1.heap.size = g at *
  clear hx1
  go_loopw [3] (fun i wr => ∃ k : Nat, k ≤ 10 ∧ i = .int .i64 k ∧ Ext wL wr) (fun i _ => 10 - (intOf i).toNat)
  case atStart => exact ⟨0, by omega, rfl, Ext.refl _⟩
  case round =>
    obtain ⟨k, hk, rfl, hxr⟩ := hrel
    by_cases hkl : k < 10
    · have hc := strs_cell (hG.below hxr) rfl k hkl
      obtain ⟨f1, f2, f3⟩ := goods_ok ⟨k, hkl⟩
      simp only at f1 f2 f3
      generalize goods.getD k [] = s at *
      obtain ⟨c1, w2, hcv, hr2, hx2⟩ := conv_bytes wr s (by omega)
      go_wp2_with fail
      refine (valid_any _ _ c1 s w2 rfl hr2).mono ?_
      rw [f1]
      rintro e w3 ⟨rfl, n3, hw3⟩
      have hx3 : Ext wL w3 := by rw [hw3]; exact (hxr.trans hx2).trans (Ext.drewN w2 n3)
      have hc3 : w3.cell? ⟨g, k, none⟩ = some (.string ⟨s.toArray⟩) := by
        rw [← hc]
        refine Below.cell (B := wr.heap.size) (p := ⟨g, k, none⟩) ?_ (cell_lt hc)
        rw [hw3]
        exact hx2.trans (Ext.drewN w2 n3)
      clear hw3 hr2 hx2 hcv hc
      obtain ⟨c4, w4, hcv4, hr4, hx4⟩ := conv_bytes w3 s (by omega)
      go_wp2_with fail
      refine (decode_any _ _ c4 s w4 rfl (by omega) hr4).mono ?_
      rintro e w5 ⟨zo, cz, rfl, hr5, hx5⟩
      have hx6 := (hx3.trans hx4).trans hx5
      rw [List.length_map, f2]
      clear hx3 hx4 hx5 hcv4 hr4 hc3 hr5
      go_wp2
      go_roundw
      case rel => exact ⟨k + 1, by omega, by go_num, hx6⟩
      case measure => simp [intOf]; omega
    · go_wp2
      go_loopw [4, 5] (fun i _ wr => ∃ k : Nat, k ≤ 10 ∧ i = .int .i64 k ∧ Ext wL wr) (fun i _ _ => 10 - (intOf i).toNat)
      case atStart => exact ⟨0, by omega, rfl, hxr⟩
      case round =>
        clear hxr hk hkl
        obtain ⟨k, hk, rfl, hxr⟩ := hrel
        by_cases hkl : k < 10
        · have hc := strs_cell (hB.below hxr) rfl k hkl
          obtain ⟨f1, f2, f3, f4, f5⟩ := bads_ok ⟨k, hkl⟩
          simp only at f1 f2 f3 f4 f5
          generalize bads.getD k [] = s at *
          obtain ⟨c1, w2, hcv, hr2, hx2⟩ := conv_bytes wr s (by omega)
          go_wp2_with fail
          refine (decode_any _ _ c1 s w2 rfl (by omega) hr2).mono ?_
          rintro e w3 ⟨zo, cz, rfl, hr3, hx3⟩
          have hy3 := hx2.trans hx3
          have hc3 : w3.cell? ⟨g + 1, k, none⟩ = some (.string ⟨s.toArray⟩) := by
            rw [← hc]
            exact hy3.cell (p := ⟨g + 1, k, none⟩) (cell_lt hc)
          have hx4 := hxr.trans hy3
          clear hy3 hx3 hx2 hr2 hcv hc hxr
          have hmx3 := hr3.max
          have hle3 := hr3.le
          obtain ⟨zb, zf, rfl, hzc⟩ := hr3.cells (by simp; omega)
          have hz0 : w3.cell? ⟨zb, zf, none⟩ = some (.int .i32 65533) := by
            have := hzc 0 (by simp; omega)
            rw [Nat.add_zero] at this
            rw [this, getR _ 0 (by omega), f3]
          rw [List.length_map, f2]
          rw [List.length_map, f2] at hle3
          clear hzc hr3
          obtain ⟨c5, w5, hcv5, hr5, hx5⟩ := conv_bytes w3 s (by omega)
          go_wp2_with fail
          refine (valid_any _ _ c5 s w5 rfl hr5).mono ?_
          rw [f1]
          rintro e w6 ⟨rfl, n6, hw6⟩
          have hx6 : Ext w3 w6 := by rw [hw6]; exact hx5.trans (Ext.drewN w5 n6)
          have hc6 : w6.cell? ⟨g + 1, k, none⟩ = some (.string ⟨s.toArray⟩) := by
            rw [← hc3]
            exact hx6.cell (p := ⟨g + 1, k, none⟩) (cell_lt hc3)
          have hz6 : w6.cell? ⟨zb, zf, none⟩ = some (.int .i32 65533) := by
            rw [← hz0]
            exact hx6.cell (p := ⟨zb, zf, none⟩) (cell_lt hz0)
          have hx7 := hx4.trans hx6
          clear hw6 hx6 hx5 hr5 hcv5 hc3 hz0 hx4
          go_wp2
          go_roundw
          case rel => exact ⟨k + 1, by omega, by go_num, hx7⟩
          case measure => simp [intOf]; omega
        · go_wp2_with fail
          refine (valid_any none 0 0 [] _ rfl (RdV.nothing _)).mono ?_
          rw [vld_nil]
          rintro e w6 ⟨rfl, n6, hw6⟩
          have hx6 : Ext w w6 := by rw [hw6]; exact (hxB.trans hxr).trans (Ext.drewN _ n6)
          clear hw6
          go_wp2_with fail
          refine (encode_any none 0 0 [] _ rfl (by omega) (RdV.nothing _)).mono ?_
          rintro e w7 ⟨eo, ce, rfl, hr7, hx7⟩
          have hx8 := hx6.trans hx7
          go_wp2
          go_ret
          exact ⟨rfl, hx8⟩
end Go.Proofs.Ytanhoohekjconaa
