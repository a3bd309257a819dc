/-
  Parse of package ip4.
-/
import Derived.Test.YtfaobhaogenijaaDoorI4B
import Derived.Test.YtfaobhaogenijaaDoorShelf
import Derived.Lib.AppendIntMem
namespace Go.Proofs.YtfaobhaogenijaaDoor
set_option linter.unusedVariables false
open Go.RowKit

/-- What the library's own variables hold. -/
structure Tb4 (w : World) : Prop where
  max : ∃ m : Int, w.cell? ⟨1, 0, none⟩ = some (.int .i64 m)
  pow : Lib.TabIs Tryd.prog w "internal/strconv.uint64pow10" .u64 Lib.pow10Tab
theorem Tb4.below {w w' : World} (h : Tb4 w) (hx : Ext w w') : Tb4 w' :=
  ⟨by
    obtain ⟨m, hm⟩ := h.max
    exact ⟨m, (hx.cell (p := ⟨1, 0, none⟩) (cell_lt hm)).trans hm⟩, Lib.tabBelow_of_tabIs h.pow w' hx⟩

theorem trim_any (s : List UInt8) (w : World) (hs : s.length ≤ 1000000) : Calls Tryd.prog 43 #[S s] w fun e w' => e = .returned (S (Lib.trimSuffix s [46])) ∧ w' = w := by
  have HT : Hid (Calls Tryd.prog 60 #[S s, .string ⟨#[46]⟩] w fun e w' => e = .returned (S (Lib.trimSuffix s [46])) ∧ w' = w) := Tryd.strings_TrimSuffix ⟨s.toArray⟩ ⟨#[46]⟩ w (by rw [size_S]; omega)
  generalize Lib.trimSuffix s [46] = t at *
  go_enter Tryd.func43, Tryd.ntmps43
  go_wp2_with fail
  refine (unhide HT).mono ?_
  rintro e w2 ⟨rfl, hw⟩
  subst hw
  clear HT
  go_wp2
  go_ret
  exact ⟨rfl, rfl⟩

theorem count_any (s : List UInt8) (w : World) : Calls Tryd.prog 44 #[S s, .string ⟨#[46]⟩] w fun e w' => e = .returned (.int .i64 (((pcs 46 s).length : Int) - 1)) ∧ w' = w := by
  have h := Tryd.strings_Count_one ⟨s.toArray⟩ 46 w
  have e : ((Lib.countByte (⟨s.toArray⟩ : ByteArray).data.toList 46 : Nat) : Int) = ((pcs 46 s).length : Int) - 1 := by
    have := pcs_count 46 s
    show ((Lib.countByte s 46 : Nat) : Int) = _
    omega
  rw [e] at h
  exact h
theorem split_any (s : List UInt8) (w : World) (hs : s.length ≤ 1000000) (tb : Tb4 w) : Calls Tryd.prog 45 #[S s, .string ⟨#[46]⟩] w fun e w' => ∃ b, e = .returned (.slice (some ⟨b, 0, none⟩) (pcs 46 s).length (pcs 46 s).length) ∧ RdV w' (some ⟨b, 0, none⟩) (pcs 46 s).length ((pcs 46 s).map S) ∧ Ext w w' := by
  obtain ⟨m, hm⟩ := tb.max
  have h := Tryd.strings_Split ⟨s.toArray⟩ ⟨#[46]⟩ m w (by rw [size_S]; omega) hm (by decide)
  rw [split_S, count_S] at h
  refine h.mono ?_
  rintro e w' ⟨rfl, rfl⟩
  refine ⟨w.heap.size, rfl, ?_, Ext.alloc _ _⟩
  have := RdV.lit w ((pcs 46 s).map S) 9 (0, 0) (by
    have h1 := pcs_count 46 s
    have h2 : Lib.countByte s 46 ≤ s.length := List.count_le_length
    simp
    omega)
  simpa using this

set_option maxHeartbeats 1000000 in
set_option maxRecDepth 100000 in
theorem mostOfLast_any (n : Nat) (w : World) (h1 : 1 ≤ n) (h4 : n ≤ 4) : Calls Tryd.prog 47 #[.int .i64 (n : Int)] w fun e w' => e = .returned (.int .u32 (mostL n : Int)) ∧ w' = w := by
  have hn : n = 1 ∨ n = 2 ∨ n = 3 ∨ n = 4 := by omega
  rcases hn with rfl | rfl | rfl | rfl
  all_goals
    go_enter Tryd.func47, Tryd.ntmps47
    go_wp2
    go_ret
    exact ⟨rfl, rfl⟩
set_option maxHeartbeats 1000000 in
set_option maxRecDepth 100000 in
theorem shiftOf_any (i : Nat) (w : World) (h4 : i ≤ 3) : Calls Tryd.prog 48 #[.int .i64 (i : Int)] w fun e w' => e = .returned (.int .i64 (8 * (3 - (i : Int)))) ∧ w' = w := by
  have hn : i = 0 ∨ i = 1 ∨ i = 2 ∨ i = 3 := by omega
  rcases hn with rfl | rfl | rfl | rfl
  all_goals
    go_enter Tryd.func48, Tryd.ntmps48
    go_wp2
    go_ret
    exact ⟨rfl, rfl⟩
end Go.Proofs.YtfaobhaogenijaaDoor
