/-
  That domain does something; a name is its own name.
-/
import Derived.Test.YtenlampiiodkhaaGreatDoorDmJm
namespace Go.Proofs.YtenlampiiodkhaaGreatDoor
set_option linter.unusedVariables false
open Go.RowKit

/-- What is asked of the variables: fold's tables, and some int in the library's own. -/
structure Tb6 (w : World) : Prop where
  tab : Tabs w
  max : MaxL w
theorem Tb6.below {w w' : World} (h : Tb6 w) (hx : Ext w w') : Tb6 w' := ⟨h.tab.below hx, h.max.below hx⟩

theorem nam_b1 : nam [66, 195, 156, 67, 72, 69, 82, 46, 100, 101] = some [120, 110, 45, 45, 98, 99, 104, 101, 114, 45, 107, 118, 97, 46, 100, 101] := by decide +kernel
theorem nam_b2 : nam [97, 32, 98] = none := by decide +kernel
theorem ascii_lit (b : List UInt8) (o : Option (List UInt8)) (h : nam b = o) (ao : Option Addr) (l cap : Nat) (w : World) (hl : b.length = l) (hr : RdV w ao cap (b.map B)) (tb : Tabs w) :
    Calls Tryz.prog 9 #[.slice ao l cap] w fun e w' => e = .returned (.tuple #[S (nS o), .int .i64 (nE o)]) ∧ Ext w w' := by
  rw [← h]
  exact ascii_any ao l cap b w hl hr tb
theorem ascii_new (b : List UInt8) (o : Option (List UInt8)) (h : nam b = o) (w : World) (tb : Tabs w) (hm : b.length ≤ 1000) :
    Calls Tryz.prog 9 #[.slice (some ⟨w.heap.size, 0, none⟩) b.length b.length] (w.alloc (.cells (b.map B).toArray 5 (b.length, b.length + 1))) fun e w' => e = .returned (.tuple #[S (nS o), .int .i64 (nE o)]) ∧ Ext w w' := by
  have hr := RdV.lit w (b.map B) 5 (b.length, b.length + 1) (by simp; omega)
  rw [List.length_map] at hr
  have hx := Ext.alloc w (.cells (b.map B).toArray 5 (b.length, b.length + 1))
  exact (ascii_lit b o h _ _ _ _ rfl hr (tb.below hx)).mono fun e w' ⟨he, hy⟩ => ⟨he, hx.trans hy⟩

set_option maxHeartbeats 1000000 in
set_option maxRecDepth 100000 in
theorem begun_yes (w : World) (tb : Tb6 w) : Calls Tryz.prog 8 #[] w fun e w' => e = .returned (.bool true) ∧ Ext w w' := by
  have H1 : Hid (Calls Tryz.prog 9 #[.slice (some ⟨w.heap.size, 0, none⟩) 10 10] (w.alloc (.cells #[.int .u8 66, .int .u8 195, .int .u8 156, .int .u8 67, .int .u8 72, .int .u8 69, .int .u8 82, .int .u8 46, .int .u8 100, .int .u8 101] 5 (10, 11))) fun e w' => e = .returned (.tuple #[.string ⟨#[120, 110, 45, 45, 98, 99, 104, 101, 114, 45, 107, 118, 97, 46, 100, 101]⟩, .int .i64 0]) ∧ Ext w w') := ascii_new _ _ nam_b1 w tb.tab (by decide)
  have H2 : Hid (∀ v, Ext w v → Calls Tryz.prog 9 #[.slice (some ⟨v.heap.size, 0, none⟩) 3 3] (v.alloc (.cells #[.int .u8 97, .int .u8 32, .int .u8 98] 5 (3, 4))) fun e w' => e = .returned (.tuple #[.string ⟨#[]⟩, .int .i64 5]) ∧ Ext v w') := fun v hv => ascii_new _ _ nam_b2 v (tb.tab.below hv) (by decide)
  have H3 : Hid (∀ v, Ext w v → Calls Tryz.prog 12 #[.string ⟨#[97, 46, 98]⟩] v fun e w' => ∃ g cap, e = .returned (.slice (some ⟨g, 0, none⟩) 2 cap) ∧ 2 ≤ cap ∧ cap ≤ 9223372036854775807 ∧ Ext v w') := fun v hv => (labels_any [97, 46, 98] v (by decide) (tb.max.below hv)).mono fun e w' ⟨g, cap, he, hr, hx⟩ => ⟨g, cap, he, by have h2 := hr.le; rw [List.length_map] at h2; exact h2, hr.max, hx⟩
  have kc := fun (w : World) (C : Array Value) (n c : Nat) => Lib.run_convert_bytes_const (P := Tryz.prog) w 22 5 C n c Tryz.underlying22 Tryz.underlying5
  go_enter Tryz.func8, Tryz.ntmps8
  go_wp2_with fail
  refine (unhide H1).mono ?_
  rintro e w1 ⟨rfl, hx1⟩
  clear H1
  have H2' := hide (unhide H2 w1 hx1)
  clear H2
  go_wp2_with fail
  refine (unhide H2').mono ?_
  rintro e w2 ⟨rfl, hy⟩
  have hx2 := hx1.trans hy
  clear hy H2'
  go_wp2_with fail
  refine (unhide H3 _ hx2).mono ?_
  rintro e w3 ⟨g, cap, rfl, hc1, hc2, hy⟩
  have hx3 := hx2.trans hy
  clear hy H3
  go_wp2
  go_ret
  exact ⟨rfl, hx3⟩
end Go.Proofs.YtenlampiiodkhaaGreatDoor
