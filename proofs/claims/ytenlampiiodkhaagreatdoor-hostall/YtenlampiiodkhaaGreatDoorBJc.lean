/-
  DmJ, DmK0.
-/
import Derived.Test.YtenlampiiodkhaaGreatDoorBGc
import Derived.Test.YtenlampiiodkhaaGreatDoorPcsc
import Derived.Laws.OwnMore
import Derived.Laws.IdiomStrings
namespace Go.Proofs.YtenlampiiodkhaaGreatDoor
set_option linter.unusedVariables false
open Go.RowKit
theorem conv_bytes (w : World) (bs : List UInt8) (hm : bs.length ≤ 1000000) : ∃ c w', (convert 9 22 (S bs)).run Tryz.prog w = .ok (.slice (some ⟨w.heap.size, 0, none⟩) bs.length c) w' ∧ RdV w' (some ⟨w.heap.size, 0, none⟩) c (bs.map B) ∧ Ext w w' := by
  have hr := run_bytes_of_string (P := Tryz.prog) w 9 22 5 ⟨bs.toArray⟩ Tryz.underlying9 Tryz.underlying22 Tryz.underlying5; have hsz : (⟨bs.toArray⟩ : ByteArray).size = bs.length := by simp [ByteArray.size]
  rw [hsz] at hr; have hle := grownCap_ge w bs.length 0 5; have hmx := grownCap_le_maxLen w bs.length 0 5 (by unfold maxLen; omega); refine ⟨_, _, hr, ⟨by simpa using hle, by unfold maxLen at hmx; omega, fun e => (by cases e), fun i hi => ⟨w.heap.size, 0, rfl, ?_⟩⟩, (Ext.drew w).trans (Ext.alloc w.drew _)⟩; have hi' : i < bs.length := by simpa using hi
  rw [Nat.zero_add]; have e : w.heap.size = w.drew.heap.size := rfl; rw [e, World.cell?_alloc_mark]; unfold bytesRow; rw [Array.getElem?_append_left (by simp; omega)]; simp [B, hi']
def MaxL (w : World) : Prop := ∃ m : Int, w.cell? ⟨2, 0, none⟩ = some (.int .i64 m)
theorem MaxL.below {w w' : World} (h : MaxL w) (hx : Ext w w') : MaxL w' := by
  obtain ⟨m, hm⟩ := h; exact ⟨m, (hx.cell (p := ⟨2, 0, none⟩) (cell_lt hm)).trans hm⟩
end Go.Proofs.YtenlampiiodkhaaGreatDoor
namespace Go.Proofs.YtenlampiiodkhaaGreatDoor
set_option linter.unusedVariables false
open Go.RowKit
structure Tb6 (w : World) : Prop where
  tab : Tabs w
  max : MaxL w
theorem Tb6.below {w w' : World} (h : Tb6 w) (hx : Ext w w') : Tb6 w' := ⟨h.tab.below hx, h.max.below hx⟩
end Go.Proofs.YtenlampiiodkhaaGreatDoor
