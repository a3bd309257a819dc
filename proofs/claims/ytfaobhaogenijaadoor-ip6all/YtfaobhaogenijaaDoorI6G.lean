/-
  Parse of package ip6, whole.
-/
import Derived.Test.YtfaobhaogenijaaDoorI6F
namespace Go.Proofs.YtfaobhaogenijaaDoor
set_option linter.unusedVariables false
open Go.RowKit

theorem address_any (b : Nat) (s : List UInt8) (a : List Nat) (w : World) (h : Dn w b s a) : Calls Tryd.prog 10 #[.pointer (some ⟨b, 0, none⟩)] w fun e w' => e = .returned (V8 a) ∧ Ext w w' := by
  obtain ⟨k, ps, g, hr, hf, hg, h8⟩ := h
  cases g with
  | none =>
    rw [fin_nil] at hf
    split at hf
    · simp only [Option.some.injEq] at hf
      rw [← hf]
      exact address_no b s k ps w hr
    · cases hf
  | some q =>
    have hq := hg q rfl
    rw [fin_nil_gap ps q hq] at hf
    split at hf
    · rename_i h7
      simp only [Option.some.injEq] at hf
      rw [← hf]
      exact address_some b s k ps q w hr hq h7
    · cases hf

theorem results_cell_tmp {fn : Func} {p q : Tmp} {ty : TypeId} (h : fn.results = #[.cell p ty, .tmp q]) (tmps : Array Value) (w : World) (g : Nat) (cs : Array Value)
    (hp : tmps.getD p undef = .pointer (some ⟨g, 0, none⟩)) (hl : (loadVar ty ⟨g, 0, none⟩).run Tryd.prog w = .ok (.agg cs) w) :
    (results fn tmps).run Tryd.prog w = .ok (.tuple #[.agg cs, tmps.getD q undef]) w := by
  have hp' : tmps[p]?.getD undef = .pointer (some ⟨g, 0, none⟩) := by simpa using hp
  simp [results, h, hp', asAddr, hl]
/-- Eight pieces stored into their block. -/
theorem cells_zero {w : World} {g : Nat} {t : TypeId} (h : w.heap[g]? = some (.cells (List.replicate 8 (U 0)).toArray t (0, 0))) : ∀ i, i < 8 → w.cell? ⟨g, i, none⟩ = some (.int .u16 0) := fun i hi => by
  rw [cells8 h i (by rw [List.length_replicate]; exact hi), List.getElem_replicate]
  rfl

def aO (o : Option (List Nat)) : List Nat := o.getD []
def perr6 (o : Option (List Nat)) : Int := if o.isSome = true then 0 else 5
/-- A world with a reader at the start of a text. -/
def R8 (w : World) (s : List UInt8) : World := w.alloc (.cells (rdX s 0 [] (-1)) 33)
theorem R8_rd (w : World) (s : List UInt8) : Rd (R8 w s) w.heap.size s 0 [] (-1) := alloc_new _ _

set_option maxHeartbeats 4000000 in
set_option maxRecDepth 100000 in
theorem parse6_any (s : List UInt8) (w : World) (hs : s.length ≤ 100000) (tb : Tb8 w) : Calls Tryd.prog 5 #[S s] w fun e w' => e = .returned (.tuple #[V8 (aO (par6 s)), .int .i64 (perr6 (par6 s))]) ∧ Ext w w' := by
  have hb0 : Below (w.heap.size + 1) (Z8 w) (R8 (Z8 w) s) := Below.mono (Ext.alloc _ _) (by rw [Z8_size]; omega)
  have hR : Rd (R8 (Z8 w) s) (w.heap.size + 1) s 0 [] (-1) := by
    have := R8_rd (Z8 w) s
    rwa [Z8_size] at this
  have hT : TbF (w.heap.size + 1) (R8 (Z8 w) s) := (TbF.of (tb.below (Z8_ext w)) (by rw [Z8_size]; omega)).on hb0
  have HREAD := hide (read_any (w.heap.size + 1) s (R8 (Z8 w) s) hR hs hT)
  have HZ : Hid (∀ w', Below (w.heap.size + 1) (R8 (Z8 w) s) w' → w'.heap[w.heap.size]? = some (.cells (List.replicate 8 (U 0)).toArray 23 (0, 0)) ∧ Ext w w') := fun w' hb => by
    have h1 := hb0.trans hb
    refine ⟨(h1.block _ (by omega)).trans (Z8_new w), Below.trans (Z8_ext w) (Below.mono h1 (by omega))⟩
  unfold R8 Z8 rdX at HREAD
  clear hR hT hb0 tb
  have NO : Hid (par6 s = none → Ending.returned (.tuple #[.agg #[U 0, U 0, U 0, U 0, U 0, U 0, U 0, U 0], .int .i64 5]) = .returned (.tuple #[V8 (aO (par6 s)), .int .i64 (perr6 (par6 s))])) := fun h => by rw [h]; rfl
  have YES : Hid (∀ a, par6 s = some a → Ending.returned (.tuple #[.agg #[U (a.getD 0 0), U (a.getD 1 0), U (a.getD 2 0), U (a.getD 3 0), U (a.getD 4 0), U (a.getD 5 0), U (a.getD 6 0), U (a.getD 7 0)], .int .i64 0]) = .returned (.tuple #[V8 (aO (par6 s)), .int .i64 (perr6 (par6 s))])) := fun a h => by rw [h]; rfl
  generalize V8 (aO (par6 s)) = z1 at *
  generalize perr6 (par6 s) = z2 at *
  go_enter Tryd.func5, Tryd.ntmps5
  go_wp2_with fail
  refine (unhide HREAD).mono ?_
  rintro e w2 ⟨rfl, hd, hb⟩
  clear HREAD
  obtain ⟨hz, hx⟩ := unhide HZ w2 hb
  clear HZ
  cases hp : par6 s with
  | none =>
    have HN := hide (unhide NO hp)
    have hsm : (none : Option (List Nat)).isSome = false := rfl
    rw [hsm]
    have HH := hide hz
    have z0 := cells_zero hz 0 (by decide)
    have z1 := cells_zero hz 1 (by decide)
    have z2 := cells_zero hz 2 (by decide)
    have z3 := cells_zero hz 3 (by decide)
    have z4 := cells_zero hz 4 (by decide)
    have z5 := cells_zero hz 5 (by decide)
    have z6 := cells_zero hz 6 (by decide)
    have z7 := cells_zero hz 7 (by decide)
    have f0 := froz8 hz 0
    have f1 := froz8 hz 1
    have f2 := froz8 hz 2
    have f3 := froz8 hz 3
    have f4 := froz8 hz 4
    have f5 := froz8 hz 5
    have f6 := froz8 hz 6
    have f7 := froz8 hz 7
    have HX := hide hx
    clear hd hp NO YES hz hsm hb hx
    go_wp2
    refine bodyPost_ret (results_cell_tmp rfl _ _ w.heap.size #[U 0, U 0, U 0, U 0, U 0, U 0, U 0, U 0] rfl (run_loadVar_row _ w.heap.size 23 23 _ (0, 0) _ (set8_heap (unhide HH) (U 0) (U 0) (U 0) (U 0) (U 0) (U 0) (U 0) (U 0)) Tryd.underlying23 rfl (by kernel_rfl))) rfl ?_
    exact ⟨unhide HN, set8_below (unhide HX) (Nat.le_refl _) _ _ _ _ _ _ _ _⟩
  | some a =>
    have HY := hide (unhide YES a hp)
    have hsm : (some a).isSome = true := rfl
    rw [hsm]
    have HA := hide (address_any (w.heap.size + 1) s a w2 (hd a hp))
    unfold V8 at HA
    clear hd hp NO YES hsm hb
    go_wp2_with fail
    refine (unhide HA).mono ?_
    rintro e w3 ⟨rfl, hx3⟩
    clear HA
    have hlt : w.heap.size < w2.heap.size := by
      rcases Nat.lt_or_ge w.heap.size w2.heap.size with h' | h'
      · exact h'
      · rw [Array.getElem?_eq_none h'] at hz
        cases hz
    have hz3 : w3.heap[w.heap.size]? = some (.cells (List.replicate 8 (U 0)).toArray 23 (0, 0)) := (hx3.block _ hlt).trans hz
    have HH := hide hz3
    have z0 := cells_zero hz3 0 (by decide)
    have z1 := cells_zero hz3 1 (by decide)
    have z2 := cells_zero hz3 2 (by decide)
    have z3 := cells_zero hz3 3 (by decide)
    have z4 := cells_zero hz3 4 (by decide)
    have z5 := cells_zero hz3 5 (by decide)
    have z6 := cells_zero hz3 6 (by decide)
    have z7 := cells_zero hz3 7 (by decide)
    have f0 := froz8 hz3 0
    have f1 := froz8 hz3 1
    have f2 := froz8 hz3 2
    have f3 := froz8 hz3 3
    have f4 := froz8 hz3 4
    have f5 := froz8 hz3 5
    have f6 := froz8 hz3 6
    have f7 := froz8 hz3 7
    have HX := hide (hx.trans hx3)
    clear hz hz3 hx hx3 hlt
    go_wp2
    refine bodyPost_ret (results_cell_tmp rfl _ _ w.heap.size #[U (a.getD 0 0), U (a.getD 1 0), U (a.getD 2 0), U (a.getD 3 0), U (a.getD 4 0), U (a.getD 5 0), U (a.getD 6 0), U (a.getD 7 0)] rfl (run_loadVar_row _ w.heap.size 23 23 _ (0, 0) _ (set8_heap (unhide HH) _ _ _ _ _ _ _ _) Tryd.underlying23 rfl (by kernel_rfl))) rfl ?_
    exact ⟨unhide HY, set8_below (unhide HX) (Nat.le_refl _) _ _ _ _ _ _ _ _⟩
end Go.Proofs.YtfaobhaogenijaaDoor
