/-
  That ip6 does something; what is shown is parsed.
-/
import Derived.Test.YtfaobhaogenijaaDoorI6I
namespace Go.Proofs.YtfaobhaogenijaaDoor
set_option linter.unusedVariables false
open Go.RowKit

/-- A number in sixteens, of four digits at the most. -/
def bd16 (v : Nat) : List UInt8 := if v < 16 then [hexd v] else if v < 256 then [hexd (v / 16), hexd (v % 16)] else if v < 4096 then [hexd (v / 256), hexd (v / 16 % 16), hexd (v % 16)] else h4 v
theorem bd16_eq (v : Nat) (h : v < 65536) : bdg 16 v = bd16 v := by
  unfold bd16 h4
  by_cases a : v < 16
  · rw [if_pos a, bdg_small a (by decide)]
  · rw [if_neg a, bdg_great a (by decide)]
    by_cases b : v < 256
    · rw [if_pos b, bdg_small (by omega) (by decide)]
      rfl
    · rw [if_neg b, bdg_great (by omega) (by decide)]
      by_cases c : v < 4096
      · rw [if_pos c, bdg_small (by omega) (by decide), show v / 16 / 16 = v / 256 by omega]
        rfl
      · rw [if_neg c, bdg_great (by omega) (by decide), bdg_small (by omega) (by decide), show v / 16 / 16 / 16 = v / 4096 by omega, show v / 16 / 16 % 16 = v / 256 % 16 by omega]
        rfl
def jp16 (l : List Nat) : List UInt8 := jb 58 (l.map bd16)
def shF (a : List Nat) : List UInt8 := jp16 (a.take (rowOf (zb a)).1) ++ if (rowOf (zb a)).1 < (rowOf (zb a)).2 then 58 :: 58 :: jp16 (a.drop (rowOf (zb a)).2) else []
theorem jp16_eq (l : List Nat) (h : small l) : jp l = jp16 l := by
  unfold jp jp16
  congr 1
  exact List.map_congr_left fun v hv => bd16_eq v (h v hv)
theorem shF_eq (a : List Nat) (h : small a) : shw6 a = shF a := by
  unfold shw6 shF
  rw [jp16_eq _ (small_take h _), jp16_eq _ (small_drop h _)]
theorem parse6_lit (l : List UInt8) (o : Option (List Nat)) (h : par6 l = o) (hl : l.length ≤ 100000) (w : World) (tb : Tb8 w) : Calls Tryd.prog 5 #[S l] w fun e w' => e = .returned (.tuple #[V8 (aO o), .int .i64 (perr6 o)]) ∧ Ext w w' := by
  rw [← h]
  exact parse6_any l w hl tb
theorem small_dec (a : List Nat) (h : a.all (fun v => decide (v < 65536)) = true) : small a := by
  intro v hv
  simpa using List.all_eq_true.1 h v hv

theorem cells8of {w : World} {g : Nat} {t : TypeId} {fr : Nat × Nat} {x0 x1 x2 x3 x4 x5 x6 x7 : Value} (h : w.heap[g]? = some (.cells #[x0, x1, x2, x3, x4, x5, x6, x7] t fr)) :
    w.cell? ⟨g, 0, none⟩ = some x0 ∧ w.cell? ⟨g, 1, none⟩ = some x1 ∧ w.cell? ⟨g, 2, none⟩ = some x2 ∧ w.cell? ⟨g, 3, none⟩ = some x3 ∧ w.cell? ⟨g, 4, none⟩ = some x4 ∧ w.cell? ⟨g, 5, none⟩ = some x5 ∧ w.cell? ⟨g, 6, none⟩ = some x6 ∧ w.cell? ⟨g, 7, none⟩ = some x7 := by
  simp [World.cell?, h]
theorem heap_lt {w : World} {g : Nat} {o : Obj} (h : w.heap[g]? = some o) : g < w.heap.size := by
  rcases Nat.lt_or_ge g w.heap.size with h' | h'
  · exact h'
  · rw [Array.getElem?_eq_none h'] at h
    cases h
theorem heap_ext {w w' : World} {g : Nat} {o : Obj} (h : w.heap[g]? = some o) (hx : Ext w w') : w'.heap[g]? = some o := (hx.block g (heap_lt h)).trans h

set_option maxHeartbeats 2000000 in
set_option maxRecDepth 100000 in
theorem begun_yes (w : World) (tb : Tb8 w) : Calls Tryd.prog 4 #[] w fun e w' => e = .returned (.bool true) ∧ Ext w w' := by
  have H1 : Hid (Calls Tryd.prog 5 #[.string ⟨#[49, 58, 58, 50]⟩] w fun e w' => e = .returned (.tuple #[.agg #[.int .u16 1, .int .u16 0, .int .u16 0, .int .u16 0, .int .u16 0, .int .u16 0, .int .u16 0, .int .u16 2], .int .i64 0]) ∧ Ext w w') := parse6_lit [49, 58, 58, 50] (some [1, 0, 0, 0, 0, 0, 0, 2]) (by decide +kernel) (by decide) w tb
  have H2 : Hid (∀ v, Ext w v → Calls Tryd.prog 5 #[.string ⟨#[49]⟩] v fun e w' => e = .returned (.tuple #[.agg #[.int .u16 0, .int .u16 0, .int .u16 0, .int .u16 0, .int .u16 0, .int .u16 0, .int .u16 0, .int .u16 0], .int .i64 5]) ∧ Ext v w') := fun v hv => parse6_lit [49] none (by decide +kernel) (by decide) v (tb.below hv)
  have H3 : Hid (∀ v, Ext w v → Calls Tryd.prog 7 #[.agg #[.int .u16 1, .int .u16 0, .int .u16 0, .int .u16 0, .int .u16 0, .int .u16 0, .int .u16 0, .int .u16 2]] v fun e w' => e = .returned (.string ⟨#[49, 58, 58, 50]⟩) ∧ Ext v w') := fun v hv => by
    have := show6_any 1 0 0 0 0 0 0 2 v (small_dec _ (by decide)) (tb.below hv)
    rw [shF_eq _ (small_dec _ (by decide)), show shF [1, 0, 0, 0, 0, 0, 0, 2] = [49, 58, 58, 50] by decide +kernel] at this
    exact this
  clear tb
  go_enter Tryd.func4, Tryd.ntmps4
  go_wp2_with fail
  refine (unhide H1).mono ?_
  rintro e w1 ⟨rfl, hx1⟩
  clear H1
  go_wp2_with fail
  have hA : (w1.alloc (.cells #[.int .u16 1, .int .u16 0, .int .u16 0, .int .u16 0, .int .u16 0, .int .u16 0, .int .u16 0, .int .u16 2] 23)).heap[w1.heap.size]? = some (.cells #[.int .u16 1, .int .u16 0, .int .u16 0, .int .u16 0, .int .u16 0, .int .u16 0, .int .u16 0, .int .u16 2] 23 (0, 0)) := alloc_new _ _
  have hxa : Ext w (w1.alloc (.cells #[.int .u16 1, .int .u16 0, .int .u16 0, .int .u16 0, .int .u16 0, .int .u16 0, .int .u16 0, .int .u16 2] 23)) := hx1.trans (Ext.alloc _ _)
  refine (unhide H2 _ hxa).mono ?_
  rintro e w2 ⟨rfl, hx2⟩
  clear H2
  have hA2 := heap_ext hA hx2
  have hx02 := hxa.trans hx2
  clear hA hxa hx2 hx1
  generalize w1.heap.size = g at *
  have hA3 := heap_ext hA2 (Ext.alloc w2 (.cells #[.int .u16 0, .int .u16 0, .int .u16 0, .int .u16 0, .int .u16 0, .int .u16 0, .int .u16 0, .int .u16 0] 23))
  have hx03 := hx02.trans (Ext.alloc w2 (.cells #[.int .u16 0, .int .u16 0, .int .u16 0, .int .u16 0, .int .u16 0, .int .u16 0, .int .u16 0, .int .u16 0] 23))
  obtain ⟨d0, d1, d2, d3, d4, d5, d6, d7⟩ := cells8of hA3
  have HS := hide (unhide H3 _ hx03)
  have HX := hide hx03
  clear hA2 hA3 hx02 hx03 H3
  go_wp2_with fail
  refine (unhide HS).mono ?_
  rintro e w4 ⟨rfl, hx4⟩
  clear HS
  go_wp2
  go_ret
  exact ⟨rfl, (unhide HX).trans hx4⟩
end Go.Proofs.YtfaobhaogenijaaDoor
