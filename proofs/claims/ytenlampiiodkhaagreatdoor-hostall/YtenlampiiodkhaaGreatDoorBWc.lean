/-
  I6F, I6G.
-/
import Derived.Test.YtenlampiiodkhaaGreatDoorBQc
import Derived.Laws.Rows
import Derived.Handy
namespace Go.Proofs.YtenlampiiodkhaaGreatDoor
set_option linter.unusedVariables false
open Go.RowKit
theorem load_at {w : World} (g o t : Nat) (l : List Value) (n e : Nat) (hu : Tryz.prog.underlying t = some (.array n e)) (hi : (Tryz.prog.info? t).map (·.size) = some l.length) (h : ∀ j v, l[j]? = some v → w.cell? ⟨g, o + j, none⟩ = some v) :
    (Instr.loadAt t (.pointer (some ⟨g, o, none⟩))).run Tryz.prog w = .ok (.agg l.toArray) w := by
  have hl := run_loadCells_list (P := Tryz.prog) w ⟨g, o, none⟩ l (fun j v hv => by
    rw [Addr.add_lit]; exact h j v hv)
  cases hq : Tryz.prog.info? t with
  | none => simp [hq] at hi
  | some i =>
    have hs : i.size = l.length := by simpa [hq] using hi
    have hagg : (isAgg t).run Tryz.prog w = .ok true w := by
      unfold isAgg; rw [Sem.run_bind, run_underlying hu w]; simp
    simp only [Instr.loadAt, Instr.sureAddr, Sem.run_bind, Sem.run_pure, Result.andThen]; simp [loadVar, Sem.run_bind, hagg, sizeOf, typeInfo, hq, hs, hl]
def V8 (a : List Nat) : Value := .agg #[U (a.getD 0 0), U (a.getD 1 0), U (a.getD 2 0), U (a.getD 3 0), U (a.getD 4 0), U (a.getD 5 0), U (a.getD 6 0), U (a.getD 7 0)]
def L8 (a : List Nat) : List Value := [U (a.getD 0 0), U (a.getD 1 0), U (a.getD 2 0), U (a.getD 3 0), U (a.getD 4 0), U (a.getD 5 0), U (a.getD 6 0), U (a.getD 7 0)]
theorem load_8 {w : World} (g o : Nat) (a : List Nat) (h : ∀ j v, (L8 a)[j]? = some v → w.cell? ⟨g, o + j, none⟩ = some v) :
    (Instr.loadAt 36 (.pointer (some ⟨g, o, none⟩))).run Tryz.prog w = .ok (V8 a) w :=
  load_at g o 36 (L8 a) 8 35 Tryz.underlying36 (by kernel_rfl) h
theorem Rd.pieces {W : World} {b : Nat} {s : List UInt8} {k : Nat} {ps : List Nat} {g : Int} (h : Rd W b s k ps g) : ∀ j v, (L8 ps)[j]? = some v → W.cell? ⟨b, 2 + j, none⟩ = some v := by
  intro j v hv; have hj : j < 8 := (List.getElem?_eq_some_iff.1 hv).1; rw [h.cell (2 + j)]; have e : j = 0 ∨ j = 1 ∨ j = 2 ∨ j = 3 ∨ j = 4 ∨ j = 5 ∨ j = 6 ∨ j = 7 := by omega
  rcases e with rfl | rfl | rfl | rfl | rfl | rfl | rfl | rfl <;> exact hv
def Z8 (w : World) : World := w.alloc (.cells #[.int .u16 0, .int .u16 0, .int .u16 0, .int .u16 0, .int .u16 0, .int .u16 0, .int .u16 0, .int .u16 0] 36)
theorem Z8_ext (w : World) : Ext w (Z8 w) := Ext.alloc _ _
theorem Rd.eight {W : World} {b : Nat} {s : List UInt8} {k : Nat} {ps : List Nat} {g : Int} (h : Rd W b s k ps g) :
    W.cell? ⟨b, 2, none⟩ = some (U (ps.getD 0 0)) ∧ W.cell? ⟨b, 3, none⟩ = some (U (ps.getD 1 0)) ∧ W.cell? ⟨b, 4, none⟩ = some (U (ps.getD 2 0)) ∧ W.cell? ⟨b, 5, none⟩ = some (U (ps.getD 3 0)) ∧ W.cell? ⟨b, 6, none⟩ = some (U (ps.getD 4 0)) ∧ W.cell? ⟨b, 7, none⟩ = some (U (ps.getD 5 0)) ∧ W.cell? ⟨b, 8, none⟩ = some (U (ps.getD 6 0)) ∧ W.cell? ⟨b, 9, none⟩ = some (U (ps.getD 7 0)) :=
  ⟨h.cell 2, h.cell 3, h.cell 4, h.cell 5, h.cell 6, h.cell 7, h.cell 8, h.cell 9⟩
set_option maxHeartbeats 2000000 in
set_option maxRecDepth 100000 in
theorem address_no (b : Nat) (s : List UInt8) (k : Nat) (ps : List Nat) (w : World) (h : Rd w b s k ps (-1)) :
    Calls Tryz.prog 127 #[.pointer (some ⟨b, 0, none⟩)] w fun e w' => e = .returned (V8 ps) ∧ Ext w w' := by
  obtain ⟨d0, d1, d2, d3, d4, d5, d6, d7⟩ := (h.ext (Z8_ext w)).eight; have c11 : (Z8 w).cell? ⟨b, 11, none⟩ = some (.int .i64 (-1)) := (h.ext (Z8_ext w)).gap; have HX := hide (Z8_ext w); unfold Z8 at d0 d1 d2 d3 d4 d5 d6 d7 c11 HX; unfold V8 at *; clear h; go_enter Tryz.func127, Tryz.ntmps127; go_wp2; go_returns; exact ⟨rfl, Ext.alloc _ _⟩
theorem splice_start (n : Nat) (z : Value) (X : List Value) : splice (List.replicate n z) 0 X = X ++ List.replicate (n - X.length) z := by
  unfold splice; rw [List.take_zero, List.nil_append, Nat.zero_add, List.drop_replicate]
theorem alloc_new (w : World) (o : Obj) : (w.alloc o).heap[w.heap.size]? = some o := by
  unfold World.alloc; exact Array.getElem?_push_size
theorem alloc_size (w : World) (o : Obj) : (w.alloc o).heap.size = w.heap.size + 1 := by simp
theorem Z8_size (w : World) : (Z8 w).heap.size = w.heap.size + 1 := alloc_size _ _
theorem Z8_new (w : World) : (Z8 w).heap[w.heap.size]? = some (.cells (List.replicate 8 (U 0)).toArray 36 (0, 0)) := alloc_new _ _
theorem two_splice (z : Value) (X Y : List Value) (h : X.length + Y.length ≤ 8) : splice (splice (List.replicate 8 z) 0 X) (8 - Y.length) Y = X ++ List.replicate (8 - X.length - Y.length) z ++ Y := by
  rw [splice_start]; unfold splice; rw [List.drop_of_length_le (by simp; omega), List.append_nil]; rw [List.take_append, List.take_of_length_le (by omega), List.take_replicate]; congr 3; omega
theorem L8_of {a : List Nat} (h : a.length = 8) : a.map U = L8 a := by
  match a, h with
  | [_, _, _, _, _, _, _, _], _ => rfl
theorem cells8 {w : World} {g : Nat} {l : List Value} {t : TypeId} (h : w.heap[g]? = some (.cells l.toArray t (0, 0))) (i : Nat) (hi : i < l.length) : w.cell? ⟨g, i, none⟩ = some l[i] := by
  simp [World.cell?, h, hi]
theorem froz8 {w : World} {g : Nat} {l : Array Value} {t : TypeId} (h : w.heap[g]? = some (.cells l t (0, 0))) (i : Nat) : w.frozen? ⟨g, i, none⟩ = false := by
  simp [World.frozen?, h]
theorem set_heap {w : World} {g i : Nat} {v : Value} {c : Array Value} {t : TypeId} {fr : Nat × Nat} (h : w.heap[g]? = some (.cells c t fr)) : (w.setCell ⟨g, i, none⟩ v).heap[g]? = some (.cells (c.setIfInBounds i v) t fr) := by
  simp [World.setCell, Array.getElem?_modify, h]
theorem arr8 (z x0 x1 x2 x3 x4 x5 x6 x7 : Value) : (((((((((List.replicate 8 z).toArray.setIfInBounds 0 x0).setIfInBounds 1 x1).setIfInBounds 2 x2).setIfInBounds 3 x3).setIfInBounds 4 x4).setIfInBounds 5 x5).setIfInBounds 6 x6).setIfInBounds 7 x7) = #[x0, x1, x2, x3, x4, x5, x6, x7] := by
  simp only [List.replicate, List.setIfInBounds_toArray, List.set_cons_zero, List.set_cons_succ]
theorem set8_heap {w : World} {g : Nat} {t : TypeId} {fr : Nat × Nat} (h : w.heap[g]? = some (.cells (List.replicate 8 (U 0)).toArray t fr)) (x0 x1 x2 x3 x4 x5 x6 x7 : Value) :
    ((((((((w.setCell ⟨g, 0, none⟩ x0).setCell ⟨g, 1, none⟩ x1).setCell ⟨g, 2, none⟩ x2).setCell ⟨g, 3, none⟩ x3).setCell ⟨g, 4, none⟩ x4).setCell ⟨g, 5, none⟩ x5).setCell ⟨g, 6, none⟩ x6).setCell ⟨g, 7, none⟩ x7).heap[g]? = some (.cells #[x0, x1, x2, x3, x4, x5, x6, x7] t fr) := by
  have h1 := set_heap (i := 0) (v := x0) h; have h2 := set_heap (i := 1) (v := x1) h1; have h3 := set_heap (i := 2) (v := x2) h2; have h4 := set_heap (i := 3) (v := x3) h3; have h5 := set_heap (i := 4) (v := x4) h4; have h6 := set_heap (i := 5) (v := x5) h5; have h7 := set_heap (i := 6) (v := x6) h6; have h8 := set_heap (i := 7) (v := x7) h7; rw [arr8] at h8; exact h8
theorem set8_below {B g : Nat} {w0 w : World} (h : Below B w0 w) (hB : B ≤ g) (x0 x1 x2 x3 x4 x5 x6 x7 : Value) :
    Below B w0 ((((((((w.setCell ⟨g, 0, none⟩ x0).setCell ⟨g, 1, none⟩ x1).setCell ⟨g, 2, none⟩ x2).setCell ⟨g, 3, none⟩ x3).setCell ⟨g, 4, none⟩ x4).setCell ⟨g, 5, none⟩ x5).setCell ⟨g, 6, none⟩ x6).setCell ⟨g, 7, none⟩ x7) := by
  have h1 := h.trans (below_set (i := 0) (v := x0) hB); have h2 := h1.trans (below_set (i := 1) (v := x1) hB); have h3 := h2.trans (below_set (i := 2) (v := x2) hB); have h4 := h3.trans (below_set (i := 3) (v := x3) hB); have h5 := h4.trans (below_set (i := 4) (v := x4) hB); have h6 := h5.trans (below_set (i := 5) (v := x5) hB); have h7 := h6.trans (below_set (i := 6) (v := x6) hB); exact h7.trans (below_set (i := 7) (v := x7) hB)
theorem copy_pieces (w : World) (dp sp : Option Addr) (dLen dCap sLen sCap g off : Nat) (cur cs : List Value) (t : TypeId) (hg : w.heap[g]? = some (.cells cur.toArray t (0, 0))) (hn : cs.length = Nat.min sLen dLen)
    (hpos : 0 < cs.length → dp = some ⟨g, off, none⟩ ∧ ∃ ad, sp = some ad ∧ ∀ j v, cs[j]? = some v → w.cell? (ad.add j) = some v) (hfit : off + cs.length ≤ cur.length) (h1 : ∀ v ∈ cs, v.oneCell' = true) (B : Nat) (w0 : World) (hb : Below B w0 w) (hB : B ≤ g) :
    ∃ w', (Builtin.copy_ #[90, 90] 3 #[.slice dp dLen dCap, .slice sp sLen sCap]).run Tryz.prog w = .ok (.int .i64 (cs.length : Int)) w' ∧ Hid (w'.heap[g]? = some (.cells (splice cur off cs).toArray t (0, 0))) ∧ Below B w0 w' := by
  by_cases h0 : cs.length = 0
  · obtain rfl : cs = [] := List.eq_nil_of_length_eq_zero h0; exact ⟨w, run_copy_none (P := Tryz.prog) w 90 90 3 35 dp sp dLen dCap sLen sCap Tryz.underlying90 infoU1 (by simpa using hn.symm), (show _ = _ by simpa [splice] using hg), hb⟩
  · obtain ⟨rfl, ad, rfl, hsrc⟩ := hpos (by omega); exact ⟨_, run_copy_row (P := Tryz.prog) w 90 90 3 35 g off dLen dCap ad sLen sCap cur.toArray t cs Tryz.underlying90 infoU1 hg hn hsrc (by simpa using hfit) h1, (show _ = _ by simpa [splice] using setRow_heap w g _ _ t _ hg), below_setRow hb hB _⟩
set_option maxHeartbeats 4000000 in
set_option maxRecDepth 100000 in
theorem address_some (b : Nat) (s : List UInt8) (k : Nat) (ps : List Nat) (q : Nat) (w : World) (h : Rd w b s k ps (q : Int)) (hq : q ≤ ps.length) (h7 : ps.length ≤ 7) :
    Calls Tryz.prog 127 #[.pointer (some ⟨b, 0, none⟩)] w fun e w' => e = .returned (V8 (ps.take q ++ List.replicate (8 - ps.length) 0 ++ ps.drop q)) ∧ Ext w w' := by
  have hblt := h.lt; have HRW := hide (fun (w' : World) (hb : Below (w.heap.size + 1) (Z8 (Z8 w)) w') => (show Rd w' b s k ps (q : Int) from (hb.block b (by omega)).trans ((h.ext (Z8_ext w)).ext (Z8_ext (Z8 w))))); have hz : (Z8 (Z8 w)).drew.heap[w.heap.size + 1]? = some (.cells (List.replicate 8 (U 0)).toArray 36 (0, 0)) := by
    have := Z8_new (Z8 w); rw [Z8_size] at this; exact this
  have hz0 : ∀ w', Below (w.heap.size + 1) (Z8 (Z8 w)) w' → w'.heap[w.heap.size]? = some (.cells (List.replicate 8 (U 0)).toArray 36 (0, 0)) := fun w' hb => by
    rw [hb.block _ (by omega), (Z8_ext (Z8 w)).block _ (by rw [Z8_size]; omega)]; exact Z8_new w
  have HEXT := hide (fun w' (hb : Below (w.heap.size + 1) (Z8 (Z8 w)) w') => (show Ext w w' from Below.trans ((Z8_ext w).trans (Z8_ext (Z8 w))) (Below.mono hb (by omega)))); have hl1 : (ps.take q).length = q := by rw [List.length_take]; omega
  have hl2 : (ps.drop q).length = ps.length - q := List.length_drop; have hX : ∀ j v, ((ps.take q).map U)[j]? = some v → j < q ∧ v = U (ps.getD j 0) := by
    intro j v hv; have hj : j < q := by
      have := (List.getElem?_eq_some_iff.1 hv).1; rw [List.length_map, hl1] at this; exact this
    refine ⟨hj, ?_⟩; rw [List.getElem?_map, List.getElem?_take, if_pos hj, List.getElem?_eq_getElem (show j < ps.length by omega)] at hv; simp only [Option.map_some, Option.some.injEq] at hv; rw [← hv]; simp [List.getD, show j < ps.length by omega]
  have hY : ∀ j v, ((ps.drop q).map U)[j]? = some v → j < ps.length - q ∧ v = U (ps.getD (q + j) 0) := by
    intro j v hv; have hj : j < ps.length - q := by
      have := (List.getElem?_eq_some_iff.1 hv).1; rw [List.length_map, hl2] at this; exact this
    refine ⟨hj, ?_⟩; rw [List.getElem?_map, List.getElem?_drop, List.getElem?_eq_getElem (show q + j < ps.length by omega)] at hv; simp only [Option.map_some, Option.some.injEq] at hv; rw [← hv]; simp [List.getD, show q + j < ps.length by omega]
  have piece_at : ∀ (w' : World), Rd w' b s k ps (q : Int) → ∀ j, j < 8 → w'.cell? ⟨b, 2 + j, none⟩ = some (U (ps.getD j 0)) := fun w' h' j hj => by
    have e : j = 0 ∨ j = 1 ∨ j = 2 ∨ j = 3 ∨ j = 4 ∨ j = 5 ∨ j = 6 ∨ j = 7 := by omega
    rw [h'.cell (2 + j)]; rcases e with rfl | rfl | rfl | rfl | rfl | rfl | rfl | rfl <;> rfl
  have HLD := hide (fun (w' : World) (h' : Rd w' b s k ps (q : Int)) (j : Nat) (v : Value) (hv : ((ps.take q).map U)[j]? = some v) => (show w'.cell? ((⟨b, 2, none⟩ : Addr).add j) = some v by
    rw [Addr.add_lit, piece_at w' h' j (by have := (hX j v hv).1; omega), (hX j v hv).2]))
  have HLD2 := hide (fun (w' : World) (h' : Rd w' b s k ps (q : Int)) (j : Nat) (v : Value) (hv : ((ps.drop q).map U)[j]? = some v) => (show w'.cell? ((⟨b, 2 + q, none⟩ : Addr).add j) = some v by
    rw [Addr.add_lit, Nat.add_assoc, piece_at w' h' (q + j) (by have := (hY j v hv).1; omega), (hY j v hv).2]))
  have hA : splice (splice (List.replicate 8 (U 0)) 0 ((ps.take q).map U)) (8 - (ps.length - q)) ((ps.drop q).map U) = L8 (ps.take q ++ List.replicate (8 - ps.length) 0 ++ ps.drop q) := by
    have := two_splice (U 0) ((ps.take q).map U) ((ps.drop q).map U) (by rw [List.length_map, List.length_map, hl1, hl2]; omega); rw [List.length_map, List.length_map, hl1, hl2] at this; rw [this, ← L8_of (by rw [List.length_append, List.length_append, List.length_replicate, hl1, hl2]; omega), List.map_append, List.map_append, List.map_replicate, show 8 - q - (ps.length - q) = 8 - ps.length by omega]
  have hone : ∀ l : List Nat, ∀ v ∈ l.map U, v.oneCell' = true := by
    intro l v hv; obtain ⟨x, _, rfl⟩ := List.mem_map.1 hv; rfl
  have ho1 := hone (ps.take q); have ho2 := hone (ps.drop q); have hc1 : ((ps.take q).map U).length = q := by rw [List.length_map, hl1]
  have hc2 : ((ps.drop q).map U).length = ps.length - q := by rw [List.length_map, hl2]
  clear hX hY piece_at hone; generalize ps.take q ++ List.replicate (8 - ps.length) 0 ++ ps.drop q = a at *; generalize (ps.take q).map U = C1 at *; generalize (ps.drop q).map U = C2 at *; generalize hn : ps.length = n at *; have c11a := (h.ext (Z8_ext w)).gap; have hqb : ((q : Int) == -1) = false := by rw [beq_eq_false_iff_ne]; omega
  have hR0 := unhide HRW _ (Below.refl _ _); have c10 := hR0.count; have c11 := hR0.gap; rw [hn] at c10; have HL1 := hide (unhide HLD _ hR0); have HHA := hide hA; have s1 := fun v => arr_all v (w.heap.size + 1) 0; have s2 := fun v => arr_to v b 2 q (by omega); have hB0 : Below (w.heap.size + 1) (Z8 (Z8 w)) (Z8 (Z8 w)).drew := (Below.refl _ _).drew; clear h hR0 HLD hA; unfold Z8 at c10 c11 c11a; go_enter Tryz.func127, Tryz.ntmps127; go_wp2_with fail
  go_region_law (first
    | (refine step_copy_splice rfl (.tmp 14) (.tmp 22) 90 90 rfl 35 Tryz.underlying90 infoU1 (some ⟨w.heap.size + 1, 0, none⟩) (some ⟨b, 2, none⟩) 8 8 q 8 ?_ ?_ (w.heap.size + 1) 0 (List.replicate 8 (U 0)) 36 hz C1 ?_ ?_ ?_ ho1 (w.heap.size + 1) (Z8 (Z8 w)) hB0 (Nat.le_refl _) ?_
       · simp [Act.eval, Act.put]
       · simp [Act.eval, Act.put]
       · rw [hc1]; show q = min q 8; omega
       · exact fun _ => ⟨rfl, _, rfl, unhide HL1⟩
       · rw [hc1]; simp; omega
       intro w4 hg4 hb4))
  all_goals
    have hR4 := unhide HRW w4 hb4; have k10 := hR4.count; have k11 := hR4.gap; rw [hn] at k10; have HL2 := hide (unhide HLD2 w4 hR4); have s3 := fun v => arr_mid v b 2 q n (by omega) hq (by omega); have HA2 := hide (unhide HHA); clear HL1 HLD2 HRW hR4 c10 c11 c11a s2 hz HHA hn; generalize hm : n - q = m at *; have hmq : q + m ≤ 7 := by omega
    have hle : (q : Int) ≤ (n : Int) := by omega
    have hn8 : (n : Int) ≤ 8 := by omega
    clear hm h7 hblt hq; generalize hr : 8 - m = r at *; have e8 : (8 : Int) - (m : Int) = (r : Int) := by omega
    have hX : Hid (w4.heap[w.heap.size + 1]? = some (.cells (splice (List.replicate 8 (U 0)) 0 C1).toArray 36 (0, 0))) := hg4; have hlen : (splice (List.replicate 8 (U 0)) 0 C1).length = 8 := by
      rw [length_splice _ _ _ (by rw [hc1]; simp; omega)]; rfl
    clear hg4; generalize splice (List.replicate 8 (U 0)) 0 C1 = XS at *; go_wp2_with fail
    go_quiet (fail)
    have hX2 : (w4.drewN nq).heap[w.heap.size + 1]? = some (.cells XS.toArray 36 (0, 0)) := unhide hX; have hb5 : Below (w.heap.size + 1) (Z8 (Z8 w)) (w4.drewN nq) := below_drewN hb4 nq; have HL3 : Hid (∀ (j : Nat) (v : Value), C2[j]? = some v → (w4.drewN nq).cell? ((⟨b, 2 + q, none⟩ : Addr).add j) = some v) := unhide HL2; have KEY : Hid (∀ w', Hid (w'.heap[w.heap.size + 1]? = some (.cells (splice XS r C2).toArray 36 (0, 0))) → Below (w.heap.size + 1) (Z8 (Z8 w)) w' → (∀ i, i < 8 → w'.cell? ⟨w.heap.size + 1, i, none⟩ = some (U (a.getD i 0))) ∧ (∀ i, i < 8 → w'.cell? ⟨w.heap.size, i, none⟩ = some (U 0)) ∧ (∀ i, w'.frozen? ⟨w.heap.size, i, none⟩ = false) ∧ Ext w w' ∧ w'.heap[w.heap.size]? = some (.cells (List.replicate 8 (U 0)).toArray 36 (0, 0))) := by
      intro w' hg hb; have hg := unhide hg; rw [unhide HA2] at hg; refine ⟨fun i hi => ?_, fun i hi => ?_, froz8 (hz0 w' hb), unhide HEXT w' hb, hz0 w' hb⟩
      · rw [cells8 hg i (by show i < 8; exact hi)]; have e : i = 0 ∨ i = 1 ∨ i = 2 ∨ i = 3 ∨ i = 4 ∨ i = 5 ∨ i = 6 ∨ i = 7 := by omega
        rcases e with rfl | rfl | rfl | rfl | rfl | rfl | rfl | rfl <;> rfl
      · rw [cells8 (hz0 w' hb) i (by rw [List.length_replicate]; exact hi), List.getElem_replicate]
    clear hX HL2 k10 k11 hb4 hz0 HEXT HA2; by_cases hm0 : m = 0
    · have hr8 : r = 8 := by omega
      subst hr8; subst hm0; have s4 := fun v => arr_from8 v (w.heap.size + 1) 0 8 rfl; obtain ⟨w6, hrun, hg6, hb6⟩ := copy_pieces (w4.drewN nq) (some ⟨w.heap.size + 1, 0, none⟩) (some ⟨b, 2 + q, none⟩) 0 0 0 (8 - q) (w.heap.size + 1) 8 XS C2 36 hX2 (by rw [hc2]; rfl) (fun h0 => absurd h0 (by omega)) (by omega) ho2 (w.heap.size + 1) (Z8 (Z8 w)) hb5 (Nat.le_refl _); rw [hc2] at hrun; obtain ⟨k1, k2, k3, k4, k5⟩ := unhide KEY w6 hg6 hb6; have d0 := k1 0 (by decide); have d1 := k1 1 (by decide); have d2 := k1 2 (by decide); have d3 := k1 3 (by decide); have d4 := k1 4 (by decide); have d5 := k1 5 (by decide); have d6 := k1 6 (by decide); have d7 := k1 7 (by decide); have z0 := k2 0 (by decide); have z1 := k2 1 (by decide); have z2 := k2 2 (by decide); have z3 := k2 3 (by decide); have z4 := k2 4 (by decide); have z5 := k2 5 (by decide); have z6 := k2 6 (by decide); have z7 := k2 7 (by decide); have f0 := k3 0; have f1 := k3 1; have f2 := k3 2; have f3 := k3 3; have f4 := k3 4; have f5 := k3 5; have f6 := k3 6; have f7 := k3 7; have HX := hide k4; have HH := hide k5; clear k1 k2 k3 k4 k5 KEY hg6 hb6 hX2 hb5 HL3 s3 s1 hB0 e8; go_wp2; refine bodyPost_ret (v := V8 a) (results_cell_row rfl _ _ w.heap.size 36 #[U (a.getD 0 0), U (a.getD 1 0), U (a.getD 2 0), U (a.getD 3 0), U (a.getD 4 0), U (a.getD 5 0), U (a.getD 6 0), U (a.getD 7 0)] (0, 0) _ rfl (set8_heap (unhide HH) _ _ _ _ _ _ _ _) Tryz.underlying36 rfl (by kernel_rfl)) rfl ?_; exact ⟨rfl, set8_below (unhide HX) (Nat.le_refl _) _ _ _ _ _ _ _ _⟩
    · have s4 : ∀ v, (Instr.sliceAt 36 (.pointer (some ⟨w.heap.size + 1, 0, none⟩)) (some (.int .i64 (r : Int))) none none).run Tryz.prog v = .ok (.slice (some ⟨w.heap.size + 1, r, none⟩) (8 - r) (8 - r)) v := fun v => by
        have := arr_from v (w.heap.size + 1) 0 r (by omega)
        rwa [Nat.zero_add] at this
      obtain ⟨w6, hrun, hg6, hb6⟩ := copy_pieces (w4.drewN nq) (some ⟨w.heap.size + 1, r, none⟩) (some ⟨b, 2 + q, none⟩) (8 - r) (8 - r) m (8 - q) (w.heap.size + 1) r XS C2 36 hX2 (by rw [hc2]; show m = min m (8 - r); omega) (fun _ => ⟨rfl, _, rfl, unhide HL3⟩) (by omega) ho2 (w.heap.size + 1) (Z8 (Z8 w)) hb5 (Nat.le_refl _); rw [hc2] at hrun; obtain ⟨k1, k2, k3, k4, k5⟩ := unhide KEY w6 hg6 hb6; have d0 := k1 0 (by decide); have d1 := k1 1 (by decide); have d2 := k1 2 (by decide); have d3 := k1 3 (by decide); have d4 := k1 4 (by decide); have d5 := k1 5 (by decide); have d6 := k1 6 (by decide); have d7 := k1 7 (by decide); have z0 := k2 0 (by decide); have z1 := k2 1 (by decide); have z2 := k2 2 (by decide); have z3 := k2 3 (by decide); have z4 := k2 4 (by decide); have z5 := k2 5 (by decide); have z6 := k2 6 (by decide); have z7 := k2 7 (by decide); have f0 := k3 0; have f1 := k3 1; have f2 := k3 2; have f3 := k3 3; have f4 := k3 4; have f5 := k3 5; have f6 := k3 6; have f7 := k3 7; have HX := hide k4; have HH := hide k5; clear k1 k2 k3 k4 k5 KEY hg6 hb6 hX2 hb5 HL3 s3 s1 hB0; go_wp2; refine bodyPost_ret (v := V8 a) (results_cell_row rfl _ _ w.heap.size 36 #[U (a.getD 0 0), U (a.getD 1 0), U (a.getD 2 0), U (a.getD 3 0), U (a.getD 4 0), U (a.getD 5 0), U (a.getD 6 0), U (a.getD 7 0)] (0, 0) _ rfl (set8_heap (unhide HH) _ _ _ _ _ _ _ _) Tryz.underlying36 rfl (by kernel_rfl)) rfl ?_; exact ⟨rfl, set8_below (unhide HX) (Nat.le_refl _) _ _ _ _ _ _ _ _⟩
end Go.Proofs.YtenlampiiodkhaaGreatDoor
namespace Go.Proofs.YtenlampiiodkhaaGreatDoor
set_option linter.unusedVariables false
open Go.RowKit
theorem address_any (b : Nat) (s : List UInt8) (a : List Nat) (w : World) (h : Dn w b s a) : Calls Tryz.prog 127 #[.pointer (some ⟨b, 0, none⟩)] w fun e w' => e = .returned (V8 a) ∧ Ext w w' := by
  obtain ⟨k, ps, g, hr, hf, hg, h8⟩ := h
  cases g with
  | none =>
    rw [fin_nil] at hf
    split at hf
    · simp only [Option.some.injEq] at hf; rw [← hf]; exact address_no b s k ps w hr
    · cases hf
  | some q =>
    have hq := hg q rfl; rw [fin_nil_gap ps q hq] at hf
    split at hf
    · rename_i h7; simp only [Option.some.injEq] at hf; rw [← hf]; exact address_some b s k ps q w hr hq h7
    · cases hf
theorem results_cell_tmp {fn : Func} {p q : Tmp} {ty : TypeId} (h : fn.results = #[.cell p ty, .tmp q]) (tmps : Array Value) (w : World) (g : Nat) (cs : Array Value)
    (hp : tmps.getD p undef = .pointer (some ⟨g, 0, none⟩)) (hl : (loadVar ty ⟨g, 0, none⟩).run Tryz.prog w = .ok (.agg cs) w) :
    (results fn tmps).run Tryz.prog w = .ok (.tuple #[.agg cs, tmps.getD q undef]) w := by
  have hp' : tmps[p]?.getD undef = .pointer (some ⟨g, 0, none⟩) := by simpa using hp
  simp [results, h, hp', asAddr, hl]
theorem cells_zero {w : World} {g : Nat} {t : TypeId} (h : w.heap[g]? = some (.cells (List.replicate 8 (U 0)).toArray t (0, 0))) : ∀ i, i < 8 → w.cell? ⟨g, i, none⟩ = some (.int .u16 0) := fun i hi => by
  rw [cells8 h i (by rw [List.length_replicate]; exact hi), List.getElem_replicate]; rfl
def aO (o : Option (List Nat)) : List Nat := o.getD []
def perr6 (o : Option (List Nat)) : Int := if o.isSome = true then 0 else 5
def R8 (w : World) (s : List UInt8) : World := w.alloc (.cells (rdX s 0 [] (-1)) 128)
theorem R8_rd (w : World) (s : List UInt8) : Rd (R8 w s) w.heap.size s 0 [] (-1) := alloc_new _ _
set_option maxHeartbeats 4000000 in
set_option maxRecDepth 100000 in
theorem parse6_any (s : List UInt8) (w : World) (hs : s.length ≤ 100000) (tb : Tb8 w) : Calls Tryz.prog 88 #[S s] w fun e w' => e = .returned (.tuple #[V8 (aO (par6 s)), .int .i64 (perr6 (par6 s))]) ∧ Ext w w' := by
  have hb0 : Below (w.heap.size + 1) (Z8 w) (R8 (Z8 w) s) := Below.mono (Ext.alloc _ _) (by rw [Z8_size]; omega); have hR : Rd (R8 (Z8 w) s) (w.heap.size + 1) s 0 [] (-1) := by
    have := R8_rd (Z8 w) s
    rwa [Z8_size] at this
  have hT : TbF (w.heap.size + 1) (R8 (Z8 w) s) := (TbF.of (tb.below (Z8_ext w)) (by rw [Z8_size]; omega)).on hb0; have HREAD := hide (read_any (w.heap.size + 1) s (R8 (Z8 w) s) hR hs hT); have HZ : Hid (∀ w', Below (w.heap.size + 1) (R8 (Z8 w) s) w' → w'.heap[w.heap.size]? = some (.cells (List.replicate 8 (U 0)).toArray 36 (0, 0)) ∧ Ext w w') := fun w' hb => by
    have h1 := hb0.trans hb; refine ⟨(h1.block _ (by omega)).trans (Z8_new w), Below.trans (Z8_ext w) (Below.mono h1 (by omega))⟩
  unfold R8 Z8 rdX at HREAD; clear hR hT hb0 tb; have NO : Hid (par6 s = none → Ending.returned (.tuple #[.agg #[U 0, U 0, U 0, U 0, U 0, U 0, U 0, U 0], .int .i64 5]) = .returned (.tuple #[V8 (aO (par6 s)), .int .i64 (perr6 (par6 s))])) := fun h => by rw [h]; rfl
  have YES : Hid (∀ a, par6 s = some a → Ending.returned (.tuple #[.agg #[U (a.getD 0 0), U (a.getD 1 0), U (a.getD 2 0), U (a.getD 3 0), U (a.getD 4 0), U (a.getD 5 0), U (a.getD 6 0), U (a.getD 7 0)], .int .i64 0]) = .returned (.tuple #[V8 (aO (par6 s)), .int .i64 (perr6 (par6 s))])) := fun a h => by rw [h]; rfl
  generalize V8 (aO (par6 s)) = z1 at *; generalize perr6 (par6 s) = z2 at *; go_enter Tryz.func88, Tryz.ntmps88; go_wp2_with fail
  refine (unhide HREAD).mono ?_; rintro e w2 ⟨rfl, hd, hb⟩; clear HREAD; obtain ⟨hz, hx⟩ := unhide HZ w2 hb; clear HZ
  cases hp : par6 s with
  | none =>
    have HN := hide (unhide NO hp); have hsm : (none : Option (List Nat)).isSome = false := rfl; rw [hsm]; have HH := hide hz; have z0 := cells_zero hz 0 (by decide); have z1 := cells_zero hz 1 (by decide); have z2 := cells_zero hz 2 (by decide); have z3 := cells_zero hz 3 (by decide); have z4 := cells_zero hz 4 (by decide); have z5 := cells_zero hz 5 (by decide); have z6 := cells_zero hz 6 (by decide); have z7 := cells_zero hz 7 (by decide); have f0 := froz8 hz 0; have f1 := froz8 hz 1; have f2 := froz8 hz 2; have f3 := froz8 hz 3; have f4 := froz8 hz 4; have f5 := froz8 hz 5; have f6 := froz8 hz 6; have f7 := froz8 hz 7; have HX := hide hx; clear hd hp NO YES hz hsm hb hx; go_wp2; refine bodyPost_ret (results_cell_tmp rfl _ _ w.heap.size #[U 0, U 0, U 0, U 0, U 0, U 0, U 0, U 0] rfl (run_loadVar_row _ w.heap.size 36 36 _ (0, 0) _ (set8_heap (unhide HH) (U 0) (U 0) (U 0) (U 0) (U 0) (U 0) (U 0) (U 0)) Tryz.underlying36 rfl (by kernel_rfl))) rfl ?_; exact ⟨unhide HN, set8_below (unhide HX) (Nat.le_refl _) _ _ _ _ _ _ _ _⟩
  | some a =>
    have HY := hide (unhide YES a hp); have hsm : (some a).isSome = true := rfl; rw [hsm]; have HA := hide (address_any (w.heap.size + 1) s a w2 (hd a hp)); unfold V8 at HA; clear hd hp NO YES hsm hb; go_wp2_with fail
    refine (unhide HA).mono ?_; rintro e w3 ⟨rfl, hx3⟩; clear HA; have hlt : w.heap.size < w2.heap.size := by
      rcases Nat.lt_or_ge w.heap.size w2.heap.size with h' | h'
      · exact h'
      · rw [Array.getElem?_eq_none h'] at hz
        cases hz
    have hz3 : w3.heap[w.heap.size]? = some (.cells (List.replicate 8 (U 0)).toArray 36 (0, 0)) := (hx3.block _ hlt).trans hz; have HH := hide hz3; have z0 := cells_zero hz3 0 (by decide); have z1 := cells_zero hz3 1 (by decide); have z2 := cells_zero hz3 2 (by decide); have z3 := cells_zero hz3 3 (by decide); have z4 := cells_zero hz3 4 (by decide); have z5 := cells_zero hz3 5 (by decide); have z6 := cells_zero hz3 6 (by decide); have z7 := cells_zero hz3 7 (by decide); have f0 := froz8 hz3 0; have f1 := froz8 hz3 1; have f2 := froz8 hz3 2; have f3 := froz8 hz3 3; have f4 := froz8 hz3 4; have f5 := froz8 hz3 5; have f6 := froz8 hz3 6; have f7 := froz8 hz3 7; have HX := hide (hx.trans hx3); clear hz hz3 hx hx3 hlt; go_wp2; refine bodyPost_ret (results_cell_tmp rfl _ _ w.heap.size #[U (a.getD 0 0), U (a.getD 1 0), U (a.getD 2 0), U (a.getD 3 0), U (a.getD 4 0), U (a.getD 5 0), U (a.getD 6 0), U (a.getD 7 0)] rfl (run_loadVar_row _ w.heap.size 36 36 _ (0, 0) _ (set8_heap (unhide HH) _ _ _ _ _ _ _ _) Tryz.underlying36 rfl (by kernel_rfl))) rfl ?_; exact ⟨unhide HY, set8_below (unhide HX) (Nat.le_refl _) _ _ _ _ _ _ _ _⟩
end Go.Proofs.YtenlampiiodkhaaGreatDoor
