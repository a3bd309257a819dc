/-
  The walk of PctNest.
-/
import Derived.Test.YthgoipljhhjebaaPctC
namespace Go.Proofs.Ythgoipljhhjebaa
set_option linter.unusedVariables false
open Go.RowKit

/-- The pairs of sets, side by side. -/
def prs : List Value := [.int .i64 0, .int .i64 1, .int .i64 0, .int .i64 2, .int .i64 2, .int .i64 3, .int .i64 2, .int .i64 4, .int .i64 4, .int .i64 5]
def rowF (vs : List Value) : Fact :=
  ⟨fun v w => ∃ g, v = .slice (some ⟨g, 0, none⟩) 5 5 ∧ ∀ i, i < vs.length → w.cell? ⟨g, i, none⟩ = vs[i]?, fun _ w w' ⟨g, h1, h2⟩ hx => ⟨g, h1, fun i hi => by
    have := h2 i hi
    rw [← this]
    rw [List.getElem?_eq_getElem hi] at this
    exact hx.cell (p := ⟨g, i, none⟩) (cell_lt this)⟩⟩

theorem load_int {w : World} {p : Addr} {n : Int} (h : w.cell? p = some (.int .i64 n)) : (Instr.loadAt 3 (.pointer (some p))).run Try.prog w = .ok (.int .i64 n) w := by
  have hu := Try.underlying3
  simp [Instr.loadAt, Instr.sureAddr, loadVar, isAgg, run_underlying hu, h]

theorem addr_int (w : World) (g n i : Nat) (hi : i < n) : (Instr.indexAt 29 (.slice (some ⟨g, 0, none⟩) n n) (.int .i64 (i : Int))).run Try.prog w = .ok (.pointer (some ⟨g, i, none⟩)) w := by
  have he : Try.prog.elem 29 = 3 := by kernel_rfl
  rw [run_indexAt_slice w 29 ⟨g, 0, none⟩ n n .i64 (i : Int) (by rw [he]; exact Try.underlying29), if_pos ⟨by omega, by omega⟩, he]
  have hs : (sizeOf 3).run Try.prog w = .ok 1 w := by kernel_rfl
  rw [hs]
  simp only [Result.andThen]
  rw [Addr.add_lit]
  simp

section
variable {ops : Array Oper} {Q : Exit → Act → World → Prop} {A : Tmp → Value → World → Prop} {a0 : Act} {w0 : World} {o : Oper} {d : Tmp}

theorem ok_addr (hw : Wanted ops A o) (hdst : o.dst = some d) (x : Tmp) (t : TypeId) (i : Value) (ho : o.op = .indexAddr t (.tmp x) (.const i)) (hx1 : (depSlots ops o).contains x = true) (v v' : Value)
    (hX : ∀ u w, A x u w → u = v) (hrun : ∀ w, (Instr.indexAt t v i).run Try.prog w = .ok v' w) (hF : ∀ w, A d v' w) : StepOk Try.prog ops Q A a0 w0 o :=
  ok_val hw hdst fun a w hx hf hd => ⟨v', w, by
    have e := hX _ _ (hd x hx1)
    simp only [execOp, ho, Act.eval, e]
    simp [hrun], hF w, Ext.refl _⟩

theorem ok_load (hw : Wanted ops A o) (hdst : o.dst = some d) (x : Tmp) (t : TypeId) (ho : o.op = .load t (.tmp x)) (hx1 : (depSlots ops o).contains x = true) (v v' : Value)
    (hX : ∀ u w, A x u w → u = v) (hrun : ∀ w, Ext w0 w → (Instr.loadAt t v).run Try.prog w = .ok v' w) (hF : ∀ w, A d v' w) : StepOk Try.prog ops Q A a0 w0 o :=
  ok_val hw hdst fun a w hx hf hd => ⟨v', w, by
    have e := hX _ _ (hd x hx1)
    simp only [execOp, ho, Act.eval, e]
    simp [hrun w hx], hF w, Ext.refl _⟩

theorem ok_build (hw : Wanted ops A o) (hdst : o.dst = some d) (x y : Tmp) (t : TypeId) (ho : o.op = .build t #[(0, .tmp x), (1, .tmp y)]) (hx1 : (depSlots ops o).contains x = true) (hy1 : (depSlots ops o).contains y = true) (v u v' : Value)
    (hX : ∀ q w, A x q w → q = v) (hY : ∀ q w, A y q w → q = u) (hrun : ∀ w, (Instr.build t #[(0, v), (1, u)]).run Try.prog w = .ok v' w) (hF : ∀ w, A d v' w) : StepOk Try.prog ops Q A a0 w0 o :=
  ok_val hw hdst fun a w hx hf hd => ⟨v', w, by
    have e1 := hX _ _ (hd x hx1)
    have e2 := hY _ _ (hd y hy1)
    rw [Array.getD_eq_getD_getElem?] at e1 e2
    simp only [execOp, ho]
    simp [Act.eval, e1, e2, hrun], hF w, Ext.refl _⟩

theorem ok_rows (hw : Wanted ops A o) (hdst : o.dst = some d) (x0 x1 x2 x3 x4 : Tmp) (t : TypeId) (ho : o.op = .buildSlice t 5 #[(0, .tmp x0), (1, .tmp x1), (2, .tmp x2), (3, .tmp x3), (4, .tmp x4)])
    (h0 : (depSlots ops o).contains x0 = true) (h1 : (depSlots ops o).contains x1 = true) (h2 : (depSlots ops o).contains x2 = true) (h3 : (depSlots ops o).contains x3 = true) (h4 : (depSlots ops o).contains x4 = true) (v0 v1 v2 v3 v4 : Value)
    (k0 : ∀ q w, A x0 q w → q = v0) (k1 : ∀ q w, A x1 q w → q = v1) (k2 : ∀ q w, A x2 q w → q = v2) (k3 : ∀ q w, A x3 q w → q = v3) (k4 : ∀ q w, A x4 q w → q = v4) (e : TypeId) (cs : Array Value) (hcs : cs.toList = prs)
    (hrun : ∀ w, (Instr.buildSlice t 5 #[(0, v0), (1, v1), (2, v2), (3, v3), (4, v4)]).run Try.prog w = .ok (.slice (some ⟨w.heap.size, 0, none⟩) 5 5) (w.alloc (.cells cs e))) (hF : ∀ v w, (rowF prs).holds v w → A d v w) : StepOk Try.prog ops Q A a0 w0 o :=
  ok_val hw hdst fun a w hx hf hd => ⟨.slice (some ⟨w.heap.size, 0, none⟩) 5 5, w.alloc (.cells cs e), by
    have e0 := k0 _ _ (hd x0 h0)
    have e1 := k1 _ _ (hd x1 h1)
    have e2 := k2 _ _ (hd x2 h2)
    have e3 := k3 _ _ (hd x3 h3)
    have e4 := k4 _ _ (hd x4 h4)
    rw [Array.getD_eq_getD_getElem?] at e0 e1 e2 e3 e4
    simp only [execOp, ho]
    simp [Act.eval, e0, e1, e2, e3, e4, hrun], hF _ _ ⟨w.heap.size, rfl, fun i hi => by
      rw [World.cell?_alloc_mark, ← hcs]
      simp⟩, Ext.alloc w _⟩
end

theorem act_open (a : Act) (h : a.tmps.size = 88) (hd : a.defers = []) : a = ⟨#[a.tmps.getD 0 undef, a.tmps.getD 1 undef, a.tmps.getD 2 undef, a.tmps.getD 3 undef, a.tmps.getD 4 undef, a.tmps.getD 5 undef, a.tmps.getD 6 undef, a.tmps.getD 7 undef, a.tmps.getD 8 undef, a.tmps.getD 9 undef, a.tmps.getD 10 undef, a.tmps.getD 11 undef, a.tmps.getD 12 undef, a.tmps.getD 13 undef, a.tmps.getD 14 undef, a.tmps.getD 15 undef, a.tmps.getD 16 undef, a.tmps.getD 17 undef, a.tmps.getD 18 undef, a.tmps.getD 19 undef, a.tmps.getD 20 undef, a.tmps.getD 21 undef, a.tmps.getD 22 undef, a.tmps.getD 23 undef, a.tmps.getD 24 undef, a.tmps.getD 25 undef, a.tmps.getD 26 undef, a.tmps.getD 27 undef, a.tmps.getD 28 undef, a.tmps.getD 29 undef, a.tmps.getD 30 undef, a.tmps.getD 31 undef, a.tmps.getD 32 undef, a.tmps.getD 33 undef, a.tmps.getD 34 undef, a.tmps.getD 35 undef, a.tmps.getD 36 undef, a.tmps.getD 37 undef, a.tmps.getD 38 undef, a.tmps.getD 39 undef, a.tmps.getD 40 undef, a.tmps.getD 41 undef, a.tmps.getD 42 undef, a.tmps.getD 43 undef, a.tmps.getD 44 undef, a.tmps.getD 45 undef, a.tmps.getD 46 undef, a.tmps.getD 47 undef, a.tmps.getD 48 undef, a.tmps.getD 49 undef, a.tmps.getD 50 undef, a.tmps.getD 51 undef, a.tmps.getD 52 undef, a.tmps.getD 53 undef, a.tmps.getD 54 undef, a.tmps.getD 55 undef, a.tmps.getD 56 undef, a.tmps.getD 57 undef, a.tmps.getD 58 undef, a.tmps.getD 59 undef, a.tmps.getD 60 undef, a.tmps.getD 61 undef, a.tmps.getD 62 undef, a.tmps.getD 63 undef, a.tmps.getD 64 undef, a.tmps.getD 65 undef, a.tmps.getD 66 undef, a.tmps.getD 67 undef, a.tmps.getD 68 undef, a.tmps.getD 69 undef, a.tmps.getD 70 undef, a.tmps.getD 71 undef, a.tmps.getD 72 undef, a.tmps.getD 73 undef, a.tmps.getD 74 undef, a.tmps.getD 75 undef, a.tmps.getD 76 undef, a.tmps.getD 77 undef, a.tmps.getD 78 undef, a.tmps.getD 79 undef, a.tmps.getD 80 undef, a.tmps.getD 81 undef, a.tmps.getD 82 undef, a.tmps.getD 83 undef, a.tmps.getD 84 undef, a.tmps.getD 85 undef, a.tmps.getD 86 undef, a.tmps.getD 87 undef], []⟩ := by
  obtain ⟨t, ds⟩ := a
  simp only at h hd
  subst hd
  have e : t = Array.ofFn (n := 88) fun i => t.getD i.val undef := by
    apply Array.ext
    · simpa using h
    · intro i h1 h2
      simp [h1]
  have e2 : (Array.ofFn (n := 88) fun i => t.getD i.val undef) = #[t.getD 0 undef, t.getD 1 undef, t.getD 2 undef, t.getD 3 undef, t.getD 4 undef, t.getD 5 undef, t.getD 6 undef, t.getD 7 undef, t.getD 8 undef, t.getD 9 undef, t.getD 10 undef, t.getD 11 undef, t.getD 12 undef, t.getD 13 undef, t.getD 14 undef, t.getD 15 undef, t.getD 16 undef, t.getD 17 undef, t.getD 18 undef, t.getD 19 undef, t.getD 20 undef, t.getD 21 undef, t.getD 22 undef, t.getD 23 undef, t.getD 24 undef, t.getD 25 undef, t.getD 26 undef, t.getD 27 undef, t.getD 28 undef, t.getD 29 undef, t.getD 30 undef, t.getD 31 undef, t.getD 32 undef, t.getD 33 undef, t.getD 34 undef, t.getD 35 undef, t.getD 36 undef, t.getD 37 undef, t.getD 38 undef, t.getD 39 undef, t.getD 40 undef, t.getD 41 undef, t.getD 42 undef, t.getD 43 undef, t.getD 44 undef, t.getD 45 undef, t.getD 46 undef, t.getD 47 undef, t.getD 48 undef, t.getD 49 undef, t.getD 50 undef, t.getD 51 undef, t.getD 52 undef, t.getD 53 undef, t.getD 54 undef, t.getD 55 undef, t.getD 56 undef, t.getD 57 undef, t.getD 58 undef, t.getD 59 undef, t.getD 60 undef, t.getD 61 undef, t.getD 62 undef, t.getD 63 undef, t.getD 64 undef, t.getD 65 undef, t.getD 66 undef, t.getD 67 undef, t.getD 68 undef, t.getD 69 undef, t.getD 70 undef, t.getD 71 undef, t.getD 72 undef, t.getD 73 undef, t.getD 74 undef, t.getD 75 undef, t.getD 76 undef, t.getD 77 undef, t.getD 78 undef, t.getD 79 undef, t.getD 80 undef, t.getD 81 undef, t.getD 82 undef, t.getD 83 undef, t.getD 84 undef, t.getD 85 undef, t.getD 86 undef, t.getD 87 undef] := by kernel_rfl
  rw [e2] at e
  exact congrArg (fun x => (⟨x, []⟩ : Act)) e

theorem nested : ∀ (j : Fin 5) (b : Fin 256), inS (([0, 0, 2, 2, 4] : List Int).getD j.val 0) (UInt8.ofNat b.val) = true → inS (([1, 2, 3, 4, 5] : List Int).getD j.val 0) (UInt8.ofNat b.val) = true := by decide +kernel
theorem high_in : ∀ b : Fin 256, b.val < 128 ∨ (inS 0 (UInt8.ofNat b.val) = true ∧ inS 6 (UInt8.ofNat b.val) = true) := by decide +kernel
theorem none_in (b : UInt8) : inS 99 b = false ∧ inS (-1) b = false := ⟨rfl, rfl⟩

set_option maxHeartbeats 400000 in
theorem nest_walk (b : UInt8) (w : World) : Calls Try.prog 5 #[B b] w fun e w' => e = .returned (.bool true) ∧ Below w.heap.size w w' := by
  go_enter Try.func5, Try.ntmps5
  go_wp2_with fail
  refine (begun_yes _).mono ?_
  rintro e w1 ⟨rfl, hx1⟩
  go_wp2_with fail
  have hL := RdV.lit w1 [.int .i64 0, .int .i64 1, .int .i64 0, .int .i64 2, .int .i64 3, .int .i64 2, .int .i64 4, .int .i64 5] 3 (0, 0) (show 8 ≤ 9223372036854775807 by omega)
  have hx2 : Ext w (w1.alloc (.cells #[.int .i64 0, .int .i64 1, .int .i64 0, .int .i64 2, .int .i64 3, .int .i64 2, .int .i64 4, .int .i64 5] 3)) := hx1.trans (Ext.alloc w1 _)
  change RdV (w1.alloc (.cells #[.int .i64 0, .int .i64 1, .int .i64 0, .int .i64 2, .int .i64 3, .int .i64 2, .int .i64 4, .int .i64 5] 3)) _ _ _ at hL
  generalize w1.alloc (.cells #[.int .i64 0, .int .i64 1, .int .i64 0, .int .i64 2, .int .i64 3, .int .i64 2, .int .i64 4, .int .i64 5] 3) = wl at *
  generalize w1.heap.size = g at *
  clear hx1
  have hc : ∀ (i : Nat) (v : Value), ([.int .i64 0, .int .i64 1, .int .i64 0, .int .i64 2, .int .i64 3, .int .i64 2, .int .i64 4, .int .i64 5] : List Value)[i]? = some v → ∀ w, Ext wl w → w.cell? ⟨g, i, none⟩ = some v := by
    intro i v hv w' hx
    have hi : i < 8 := (List.getElem?_eq_some_iff.1 hv).1
    obtain ⟨b0, o0, e0, hc⟩ := (hL.below hx).cells (by simp)
    simp only [Option.some.injEq, Addr.mk.injEq] at e0
    obtain ⟨rfl, rfl, _⟩ := e0
    have := hc i hi
    rw [Nat.zero_add] at this
    rw [this, hv]
  have c0 := hc 0 (.int .i64 0) rfl
  have c1 := hc 1 (.int .i64 1) rfl
  have c2 := hc 2 (.int .i64 0) rfl
  have c3 := hc 3 (.int .i64 2) rfl
  have c4 := hc 4 (.int .i64 3) rfl
  have c5 := hc 5 (.int .i64 2) rfl
  have c6 := hc 6 (.int .i64 4) rfl
  have c7 := hc 7 (.int .i64 5) rfl
  clear hc hL
  refine wp_region_open (A := knows [(9, isF (.slice (some ⟨g, 0, none⟩) 8 8)), (10, isF (.pointer (some ⟨g, 0, none⟩))), (11, isF (.int .i64 0)), (12, isF (.slice (some ⟨g, 0, none⟩) 8 8)), (13, isF (.pointer (some ⟨g, 1, none⟩))), (14, isF (.int .i64 1)), (15, isF (.agg #[.int .i64 0, .int .i64 1])), (16, isF (.slice (some ⟨g, 0, none⟩) 8 8)), (17, isF (.pointer (some ⟨g, 2, none⟩))), (18, isF (.int .i64 0)), (19, isF (.slice (some ⟨g, 0, none⟩) 8 8)), (20, isF (.pointer (some ⟨g, 3, none⟩))), (21, isF (.int .i64 2)), (22, isF (.agg #[.int .i64 0, .int .i64 2])), (23, isF (.slice (some ⟨g, 0, none⟩) 8 8)), (24, isF (.pointer (some ⟨g, 5, none⟩))), (25, isF (.int .i64 2)), (26, isF (.slice (some ⟨g, 0, none⟩) 8 8)), (27, isF (.pointer (some ⟨g, 4, none⟩))), (28, isF (.int .i64 3)), (29, isF (.agg #[.int .i64 2, .int .i64 3])), (30, isF (.slice (some ⟨g, 0, none⟩) 8 8)), (31, isF (.pointer (some ⟨g, 3, none⟩))), (32, isF (.int .i64 2)), (33, isF (.slice (some ⟨g, 0, none⟩) 8 8)), (34, isF (.pointer (some ⟨g, 6, none⟩))), (35, isF (.int .i64 4)), (36, isF (.agg #[.int .i64 2, .int .i64 4])), (37, isF (.slice (some ⟨g, 0, none⟩) 8 8)), (38, isF (.pointer (some ⟨g, 6, none⟩))), (39, isF (.int .i64 4)), (40, isF (.slice (some ⟨g, 0, none⟩) 8 8)), (41, isF (.pointer (some ⟨g, 7, none⟩))), (42, isF (.int .i64 5)), (43, isF (.agg #[.int .i64 4, .int .i64 5])), (44, rowF prs), (4, rowF prs)]) (by kernel_rfl) (by kernel_rfl) (knows_mono _) (steps_of ?_) ?_
  · skip
    refine allOps_cons (ok_fixed (.inl rfl) rfl 3 (.slice (some ⟨g, 0, none⟩) 8 8) (.inl rfl) (by kernel_rfl) rfl (fun _ _ => rfl)) ?_
    refine allOps_cons (ok_addr (.inl rfl) rfl 9 _ _ rfl (by kernel_rfl) _ _ (fun _ _ h => h) (fun w => addr_int w g 8 0 (by omega)) (fun _ => rfl)) ?_
    refine allOps_cons (ok_load (.inl rfl) rfl 10 _ rfl (by kernel_rfl) _ _ (fun _ _ h => h) (fun w hx => load_int (c0 w hx)) (fun _ => rfl)) ?_
    refine allOps_cons (ok_fixed (.inl rfl) rfl 3 (.slice (some ⟨g, 0, none⟩) 8 8) (.inl rfl) (by kernel_rfl) rfl (fun _ _ => rfl)) ?_
    refine allOps_cons (ok_addr (.inl rfl) rfl 12 _ _ rfl (by kernel_rfl) _ _ (fun _ _ h => h) (fun w => addr_int w g 8 1 (by omega)) (fun _ => rfl)) ?_
    refine allOps_cons (ok_load (.inl rfl) rfl 13 _ rfl (by kernel_rfl) _ _ (fun _ _ h => h) (fun w hx => load_int (c1 w hx)) (fun _ => rfl)) ?_
    refine allOps_cons (ok_build (.inl rfl) rfl 11 14 _ rfl (by kernel_rfl) (by kernel_rfl) _ _ _ (fun _ _ h => h) (fun _ _ h => h) (fun _ => by kernel_rfl) (fun _ => rfl)) ?_
    refine allOps_cons (ok_fixed (.inl rfl) rfl 3 (.slice (some ⟨g, 0, none⟩) 8 8) (.inl rfl) (by kernel_rfl) rfl (fun _ _ => rfl)) ?_
    refine allOps_cons (ok_addr (.inl rfl) rfl 16 _ _ rfl (by kernel_rfl) _ _ (fun _ _ h => h) (fun w => addr_int w g 8 2 (by omega)) (fun _ => rfl)) ?_
    refine allOps_cons (ok_load (.inl rfl) rfl 17 _ rfl (by kernel_rfl) _ _ (fun _ _ h => h) (fun w hx => load_int (c2 w hx)) (fun _ => rfl)) ?_
    refine allOps_cons (ok_fixed (.inl rfl) rfl 3 (.slice (some ⟨g, 0, none⟩) 8 8) (.inl rfl) (by kernel_rfl) rfl (fun _ _ => rfl)) ?_
    refine allOps_cons (ok_addr (.inl rfl) rfl 19 _ _ rfl (by kernel_rfl) _ _ (fun _ _ h => h) (fun w => addr_int w g 8 3 (by omega)) (fun _ => rfl)) ?_
    refine allOps_cons (ok_load (.inl rfl) rfl 20 _ rfl (by kernel_rfl) _ _ (fun _ _ h => h) (fun w hx => load_int (c3 w hx)) (fun _ => rfl)) ?_
    refine allOps_cons (ok_build (.inl rfl) rfl 18 21 _ rfl (by kernel_rfl) (by kernel_rfl) _ _ _ (fun _ _ h => h) (fun _ _ h => h) (fun _ => by kernel_rfl) (fun _ => rfl)) ?_
    refine allOps_cons (ok_fixed (.inl rfl) rfl 3 (.slice (some ⟨g, 0, none⟩) 8 8) (.inl rfl) (by kernel_rfl) rfl (fun _ _ => rfl)) ?_
    refine allOps_cons (ok_addr (.inl rfl) rfl 23 _ _ rfl (by kernel_rfl) _ _ (fun _ _ h => h) (fun w => addr_int w g 8 5 (by omega)) (fun _ => rfl)) ?_
    refine allOps_cons (ok_load (.inl rfl) rfl 24 _ rfl (by kernel_rfl) _ _ (fun _ _ h => h) (fun w hx => load_int (c5 w hx)) (fun _ => rfl)) ?_
    refine allOps_cons (ok_fixed (.inl rfl) rfl 3 (.slice (some ⟨g, 0, none⟩) 8 8) (.inl rfl) (by kernel_rfl) rfl (fun _ _ => rfl)) ?_
    refine allOps_cons (ok_addr (.inl rfl) rfl 26 _ _ rfl (by kernel_rfl) _ _ (fun _ _ h => h) (fun w => addr_int w g 8 4 (by omega)) (fun _ => rfl)) ?_
    refine allOps_cons (ok_load (.inl rfl) rfl 27 _ rfl (by kernel_rfl) _ _ (fun _ _ h => h) (fun w hx => load_int (c4 w hx)) (fun _ => rfl)) ?_
    refine allOps_cons (ok_build (.inl rfl) rfl 25 28 _ rfl (by kernel_rfl) (by kernel_rfl) _ _ _ (fun _ _ h => h) (fun _ _ h => h) (fun _ => by kernel_rfl) (fun _ => rfl)) ?_
    refine allOps_cons (ok_fixed (.inl rfl) rfl 3 (.slice (some ⟨g, 0, none⟩) 8 8) (.inl rfl) (by kernel_rfl) rfl (fun _ _ => rfl)) ?_
    refine allOps_cons (ok_addr (.inl rfl) rfl 30 _ _ rfl (by kernel_rfl) _ _ (fun _ _ h => h) (fun w => addr_int w g 8 3 (by omega)) (fun _ => rfl)) ?_
    refine allOps_cons (ok_load (.inl rfl) rfl 31 _ rfl (by kernel_rfl) _ _ (fun _ _ h => h) (fun w hx => load_int (c3 w hx)) (fun _ => rfl)) ?_
    refine allOps_cons (ok_fixed (.inl rfl) rfl 3 (.slice (some ⟨g, 0, none⟩) 8 8) (.inl rfl) (by kernel_rfl) rfl (fun _ _ => rfl)) ?_
    refine allOps_cons (ok_addr (.inl rfl) rfl 33 _ _ rfl (by kernel_rfl) _ _ (fun _ _ h => h) (fun w => addr_int w g 8 6 (by omega)) (fun _ => rfl)) ?_
    refine allOps_cons (ok_load (.inl rfl) rfl 34 _ rfl (by kernel_rfl) _ _ (fun _ _ h => h) (fun w hx => load_int (c6 w hx)) (fun _ => rfl)) ?_
    refine allOps_cons (ok_build (.inl rfl) rfl 32 35 _ rfl (by kernel_rfl) (by kernel_rfl) _ _ _ (fun _ _ h => h) (fun _ _ h => h) (fun _ => by kernel_rfl) (fun _ => rfl)) ?_
    refine allOps_cons (ok_fixed (.inl rfl) rfl 3 (.slice (some ⟨g, 0, none⟩) 8 8) (.inl rfl) (by kernel_rfl) rfl (fun _ _ => rfl)) ?_
    refine allOps_cons (ok_addr (.inl rfl) rfl 37 _ _ rfl (by kernel_rfl) _ _ (fun _ _ h => h) (fun w => addr_int w g 8 6 (by omega)) (fun _ => rfl)) ?_
    refine allOps_cons (ok_load (.inl rfl) rfl 38 _ rfl (by kernel_rfl) _ _ (fun _ _ h => h) (fun w hx => load_int (c6 w hx)) (fun _ => rfl)) ?_
    refine allOps_cons (ok_fixed (.inl rfl) rfl 3 (.slice (some ⟨g, 0, none⟩) 8 8) (.inl rfl) (by kernel_rfl) rfl (fun _ _ => rfl)) ?_
    refine allOps_cons (ok_addr (.inl rfl) rfl 40 _ _ rfl (by kernel_rfl) _ _ (fun _ _ h => h) (fun w => addr_int w g 8 7 (by omega)) (fun _ => rfl)) ?_
    refine allOps_cons (ok_load (.inl rfl) rfl 41 _ rfl (by kernel_rfl) _ _ (fun _ _ h => h) (fun w hx => load_int (c7 w hx)) (fun _ => rfl)) ?_
    refine allOps_cons (ok_build (.inl rfl) rfl 39 42 _ rfl (by kernel_rfl) (by kernel_rfl) _ _ _ (fun _ _ h => h) (fun _ _ h => h) (fun _ => by kernel_rfl) (fun _ => rfl)) ?_
    refine allOps_cons (ok_rows (.inl rfl) rfl 15 22 29 36 43 _ rfl (by kernel_rfl) (by kernel_rfl) (by kernel_rfl) (by kernel_rfl) (by kernel_rfl) _ _ _ _ _ (fun _ _ h => h) (fun _ _ h => h) (fun _ _ h => h) (fun _ _ h => h) (fun _ _ h => h) 30 prs.toArray (by rfl) (fun _ => by kernel_rfl) (fun _ _ h => h)) ?_
    refine allOps_cons (ok_move (.inl rfl) rfl 44 (.inr rfl) (by kernel_rfl) (fun _ _ h => h)) ?_
    exact allOps_nil
  · intro a wz hx hsz hdef hfix hkn
    have hs0 : a.tmps.getD 0 undef = B b := hfix 0 (by kernel_rfl)
    obtain ⟨gp, hs4, hcp⟩ : (rowF prs).holds (a.tmps.getD 4 undef) wz := hkn 4 (by kernel_rfl)
    have ha := act_open a (by simpa using hsz) hdef
    rw [hs0, hs4] at ha
    generalize a.tmps.getD 1 undef = u1 at ha
    generalize a.tmps.getD 2 undef = u2 at ha
    generalize a.tmps.getD 3 undef = u3 at ha
    generalize a.tmps.getD 5 undef = u5 at ha
    generalize a.tmps.getD 6 undef = u6 at ha
    generalize a.tmps.getD 7 undef = u7 at ha
    generalize a.tmps.getD 8 undef = u8 at ha
    generalize a.tmps.getD 9 undef = u9 at ha
    generalize a.tmps.getD 10 undef = u10 at ha
    generalize a.tmps.getD 11 undef = u11 at ha
    generalize a.tmps.getD 12 undef = u12 at ha
    generalize a.tmps.getD 13 undef = u13 at ha
    generalize a.tmps.getD 14 undef = u14 at ha
    generalize a.tmps.getD 15 undef = u15 at ha
    generalize a.tmps.getD 16 undef = u16 at ha
    generalize a.tmps.getD 17 undef = u17 at ha
    generalize a.tmps.getD 18 undef = u18 at ha
    generalize a.tmps.getD 19 undef = u19 at ha
    generalize a.tmps.getD 20 undef = u20 at ha
    generalize a.tmps.getD 21 undef = u21 at ha
    generalize a.tmps.getD 22 undef = u22 at ha
    generalize a.tmps.getD 23 undef = u23 at ha
    generalize a.tmps.getD 24 undef = u24 at ha
    generalize a.tmps.getD 25 undef = u25 at ha
    generalize a.tmps.getD 26 undef = u26 at ha
    generalize a.tmps.getD 27 undef = u27 at ha
    generalize a.tmps.getD 28 undef = u28 at ha
    generalize a.tmps.getD 29 undef = u29 at ha
    generalize a.tmps.getD 30 undef = u30 at ha
    generalize a.tmps.getD 31 undef = u31 at ha
    generalize a.tmps.getD 32 undef = u32 at ha
    generalize a.tmps.getD 33 undef = u33 at ha
    generalize a.tmps.getD 34 undef = u34 at ha
    generalize a.tmps.getD 35 undef = u35 at ha
    generalize a.tmps.getD 36 undef = u36 at ha
    generalize a.tmps.getD 37 undef = u37 at ha
    generalize a.tmps.getD 38 undef = u38 at ha
    generalize a.tmps.getD 39 undef = u39 at ha
    generalize a.tmps.getD 40 undef = u40 at ha
    generalize a.tmps.getD 41 undef = u41 at ha
    generalize a.tmps.getD 42 undef = u42 at ha
    generalize a.tmps.getD 43 undef = u43 at ha
    generalize a.tmps.getD 44 undef = u44 at ha
    generalize a.tmps.getD 45 undef = u45 at ha
    generalize a.tmps.getD 46 undef = u46 at ha
    generalize a.tmps.getD 47 undef = u47 at ha
    generalize a.tmps.getD 48 undef = u48 at ha
    generalize a.tmps.getD 49 undef = u49 at ha
    generalize a.tmps.getD 50 undef = u50 at ha
    generalize a.tmps.getD 51 undef = u51 at ha
    generalize a.tmps.getD 52 undef = u52 at ha
    generalize a.tmps.getD 53 undef = u53 at ha
    generalize a.tmps.getD 54 undef = u54 at ha
    generalize a.tmps.getD 55 undef = u55 at ha
    generalize a.tmps.getD 56 undef = u56 at ha
    generalize a.tmps.getD 57 undef = u57 at ha
    generalize a.tmps.getD 58 undef = u58 at ha
    generalize a.tmps.getD 59 undef = u59 at ha
    generalize a.tmps.getD 60 undef = u60 at ha
    generalize a.tmps.getD 61 undef = u61 at ha
    generalize a.tmps.getD 62 undef = u62 at ha
    generalize a.tmps.getD 63 undef = u63 at ha
    generalize a.tmps.getD 64 undef = u64 at ha
    generalize a.tmps.getD 65 undef = u65 at ha
    generalize a.tmps.getD 66 undef = u66 at ha
    generalize a.tmps.getD 67 undef = u67 at ha
    generalize a.tmps.getD 68 undef = u68 at ha
    generalize a.tmps.getD 69 undef = u69 at ha
    generalize a.tmps.getD 70 undef = u70 at ha
    generalize a.tmps.getD 71 undef = u71 at ha
    generalize a.tmps.getD 72 undef = u72 at ha
    generalize a.tmps.getD 73 undef = u73 at ha
    generalize a.tmps.getD 74 undef = u74 at ha
    generalize a.tmps.getD 75 undef = u75 at ha
    generalize a.tmps.getD 76 undef = u76 at ha
    generalize a.tmps.getD 77 undef = u77 at ha
    generalize a.tmps.getD 78 undef = u78 at ha
    generalize a.tmps.getD 79 undef = u79 at ha
    generalize a.tmps.getD 80 undef = u80 at ha
    generalize a.tmps.getD 81 undef = u81 at ha
    generalize a.tmps.getD 82 undef = u82 at ha
    generalize a.tmps.getD 83 undef = u83 at ha
    generalize a.tmps.getD 84 undef = u84 at ha
    generalize a.tmps.getD 85 undef = u85 at ha
    generalize a.tmps.getD 86 undef = u86 at ha
    generalize a.tmps.getD 87 undef = u87 at ha
    clear hsz hdef hfix hkn hs0 hs4
    subst ha
    have hx3 := hx2.trans hx
    clear hx2 hx c0 c1 c2 c3 c4 c5 c6 c7
    have HC := hide hcp
    clear hcp
    refine ‹∀ (a : Act) (w : World), Code.wp Try.prog _ _ a w → _› _ wz ?_
    go_wp2_with fail
    go_loopw [5] (fun i wr => ∃ j : Nat, j ≤ 5 ∧ i = .int .i64 j ∧ Ext wz wr) (fun i _ => 5 - (intOf i).toNat)
    case atStart => exact ⟨0, by omega, rfl, Ext.refl _⟩
    case round =>
      obtain ⟨j, hj, rfl, hxr⟩ := hrel
      by_cases hjl : j < 5
      · have hcell : ∀ (w' : World), Ext wz w' → w'.cell? ⟨gp, j * 2, none⟩ = some (.int .i64 (([0, 0, 2, 2, 4] : List Int).getD j 0)) ∧ w'.cell? ⟨gp, j * 2 + 1, none⟩ = some (.int .i64 (([1, 2, 3, 4, 5] : List Int).getD j 0)) := by
          intro w' hx'
          obtain ⟨g2, e2, hc2⟩ := (rowF prs).mono _ _ _ ⟨gp, rfl, unhide HC⟩ hx'
          simp only [Value.slice.injEq, Option.some.injEq, Addr.mk.injEq] at e2
          obtain ⟨⟨rfl, _⟩, _⟩ := e2
          have k1 : ∀ j : Fin 5, prs[j.val * 2]? = some (.int .i64 (([0, 0, 2, 2, 4] : List Int).getD j.val 0)) ∧ prs[j.val * 2 + 1]? = some (.int .i64 (([1, 2, 3, 4, 5] : List Int).getD j.val 0)) := by
            intro j
            match j with
            | 0 => exact ⟨rfl, rfl⟩
            | 1 => exact ⟨rfl, rfl⟩
            | 2 => exact ⟨rfl, rfl⟩
            | 3 => exact ⟨rfl, rfl⟩
            | 4 => exact ⟨rfl, rfl⟩
          have k2 : prs.length = 10 := rfl
          rw [hc2 _ (by omega), hc2 _ (by omega)]
          exact k1 ⟨j, hjl⟩
        have hn := nested ⟨j, hjl⟩ ⟨b.toNat, b.toNat_lt⟩
        simp only [UInt8.ofNat_toNat] at hn
        generalize (([0, 0, 2, 2, 4] : List Int).getD j 0) = p0 at *
        generalize (([1, 2, 3, 4, 5] : List Int).getD j 0) = p1 at *
        have HCELL := hide hcell
        have I0 := hide (in_any p0 b)
        have I1 := hide (in_any p1 b)
        obtain ⟨d0, d1⟩ := hcell wr hxr
        clear hcell
        go_wp2_with fail
        refine (unhide I0 _).mono ?_
        rintro e w4 ⟨rfl, hx4⟩
        have hx4 := hxr.trans hx4
        clear I0 hxr d0 d1
        cases hp : inS p0 b
        · go_wp2
          go_roundw
          case rel => exact ⟨j + 1, by omega, by go_num, hx4⟩
          case measure => simp [intOf]; omega
        · rw [hn hp] at I1
          obtain ⟨d0, d1⟩ := unhide HCELL w4 hx4
          go_wp2_with fail
          refine (unhide I1 _).mono ?_
          rintro e w5 ⟨rfl, hx5⟩
          have hx5 := hx4.trans hx5
          clear I1 hx4 d0 d1
          go_wp2
          go_roundw
          case rel => exact ⟨j + 1, by omega, by go_num, hx5⟩
          case measure => simp [intOf]; omega
      · clear HC
        have N1 := hide (in_any 99 b)
        have N2 := hide (in_any (-1) b)
        rw [(none_in b).1] at N1
        rw [(none_in b).2] at N2
        have hx4 := hx3.trans hxr
        clear hx3 hxr
        go_wp2_with fail
        refine (unhide N1 _).mono ?_
        rintro e w5 ⟨rfl, hx5⟩
        have hx5 := hx4.trans hx5
        clear N1 hx4
        go_wp2_with fail
        refine (unhide N2 _).mono ?_
        rintro e w6 ⟨rfl, hx6⟩
        have hx6 := hx5.trans hx6
        clear N2 hx5
        by_cases hb : (b.toNat : Int) < 128
        · go_wp2
          go_ret
          exact ⟨rfl, hx6⟩
        · have hh := high_in ⟨b.toNat, b.toNat_lt⟩
          simp only [UInt8.ofNat_toNat] at hh
          have hh : inS 0 b = true ∧ inS 6 b = true := by
            rcases hh with hh | hh
            · omega
            · exact hh
          have M0 := hide (in_any 0 b)
          have M6 := hide (in_any 6 b)
          rw [hh.1] at M0
          rw [hh.2] at M6
          go_wp2_with fail
          refine (unhide M0 _).mono ?_
          rintro e w7 ⟨rfl, hx7⟩
          have hx7 := hx6.trans hx7
          clear M0 hx6
          go_wp2_with fail
          refine (unhide M6 _).mono ?_
          rintro e w8 ⟨rfl, hx8⟩
          have hx8 := hx7.trans hx8
          clear M6 hx7
          go_wp2
          go_ret
          exact ⟨rfl, hx8⟩
end Go.Proofs.Ythgoipljhhjebaa
