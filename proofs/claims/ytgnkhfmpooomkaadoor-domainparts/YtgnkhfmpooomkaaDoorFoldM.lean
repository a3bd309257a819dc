/-
  What package fold tells, where its two tables read as the program's text lays them.
-/
import Derived.Test.YtgnkhfmpooomkaaDoorFoldR
import Derived.Laws.Cells
namespace Go.Proofs.YtgnkhfmpooomkaaDoor
set_option linter.unusedVariables false
open Go.RowKit

/-- The cells of the two tables. -/
def outT : List Value := [R 173, R 173, R 1, R 8203, R 8205, R 1, R 8288, R 8288, R 1, R 65279, R 65279, R 1]
def bigT : List Value := [R 65, R 90, R 1, R 32, R 192, R 214, R 1, R 32, R 216, R 222, R 1, R 32, R 256, R 303, R 2, R 1, R 913, R 929, R 1, R 32, R 931, R 937, R 1, R 32, R 1024, R 1039, R 1, R 80, R 1040, R 1071, R 1, R 32]

/-- The two tables lie where they belong. -/
structure Tabs (w : World) : Prop where
  out : ∀ j v, outT[j]? = some v → w.cell? ⟨0, j, none⟩ = some v
  big : ∀ j v, bigT[j]? = some v → w.cell? ⟨1, j, none⟩ = some v

theorem Tabs.below {w w' : World} (h : Tabs w) (hx : Ext w w') : Tabs w' :=
  ⟨fun j v hv => by have := h.out j v hv; rw [← this]; exact hx.cell (p := ⟨0, j, none⟩) (cell_lt this),
   fun j v hv => by have := h.big j v hv; rw [← this]; exact hx.cell (p := ⟨1, j, none⟩) (cell_lt this)⟩

theorem load_tab {w : World} (g t : Nat) (l : List Value) (n e : Nat) (hu : Tryd.prog.underlying t = some (.array n e)) (hi : (Tryd.prog.info? t).map (·.size) = some l.length) (h : ∀ j v, l[j]? = some v → w.cell? ⟨g, j, none⟩ = some v) :
    (Instr.loadAt t (.pointer (some ⟨g, 0, none⟩))).run Tryd.prog w = .ok (.agg l.toArray) w := by
  have hl := run_loadCells_list (P := Tryd.prog) w ⟨g, 0, none⟩ l (fun j v hv => by
    have hadd : (⟨g, 0, none⟩ : Addr).add j = ⟨g, j, none⟩ := by unfold Addr.add; split <;> simp_all
    rw [hadd]
    exact h j v hv)
  cases hq : Tryd.prog.info? t with
  | none => simp [hq] at hi
  | some i =>
    have hs : i.size = l.length := by simpa [hq] using hi
    have hagg : (isAgg t).run Tryd.prog w = .ok true w := by
      unfold isAgg
      rw [Sem.run_bind, run_underlying hu w]
      simp
    simp only [Instr.loadAt, Instr.sureAddr, Sem.run_bind, Sem.run_pure, Result.andThen]
    simp [loadVar, Sem.run_bind, hagg, sizeOf, typeInfo, hq, hs, hl]

theorem load_out {w : World} (h : Tabs w) : (Instr.loadAt 78 (.pointer (some ⟨0, 0, none⟩))).run Tryd.prog w = .ok (.agg outT.toArray) w :=
  load_tab 0 78 outT 4 77 Tryd.underlying78 (by kernel_rfl) h.out
theorem load_big {w : World} (h : Tabs w) : (Instr.loadAt 81 (.pointer (some ⟨1, 0, none⟩))).run Tryd.prog w = .ok (.agg bigT.toArray) w :=
  load_tab 1 81 bigT 8 80 Tryd.underlying81 (by kernel_rfl) h.big

/-- A load of what is known to be there, in one step. -/
theorem wpList_load_run {ops : Array Oper} {rest : List Oper} {o : Oper} {a : Act} {w : World} {Q : Exit → Act → World → Prop} (hgd : o.guard = none) (ty : TypeId) (x : Operand) (ho : o.op = .load ty x) (p v : Value)
    (hx : a.eval x = p) (hrun : (Instr.loadAt ty p).run Tryd.prog w = .ok v w) (h : wpList Tryd.prog ops Q rest (a.put o.dst v) w) : wpList Tryd.prog ops Q (o :: rest) a w :=
  wpList_plain hgd fun K hK => by
    unfold Oper.wp execOp
    simp only [ho, hx, Sem.run_bind, Sem.run_pure, Result.andThen_ok, hrun]
    exact hK _ _ h

set_option maxHeartbeats 400000 in
theorem has_low (f l s r : Int) (w : World) (hb : r < f) : Calls Tryd.prog 50 #[.agg #[R f, R l, R s], R r] w fun e w' => e = .returned (.bool false) ∧ Ext w w' := by
  go_enter Tryd.func50, Tryd.ntmps50
  go_wp2
  go_ret
  exact ⟨by simp, Ext.alloc _ _⟩

set_option maxHeartbeats 400000 in
theorem has_high (f l s r : Int) (w : World) (ha : f ≤ r) (hb : l < r) : Calls Tryd.prog 50 #[.agg #[R f, R l, R s], R r] w fun e w' => e = .returned (.bool false) ∧ Ext w w' := by
  go_enter Tryd.func50, Tryd.ntmps50
  go_wp2
  go_ret
  exact ⟨by simp, Ext.alloc _ _⟩

set_option maxHeartbeats 400000 in
theorem has_one (f l r : Int) (w : World) (h0 : 0 ≤ f) (h1 : l ≤ 100000) (ha : f ≤ r) (hb : r ≤ l) : Calls Tryd.prog 50 #[.agg #[R f, R l, R 1], R r] w fun e w' => e = .returned (.bool true) ∧ Ext w w' := by
  go_enter Tryd.func50, Tryd.ntmps50
  go_wp2
  go_ret
  exact ⟨by simp, Ext.alloc _ _⟩

set_option maxHeartbeats 400000 in
theorem has_two (r : Int) (w : World) (ha : 256 ≤ r) (hb : r ≤ 303) (b : Bool) (h : ((r - 256) % 2 == 0) = b) : Calls Tryd.prog 50 #[.agg #[R 256, R 303, R 2], R r] w fun e w' => e = .returned (.bool b) ∧ Ext w w' := by
  go_enter Tryd.func50, Tryd.ntmps50
  go_wp2
  go_ret
  exact ⟨by simp, Ext.alloc _ _⟩

/-- What one row tells. -/
def hasB (f l s r : Int) : Bool := decide (f ≤ r) && decide (r ≤ l) && ((r - f) % s == 0)
def Row (f l s : Int) : Prop := (0 ≤ f ∧ l ≤ 100000 ∧ s = 1) ∨ (f = 256 ∧ l = 303 ∧ s = 2)
theorem has_any (f l s r : Int) (hrow : Row f l s) (w : World) : Calls Tryd.prog 50 #[.agg #[R f, R l, R s], R r] w fun e w' => e = .returned (.bool (hasB f l s r)) ∧ Ext w w' := by
  unfold hasB
  by_cases h1 : f ≤ r
  · by_cases h2 : r ≤ l
    · rcases hrow with ⟨h3, h4, rfl⟩ | ⟨rfl, rfl, rfl⟩
      · have e : (decide (f ≤ r) && decide (r ≤ l) && ((r - f) % 1 == 0)) = true := by simp [h1, h2, Int.emod_one]
        rw [e]
        exact has_one f l r w h3 h4 h1 h2
      · have e : (decide ((256 : Int) ≤ r) && decide (r ≤ 303) && ((r - 256) % 2 == 0)) = ((r - 256) % 2 == 0) := by simp [h1, h2]
        rw [e]
        exact has_two r w h1 h2 _ rfl
    · have e : (decide (f ≤ r) && decide (r ≤ l) && ((r - f) % s == 0)) = false := by simp [h2]
      rw [e]
      exact has_high f l s r w h1 (by omega)
  · have e : (decide (f ≤ r) && decide (r ≤ l) && ((r - f) % s == 0)) = false := by simp [h1]
    rw [e]
    exact has_low f l s r w (by omega)
theorem hasB_yes {f l s r : Int} (h : hasB f l s r = true) : f ≤ r ∧ r ≤ l ∧ (r - f) % s = 0 := by
  unfold hasB at h
  simp only [Bool.and_eq_true, decide_eq_true_eq, beq_iff_eq] at h
  exact ⟨h.1.1, h.1.2, h.2⟩
theorem hasB_no {f l s r : Int} (h : hasB f l s r = false) : ¬ (f ≤ r ∧ r ≤ l ∧ (r - f) % s = 0) := by
  rintro ⟨h1, h2, h3⟩
  unfold hasB at h
  simp [h1, h2, h3] at h

theorem idx_out0 (w : World) : (Instr.index 78 (.agg outT.toArray) (.int .i64 0)).run Tryd.prog w = .ok (.agg #[R 173, R 173, R 1]) w := by kernel_rfl
theorem idx_out1 (w : World) : (Instr.index 78 (.agg outT.toArray) (.int .i64 1)).run Tryd.prog w = .ok (.agg #[R 8203, R 8205, R 1]) w := by kernel_rfl
theorem idx_out2 (w : World) : (Instr.index 78 (.agg outT.toArray) (.int .i64 2)).run Tryd.prog w = .ok (.agg #[R 8288, R 8288, R 1]) w := by kernel_rfl
theorem idx_out3 (w : World) : (Instr.index 78 (.agg outT.toArray) (.int .i64 3)).run Tryd.prog w = .ok (.agg #[R 65279, R 65279, R 1]) w := by kernel_rfl
def Hit (x : Int × Int × Int) (r : Int) : Prop := x.1 ≤ r ∧ r ≤ x.2.1 ∧ (r - x.1) % x.2.2 = 0
def outL : List (Int × Int × Int) := [(173, 173, 1), (8203, 8205, 1), (8288, 8288, 1), (65279, 65279, 1)]
def OutInv (r : Int) (k : Nat) : Prop := ∀ i, i < k → ¬ Hit (outL.getD i (0, 0, 1)) r
theorem out_zero (r : Int) : OutInv r 0 := fun i hi => absurd hi (by omega)
theorem out_next {r : Int} {k : Nat} (h : ¬ Hit (outL.getD k (0, 0, 1)) r) (hk : OutInv r k) : OutInv r (k + 1) := by
  intro i hi
  rcases Nat.lt_or_eq_of_le (Nat.le_of_lt_succ hi) with h' | rfl
  · exact hk i h'
  · exact h
theorem out_end {r : Int} (h : OutInv r 4) : lost r = false := by
  have h0 : ¬ (173 ≤ r ∧ r ≤ 173 ∧ (r - 173) % 1 = 0) := h 0 (by omega)
  have h1 : ¬ (8203 ≤ r ∧ r ≤ 8205 ∧ (r - 8203) % 1 = 0) := h 1 (by omega)
  have h2 : ¬ (8288 ≤ r ∧ r ≤ 8288 ∧ (r - 8288) % 1 = 0) := h 2 (by omega)
  have h3 : ¬ (65279 ≤ r ∧ r ≤ 65279 ∧ (r - 65279) % 1 = 0) := h 3 (by omega)
  clear h
  exact lost_false (by omega)

/-- What stands in each row of the first table. -/
theorem out_row (r : Int) (j : Nat) (hj : j < 4) : ∃ f l s, (∀ w : World, (Instr.index 78 (.agg outT.toArray) (.int .i64 (j : Int))).run Tryd.prog w = .ok (.agg #[R f, R l, R s]) w) ∧ Row f l s ∧
    (f ≤ r ∧ r ≤ l ∧ (r - f) % s = 0 → OutInv r j → lost r = true) ∧ (¬ (f ≤ r ∧ r ≤ l ∧ (r - f) % s = 0) → OutInv r j → OutInv r (j + 1)) := by
  have hj4 : j = 0 ∨ j = 1 ∨ j = 2 ∨ j = 3 := by omega
  rcases hj4 with rfl | rfl | rfl | rfl
  · exact ⟨173, 173, 1, idx_out0, .inl ⟨by omega, by omega, rfl⟩, fun h _ => (lost_iff r).2 (by omega), fun h k => out_next (k := 0) h k⟩
  · exact ⟨8203, 8205, 1, idx_out1, .inl ⟨by omega, by omega, rfl⟩, fun h _ => (lost_iff r).2 (by omega), fun h k => out_next (k := 1) h k⟩
  · exact ⟨8288, 8288, 1, idx_out2, .inl ⟨by omega, by omega, rfl⟩, fun h _ => (lost_iff r).2 (by omega), fun h k => out_next (k := 2) h k⟩
  · exact ⟨65279, 65279, 1, idx_out3, .inl ⟨by omega, by omega, rfl⟩, fun h _ => (lost_iff r).2 (by omega), fun h k => out_next (k := 3) h k⟩

set_option maxHeartbeats 800000 in
theorem left_any (r : Int) (w : World) (tb : Tabs w) : Calls Tryd.prog 33 #[R r] w fun e w' => e = .returned (.bool (lost r)) ∧ Ext w w' := by
  have hload := load_out tb
  have HR := hide (out_row r)
  have HE : Hid (OutInv r 4 → lost r = false) := out_end
  generalize lost r = lo at *
  generalize outT.toArray = A at *
  go_enter Tryd.func33, Tryd.ntmps33
  go_wp2_with (refine wpList_load_run rfl 78 (.global 0) rfl _ _ rfl hload ?_)
  clear hload tb
  go_loopw [6] (fun i wr => ∃ j : Nat, j ≤ 4 ∧ i = .int .i64 j ∧ OutInv r j ∧ Ext w wr) (fun i _ => 4 - (intOf i).toNat)
  case atStart => exact ⟨0, by omega, rfl, out_zero r, Ext.refl _⟩
  case round =>
    obtain ⟨j, hj, rfl, hinv, hxr⟩ := hrel
    by_cases hj4 : j < 4
    · obtain ⟨f, l, s, ix, hrow, hit, miss⟩ := unhide HR j hj4
      have HH := hide (has_any f l s r hrow)
      have HI := hide (fun h => hit (hasB_yes h) hinv)
      have HM := hide (fun h => miss (hasB_no h) hinv)
      clear hit miss hrow HR HE hinv
      go_wp2_with fail
      refine (unhide HH _).mono ?_
      rintro e w2 ⟨rfl, hx2⟩
      have hx2 : Ext w w2 := (hxr.trans (Ext.alloc _ _)).trans hx2
      clear HH ix
      cases hb : hasB f l s r
      · have hno := unhide HM hb
        clear hb HM HI
        go_wp2
        go_roundw
        case rel => exact ⟨j + 1, by omega, by go_num, hno, hx2⟩
        case measure => simp [intOf]; omega
      · have hy := unhide HI hb
        clear hb HM HI
        go_wp2
        go_ret
        exact ⟨by rw [hy]; rfl, hx2⟩
    · have hj4 : j = 4 := by omega
      subst hj4
      have he := unhide HE hinv
      clear HR HE hinv
      go_wp2
      go_ret
      exact ⟨by rw [he]; rfl, hxr⟩

theorem idx_big0 (w : World) : (Instr.index 81 (.agg bigT.toArray) (.int .i64 0)).run Tryd.prog w = .ok (.agg #[R 65, R 90, R 1, R 32]) w := by kernel_rfl
theorem idx_big1 (w : World) : (Instr.index 81 (.agg bigT.toArray) (.int .i64 1)).run Tryd.prog w = .ok (.agg #[R 192, R 214, R 1, R 32]) w := by kernel_rfl
theorem idx_big2 (w : World) : (Instr.index 81 (.agg bigT.toArray) (.int .i64 2)).run Tryd.prog w = .ok (.agg #[R 216, R 222, R 1, R 32]) w := by kernel_rfl
theorem idx_big3 (w : World) : (Instr.index 81 (.agg bigT.toArray) (.int .i64 3)).run Tryd.prog w = .ok (.agg #[R 256, R 303, R 2, R 1]) w := by kernel_rfl
theorem idx_big4 (w : World) : (Instr.index 81 (.agg bigT.toArray) (.int .i64 4)).run Tryd.prog w = .ok (.agg #[R 913, R 929, R 1, R 32]) w := by kernel_rfl
theorem idx_big5 (w : World) : (Instr.index 81 (.agg bigT.toArray) (.int .i64 5)).run Tryd.prog w = .ok (.agg #[R 931, R 937, R 1, R 32]) w := by kernel_rfl
theorem idx_big6 (w : World) : (Instr.index 81 (.agg bigT.toArray) (.int .i64 6)).run Tryd.prog w = .ok (.agg #[R 1024, R 1039, R 1, R 80]) w := by kernel_rfl
theorem idx_big7 (w : World) : (Instr.index 81 (.agg bigT.toArray) (.int .i64 7)).run Tryd.prog w = .ok (.agg #[R 1040, R 1071, R 1, R 32]) w := by kernel_rfl
def bigL : List (Int × Int × Int) := [(65, 90, 1), (192, 214, 1), (216, 222, 1), (256, 303, 2), (913, 929, 1), (931, 937, 1), (1024, 1039, 1), (1040, 1071, 1)]
def BigInv (r : Int) (k : Nat) : Prop := ∀ i, i < k → ¬ Hit (bigL.getD i (0, 0, 1)) r
theorem big_zero (r : Int) : BigInv r 0 := fun i hi => absurd hi (by omega)
theorem big_next {r : Int} {k : Nat} (h : ¬ Hit (bigL.getD k (0, 0, 1)) r) (hk : BigInv r k) : BigInv r (k + 1) := by
  intro i hi
  rcases Nat.lt_or_eq_of_le (Nat.le_of_lt_succ hi) with h' | rfl
  · exact hk i h'
  · exact h
theorem big_end {r : Int} (hd : ¬ (r = 12290 ∨ r = 65377)) (h : BigInv r 8) : r = small r := by
  have h0 : ¬ (65 ≤ r ∧ r ≤ 90 ∧ (r - 65) % 1 = 0) := h 0 (by omega)
  have h1 : ¬ (192 ≤ r ∧ r ≤ 214 ∧ (r - 192) % 1 = 0) := h 1 (by omega)
  have h2 : ¬ (216 ≤ r ∧ r ≤ 222 ∧ (r - 216) % 1 = 0) := h 2 (by omega)
  have h3 : ¬ (256 ≤ r ∧ r ≤ 303 ∧ (r - 256) % 2 = 0) := h 3 (by omega)
  have h4 : ¬ (913 ≤ r ∧ r ≤ 929 ∧ (r - 913) % 1 = 0) := h 4 (by omega)
  have h5 : ¬ (931 ≤ r ∧ r ≤ 937 ∧ (r - 931) % 1 = 0) := h 5 (by omega)
  have h6 : ¬ (1024 ≤ r ∧ r ≤ 1039 ∧ (r - 1024) % 1 = 0) := h 6 (by omega)
  have h7 : ¬ (1040 ≤ r ∧ r ≤ 1071 ∧ (r - 1040) % 1 = 0) := h 7 (by omega)
  clear h
  by_cases he : 256 ≤ r ∧ r ≤ 303
  · rw [small_e he]
    clear h0 h1 h2 h4 h5 h6 h7
    omega
  · have k0 : ¬ (65 ≤ r ∧ r ≤ 90) := by clear h1 h2 h3 h4 h5 h6 h7; omega
    have k1 : ¬ (192 ≤ r ∧ r ≤ 222 ∧ r ≠ 215) := by clear h0 h3 h4 h5 h6 h7; omega
    have k2 : ¬ (913 ≤ r ∧ r ≤ 937 ∧ r ≠ 930) := by clear h0 h1 h2 h3 h6 h7; omega
    have k3 : ¬ (1040 ≤ r ∧ r ≤ 1071) := by clear h0 h1 h2 h3 h4 h5 h6; omega
    have k4 : ¬ (1024 ≤ r ∧ r ≤ 1039) := by clear h0 h1 h2 h3 h4 h5 h7; omega
    exact (small_s hd (fun h => h.elim k0 fun h => h.elim k1 fun h => h.elim k2 k3) k4 he).symm

/-- What stands in each row of the second table. -/
theorem big_row (r : Int) (hd : ¬ (r = 12290 ∨ r = 65377)) (j : Nat) (hj : j < 8) : ∃ f l s m, (∀ w : World, (Instr.index 81 (.agg bigT.toArray) (.int .i64 (j : Int))).run Tryd.prog w = .ok (.agg #[R f, R l, R s, R m]) w) ∧ Row f l s ∧
    (f ≤ r ∧ r ≤ l ∧ (r - f) % s = 0 → BigInv r j → small r = r + m ∧ 0 ≤ r + m ∧ r + m ≤ 2000) ∧ (¬ (f ≤ r ∧ r ≤ l ∧ (r - f) % s = 0) → BigInv r j → BigInv r (j + 1)) := by
  have hj8 : j = 0 ∨ j = 1 ∨ j = 2 ∨ j = 3 ∨ j = 4 ∨ j = 5 ∨ j = 6 ∨ j = 7 := by omega
  rcases hj8 with rfl | rfl | rfl | rfl | rfl | rfl | rfl | rfl
  · exact ⟨65, 90, 1, 32, idx_big0, .inl ⟨by omega, by omega, rfl⟩, fun h _ => ⟨small_u (by omega), by omega, by omega⟩, fun h k => big_next (k := 0) h k⟩
  · exact ⟨192, 214, 1, 32, idx_big1, .inl ⟨by omega, by omega, rfl⟩, fun h _ => ⟨small_u (by omega), by omega, by omega⟩, fun h k => big_next (k := 1) h k⟩
  · exact ⟨216, 222, 1, 32, idx_big2, .inl ⟨by omega, by omega, rfl⟩, fun h _ => ⟨small_u (by omega), by omega, by omega⟩, fun h k => big_next (k := 2) h k⟩
  · exact ⟨256, 303, 2, 1, idx_big3, .inr ⟨rfl, rfl, rfl⟩, fun h _ => ⟨by rw [small_e (by omega)]; omega, by omega, by omega⟩, fun h k => big_next (k := 3) h k⟩
  · exact ⟨913, 929, 1, 32, idx_big4, .inl ⟨by omega, by omega, rfl⟩, fun h _ => ⟨small_u (by omega), by omega, by omega⟩, fun h k => big_next (k := 4) h k⟩
  · exact ⟨931, 937, 1, 32, idx_big5, .inl ⟨by omega, by omega, rfl⟩, fun h _ => ⟨small_u (by omega), by omega, by omega⟩, fun h k => big_next (k := 5) h k⟩
  · exact ⟨1024, 1039, 1, 80, idx_big6, .inl ⟨by omega, by omega, rfl⟩, fun h _ => ⟨small_c (by omega), by omega, by omega⟩, fun h k => big_next (k := 6) h k⟩
  · exact ⟨1040, 1071, 1, 32, idx_big7, .inl ⟨by omega, by omega, rfl⟩, fun h _ => ⟨small_u (by omega), by omega, by omega⟩, fun h k => big_next (k := 7) h k⟩

set_option maxHeartbeats 1600000 in
theorem small_any (r : Int) (w : World) (hr : -2147483648 ≤ r ∧ r ≤ 2147483647) (hd : ¬ (r = 12290 ∨ r = 65377)) (tb : Tabs w) : Calls Tryd.prog 34 #[R r] w fun e w' => e = .returned (R (small r)) ∧ Ext w w' := by
  have hload := load_big tb
  have HR := hide (big_row r hd)
  have HE : Hid (BigInv r 8 → r = small r) := big_end hd
  generalize small r = sr at *
  generalize bigT.toArray = A at *
  clear hd
  go_enter Tryd.func34, Tryd.ntmps34
  go_wp2_with (refine wpList_load_run rfl 81 (.global 1) rfl _ _ rfl hload ?_)
  clear hload tb
  go_loopw [6] (fun i wr => ∃ j : Nat, j ≤ 8 ∧ i = .int .i64 j ∧ BigInv r j ∧ Ext w wr) (fun i _ => 8 - (intOf i).toNat)
  case atStart => exact ⟨0, by omega, rfl, big_zero r, Ext.refl _⟩
  case round =>
    obtain ⟨j, hj, rfl, hinv, hxr⟩ := hrel
    by_cases hj8 : j < 8
    · obtain ⟨f, l, s, m, ix, hrow, hit, miss⟩ := unhide HR j hj8
      have HH := hide (has_any f l s r hrow)
      have HI := hide (fun h => hit (hasB_yes h) hinv)
      have HM := hide (fun h => miss (hasB_no h) hinv)
      clear hit miss hrow HR HE hinv
      go_wp2_with fail
      refine (unhide HH _).mono ?_
      rintro e w2 ⟨rfl, hx2⟩
      clear HH ix
      have cell3 : w2.cell? ⟨wr.heap.size, 3, none⟩ = some (R m) := by
        rw [show w2.cell? ⟨wr.heap.size, 3, none⟩ = (wr.alloc (.cells #[R f, R l, R s, R m] 80)).cell? ⟨wr.heap.size, 3, none⟩ from hx2.cell (p := ⟨wr.heap.size, 3, none⟩) (by show wr.heap.size < (wr.heap.push _).size; simp)]
        rw [World.cell?_alloc_mark]
        rfl
      have hx2 : Ext w w2 := (hxr.trans (Ext.alloc _ _)).trans hx2
      cases hb : hasB f l s r
      · have hno := unhide HM hb
        clear hb HM HI cell3
        go_wp2
        go_roundw
        case rel => exact ⟨j + 1, by omega, by go_num, hno, hx2⟩
        case measure => simp [intOf]; omega
      · obtain ⟨hy, h1, h2⟩ := unhide HI hb
        clear hb HM HI
        have h3 : r + m ≤ 2147483647 := by omega
        have h4 : -2147483648 ≤ r + m := by omega
        go_wp2
        go_ret
        exact ⟨by simp [hy], hx2⟩
    · have hj8 : j = 8 := by omega
      subst hj8
      have he := unhide HE hinv
      clear HR HE hinv
      go_wp2
      go_ret
      exact ⟨by rw [← he]; rfl, hxr⟩
end Go.Proofs.YtgnkhfmpooomkaaDoor
