/-
  The reader of a long address, as it lies in memory; its cursor.
-/
import Derived.Test.YtfaobhaogenijaaDoorI6R
import Derived.Test.YtfaobhaogenijaaDoorI4F
namespace Go.Proofs.YtfaobhaogenijaaDoor
set_option linter.unusedVariables false
open Go.RowKit

/-- What the library's own variables hold. -/
structure Tb8 (w : World) : Prop where
  four : Tb4 w
  tz : w.cell? ⟨5, 15, none⟩ = some (.int .u8 4)
  es : ∃ te pe, w.cell? ⟨2, 0, none⟩ = some (.iface te pe)
theorem Tb8.below {w w' : World} (h : Tb8 w) (hx : Ext w w') : Tb8 w' :=
  ⟨h.four.below hx, (hx.cell (p := ⟨5, 15, none⟩) (cell_lt h.tz)).trans h.tz, by
    obtain ⟨te, pe, he⟩ := h.es
    exact ⟨te, pe, (hx.cell (p := ⟨2, 0, none⟩) (cell_lt he)).trans he⟩⟩
/-- They hold it whatever is done from block b on. -/
def TbF (b : Nat) (w : World) : Prop := ∀ w', Below b w w' → Tb8 w'
theorem TbF.on {b : Nat} {w w' : World} (h : TbF b w) (hb : Below b w w') : TbF b w' := fun w2 h2 => h w2 (hb.trans h2)
theorem TbF.tb {b : Nat} {w : World} (h : TbF b w) : Tb8 w := h w (Below.refl _ _)
theorem TbF.of {b : Nat} {w : World} (h : Tb8 w) (hb : w.heap.size ≤ b) : TbF b w := fun w' hx => h.below (Below.mono hx hb)

/-- The text's place k, the pieces so far, how many stand ahead of the gap. -/
def rdX (s : List UInt8) (k : Nat) (ps : List Nat) (g : Int) : Array Value := #[S s, .int .i64 (k : Int), U (ps.getD 0 0), U (ps.getD 1 0), U (ps.getD 2 0), U (ps.getD 3 0), U (ps.getD 4 0), U (ps.getD 5 0), U (ps.getD 6 0), U (ps.getD 7 0), .int .i64 (ps.length : Int), .int .i64 g]
def Rd (W : World) (b : Nat) (s : List UInt8) (k : Nat) (ps : List Nat) (g : Int) : Prop := W.heap[b]? = some (.cells (rdX s k ps g) 33 (0, 0))
theorem Rd.lt {W : World} {b : Nat} {s : List UInt8} {k : Nat} {ps : List Nat} {g : Int} (h : Rd W b s k ps g) : b < W.heap.size := by
  rcases Nat.lt_or_ge b W.heap.size with h' | h'
  · exact h'
  · unfold Rd at h
    rw [Array.getElem?_eq_none h'] at h
    cases h
theorem Rd.cell {W : World} {b : Nat} {s : List UInt8} {k : Nat} {ps : List Nat} {g : Int} (h : Rd W b s k ps g) (i : Nat) : W.cell? ⟨b, i, none⟩ = (rdX s k ps g)[i]? := by
  unfold Rd at h
  simp [World.cell?, h]
theorem Rd.froz {W : World} {b : Nat} {s : List UInt8} {k : Nat} {ps : List Nat} {g : Int} (h : Rd W b s k ps g) (i : Nat) : W.frozen? ⟨b, i, none⟩ = false := by
  unfold Rd at h
  simp [World.frozen?, h]
theorem Rd.text {W : World} {b : Nat} {s : List UInt8} {k : Nat} {ps : List Nat} {g : Int} (h : Rd W b s k ps g) : W.cell? ⟨b, 0, none⟩ = some (S s) := h.cell 0
theorem Rd.at {W : World} {b : Nat} {s : List UInt8} {k : Nat} {ps : List Nat} {g : Int} (h : Rd W b s k ps g) : W.cell? ⟨b, 1, none⟩ = some (.int .i64 (k : Int)) := h.cell 1
theorem Rd.count {W : World} {b : Nat} {s : List UInt8} {k : Nat} {ps : List Nat} {g : Int} (h : Rd W b s k ps g) : W.cell? ⟨b, 10, none⟩ = some (.int .i64 (ps.length : Int)) := h.cell 10
theorem Rd.gap {W : World} {b : Nat} {s : List UInt8} {k : Nat} {ps : List Nat} {g : Int} (h : Rd W b s k ps g) : W.cell? ⟨b, 11, none⟩ = some (.int .i64 g) := h.cell 11
theorem Rd.drewN {W : World} {b : Nat} {s : List UInt8} {k : Nat} {ps : List Nat} {g : Int} (h : Rd W b s k ps g) (n : Nat) : Rd (W.drewN n) b s k ps g := h
theorem Rd.ext {W W' : World} {b : Nat} {s : List UInt8} {k : Nat} {ps : List Nat} {g : Int} (h : Rd W b s k ps g) (hx : Ext W W') : Rd W' b s k ps g := (hx.block b h.lt).trans h
theorem Rd.setAt {W : World} {b : Nat} {s : List UInt8} {k : Nat} {ps : List Nat} {g : Int} (h : Rd W b s k ps g) (k' : Nat) : Rd (W.setCell ⟨b, 1, none⟩ (.int .i64 (k' : Int))) b s k' ps g := by
  unfold Rd at *
  simp [World.setCell, Array.getElem?_modify, h]
  rfl
theorem Rd.setGap {W : World} {b : Nat} {s : List UInt8} {k : Nat} {ps : List Nat} {g : Int} (h : Rd W b s k ps g) (g' : Int) : Rd (W.setCell ⟨b, 11, none⟩ (.int .i64 g')) b s k ps g' := by
  unfold Rd at *
  simp [World.setCell, Array.getElem?_modify, h]
  rfl
theorem below_set {B b i : Nat} {v : Value} {w : World} (hB : B ≤ b) : Below B w (w.setCell ⟨b, i, none⟩ v) :=
  ⟨rfl, rfl, rfl, by simp [World.setCell], fun k hk => by simp [World.setCell, Array.getElem?_modify, show b ≠ k by omega]⟩

/-- A word: what stands ahead of the next colon. -/
def wdO (s : List UInt8) : List UInt8 := (Lib.cut s [58]).1
theorem wd_facts (s : List UInt8) : noCol (wdO s) ∧ s = wdO s ++ s.drop (wdO s).length ∧ (s.drop (wdO s).length = [] ∨ ∃ r, s.drop (wdO s).length = 58 :: r) := by
  unfold wdO Lib.cut
  have hge := Lib.indexByte_ge s 58
  by_cases h : Lib.indexByte s 58 = -1
  · have h2 : ¬ 0 ≤ Lib.index s [58] := by rw [Lib.index_one]; omega
    rw [if_neg h2]
    refine ⟨fun x hx e => ?_, by simp, .inl (by simp)⟩
    obtain ⟨j, hj, rfl⟩ := List.mem_iff_getElem.1 hx
    have := Lib.indexByte_none h j
    rw [List.getElem?_eq_getElem hj, e] at this
    exact this rfl
  · obtain ⟨o, ho⟩ : ∃ o : Nat, Lib.indexByte s 58 = o := ⟨(Lib.indexByte s 58).toNat, by omega⟩
    have h2 : 0 ≤ Lib.index s [58] := by rw [Lib.index_one]; omega
    rw [if_pos h2]
    obtain ⟨h3, h4⟩ := Lib.indexByte_some ho
    have hol : o < s.length := (List.getElem?_eq_some_iff.1 h3).1
    have e : (Lib.index s [58]).toNat = o := by rw [Lib.index_one, ho]; rfl
    rw [e]
    have hl : (s.take o).length = o := by rw [List.length_take]; omega
    refine ⟨fun x hx e => ?_, by rw [hl, List.take_append_drop], .inr ⟨s.drop (o + 1), ?_⟩⟩
    · obtain ⟨j, hj, rfl⟩ := List.mem_iff_getElem.1 hx
      rw [hl] at hj
      rw [List.getElem_take] at e
      have := h4 j hj
      rw [List.getElem?_eq_getElem (by omega), e] at this
      exact this rfl
    · show s.drop (s.take o).length = _
      rw [hl, List.drop_eq_getElem_cons hol]
      congr 1
      rw [List.getElem?_eq_getElem hol] at h3
      exact Option.some.inj h3
theorem wd_len (s : List UInt8) : (wdO s).length ≤ s.length := by
  have := (wd_facts s).2.1
  have := congrArg List.length this
  rw [List.length_append] at this
  omega
theorem has_46 (p : List UInt8) : decide (0 ≤ Lib.indexByte p 46) = decide ((46 : UInt8) ∈ p) := by
  have hge := Lib.indexByte_ge p 46
  by_cases h : Lib.indexByte p 46 = -1
  · have h2 : ¬ (46 : UInt8) ∈ p := fun hx => by
      obtain ⟨j, hj, e⟩ := List.mem_iff_getElem.1 hx
      have := Lib.indexByte_none h j
      rw [List.getElem?_eq_getElem hj, e] at this
      exact this rfl
    rw [decide_eq_false h2, decide_eq_false (by omega)]
  · obtain ⟨o, ho⟩ : ∃ o : Nat, Lib.indexByte p 46 = o := ⟨(Lib.indexByte p 46).toNat, by omega⟩
    have h2 : (46 : UInt8) ∈ p := List.mem_of_getElem? (Lib.indexByte_some ho).1
    rw [decide_eq_true h2, decide_eq_true (by omega)]

set_option maxHeartbeats 1000000 in
set_option maxRecDepth 100000 in
theorem ended_any (b : Nat) (s : List UInt8) (k : Nat) (ps : List Nat) (g : Int) (W : World) (h : Rd W b s k ps g) (hk : k ≤ s.length) (hs : s.length ≤ 100000) :
    Calls Tryd.prog 16 #[.pointer (some ⟨b, 0, none⟩)] W fun e w' => e = .returned (.bool (decide (s.drop k = []))) ∧ Rd w' b s k ps g ∧ Below b W w' := by
  have c0 := h.text
  have c1 := h.at
  have hsz := size_S s
  have e1 : ((k : Int) == (s.length : Int)) = decide (s.drop k = []) := by
    by_cases hq : k = s.length
    · rw [decide_eq_true (by rw [hq]; simp)]
      simp [hq]
    · rw [decide_eq_false (by simp; omega)]
      rw [beq_eq_false_iff_ne]
      omega
  have HR := hide h
  clear h
  generalize decide (s.drop k = []) = z at *
  go_enter Tryd.func16, Tryd.ntmps16
  go_wp2_with fail
  go_quiet (fail)
  go_wp2
  go_ret
  exact ⟨rfl, (unhide HR).drewN _, below_drewN (Below.refl _ _) _⟩

set_option maxHeartbeats 2000000 in
set_option maxRecDepth 100000 in
theorem take_any (b : Nat) (s : List UInt8) (k : Nat) (ps : List Nat) (g : Int) (c : List UInt8) (W : World) (h : Rd W b s k ps g) (hk : k ≤ s.length) (hs : s.length ≤ 100000) (hc : c.length ≤ 2) :
    Calls Tryd.prog 15 #[.pointer (some ⟨b, 0, none⟩), S c] W fun e w' => e = .returned (.bool (c.isPrefixOf (s.drop k))) ∧ Rd w' b s (if c.isPrefixOf (s.drop k) = true then k + c.length else k) ps g ∧ Below b W w' := by
  have c0 := h.text
  have c1 := h.at
  have f1 := h.froz 1
  have hsz := size_S s
  have hsc := size_S c
  have HD := hide (fun v => run_drop v s k hk)
  have HP : Hid (∀ w, Calls Tryd.prog 24 #[S (s.drop k), S c] w fun e w' => e = .returned (.bool (c.isPrefixOf (s.drop k))) ∧ w' = w) := fun w => Tryd.strings_HasPrefix ⟨(s.drop k).toArray⟩ ⟨c.toArray⟩ w
  have HR := hide h
  clear h
  generalize c.isPrefixOf (s.drop k) = z at *
  generalize s.drop k = t at *
  go_enter Tryd.func15, Tryd.ntmps15
  have hd := unhide HD
  go_wp2_with fail
  go_quiet ((go_at_call 24; exact Calls.quiet_of_same (unhide HP _)))
  cases z with
  | false =>
    clear HP HD hd
    go_wp2
    go_ret
    exact ⟨rfl, (unhide HR).drewN _, below_drewN (Below.refl _ _) _⟩
  | true =>
    clear HP HD hd
    have HR2 := hide (((unhide HR).drewN nq).setAt (k + c.length))
    have HB2 : Hid (Below b W ((W.drewN nq).setCell ⟨b, 1, none⟩ (.int .i64 ((k + c.length : Nat) : Int)))) := (below_drewN (Below.refl _ _) _).trans (below_set (Nat.le_refl _))
    rw [show ((k + c.length : Nat) : Int) = (k : Int) + (c.length : Int) by omega] at HR2 HB2
    go_wp2
    go_ret
    exact ⟨rfl, unhide HR2, unhide HB2⟩

set_option maxHeartbeats 2000000 in
set_option maxRecDepth 100000 in
theorem word_any (b : Nat) (s : List UInt8) (k : Nat) (ps : List Nat) (g : Int) (W : World) (h : Rd W b s k ps g) (hk : k ≤ s.length) (hs : s.length ≤ 100000) (tb : TbF b W) :
    Calls Tryd.prog 25 #[.pointer (some ⟨b, 0, none⟩)] W fun e w' => e = .returned (S (wdO (s.drop k))) ∧ Rd w' b s (k + (wdO (s.drop k)).length) ps g ∧ Below b W w' := by
  have c0 := h.text
  have c1 := h.at
  have f1 := h.froz 1
  have hsz := size_S s
  have HD := hide (fun v => run_drop v s k hk)
  obtain ⟨m, hm⟩ := tb.tb.four.max
  obtain ⟨u, v, HP⟩ : ∃ u v, Hid (∀ q, Calls Tryd.prog 31 #[S (s.drop k), .string ⟨#[58]⟩] (W.drewN q) fun e w' => e = .returned (.tuple #[S (wdO (s.drop k)), u, v]) ∧ ∃ n, w' = (W.drewN q).drewN n) :=
    ⟨_, _, fun q => Tryd.strings_Cut ⟨(s.drop k).toArray⟩ ⟨#[58]⟩ m (W.drewN q) (by rw [size_S]; simp; omega) hm⟩
  have hwl := wd_len (s.drop k)
  rw [List.length_drop] at hwl
  have HR := hide h
  clear h
  generalize wdO (s.drop k) = z at *
  generalize s.drop k = t at *
  have hsc := size_S z
  go_enter Tryd.func25, Tryd.ntmps25
  have hd := unhide HD
  go_wp2_with fail
  go_quiet ((go_at_call 31; exact Calls.quiet_of (unhide HP _)))
  clear HP HD hd
  have HR2 := hide (((unhide HR).drewN nq).setAt (k + z.length))
  have HB2 : Hid (Below b W ((W.drewN nq).setCell ⟨b, 1, none⟩ (.int .i64 ((k + z.length : Nat) : Int)))) := (below_drewN (Below.refl _ _) _).trans (below_set (Nat.le_refl _))
  rw [show ((k + z.length : Nat) : Int) = (k : Int) + (z.length : Int) by omega] at HR2 HB2
  go_wp2
  go_ret
  exact ⟨rfl, unhide HR2, unhide HB2⟩
end Go.Proofs.YtfaobhaogenijaaDoor
