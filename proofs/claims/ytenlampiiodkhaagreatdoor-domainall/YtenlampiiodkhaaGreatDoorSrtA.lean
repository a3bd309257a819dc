/-
  A row of numbers in memory that a sort of the library puts in order: what an exchange makes of it; the exchange of two blocks.
-/
import Derived.Test.YtenlampiiodkhaaGreatDoorSrt
import Derived.BigRegion
import Derived.Deep.LoopGhost
namespace Go.Proofs.YtenlampiiodkhaaGreatDoor
set_option linter.unusedVariables false
open Go.RowKit

/-- Nothing but this block has turned. -/
structure Oth (blk : Nat) (w0 W : World) : Prop where
  os : W.os = w0.os
  tape : W.tape = w0.tape
  output : W.output = w0.output
  size : W.heap.size = w0.heap.size
  block : ∀ g, g ≠ blk → W.heap[g]? = w0.heap[g]?
theorem Oth.refl (blk : Nat) (w : World) : Oth blk w w := ⟨rfl, rfl, rfl, rfl, fun _ _ => rfl⟩
theorem Oth.drewN {blk : Nat} {w0 W : World} (h : Oth blk w0 W) (n : Nat) : Oth blk w0 (W.drewN n) := ⟨h.os, h.tape, h.output, h.size, h.block⟩
theorem Oth.setCell {blk : Nat} {w0 W : World} (h : Oth blk w0 W) (p : Nat) (v : Value) : Oth blk w0 (W.setCell ⟨blk, p, none⟩ v) :=
  ⟨h.os, h.tape, h.output, by rw [← h.size]; simp [World.setCell], fun g hg => by rw [Below.heap_setCell _ _ _ _ hg]; exact h.block g hg⟩
theorem Oth.cell {blk : Nat} {w0 W : World} (h : Oth blk w0 W) {p : Addr} (hp : p.block ≠ blk) : W.cell? p = w0.cell? p := World.cell?_of_block (w := w0) (h.block p.block hp)
theorem Oth.below {blk B : Nat} {w w0 W : World} (h : Oth blk w0 W) (hb : Below B w w0) (hB : B ≤ blk) : Below B w W :=
  ⟨h.os.trans hb.os, h.tape.trans hb.tape, h.output.trans hb.output, by rw [h.size]; exact hb.size, fun k hk => by rw [h.block k (by omega)]; exact hb.block k hk⟩

/-- A block of numbers. -/
def IB (w : World) (b : Nat) : Prop := ∃ X fz, w.heap[b]? = some (.cells X 3 fz)
theorem IB.setCell {W : World} {b : Nat} (h : IB W b) (i : Nat) (v : Value) : IB (W.setCell ⟨b, i, none⟩ v) b := by
  obtain ⟨X, fz, h⟩ := h
  refine ⟨X.setIfInBounds i v, fz, ?_⟩
  simp [World.setCell, Array.getElem?_modify, h]

structure SRow (w0 : World) (blk off n L : Nat) (f : Nat → Nat) (W : World) : Prop where
  cell : ∀ i, i < n → W.cell? ⟨blk, off + i, none⟩ = some (.int .i64 (f i : Int))
  fz : ∀ i, i < n → W.frozen? ⟨blk, off + i, none⟩ = false
  lt : ∀ i, i < n → f i < L
  oth : Oth blk w0 W
  ty : IB W blk

theorem SRow.drewN {w0 W : World} {blk off n L : Nat} {f : Nat → Nat} (h : SRow w0 blk off n L f W) (k : Nat) : SRow w0 blk off n L f (W.drewN k) := ⟨h.cell, h.fz, h.lt, h.oth.drewN k, h.ty⟩
theorem SRow.drew {w0 W : World} {blk off n L : Nat} {f : Nat → Nat} (h : SRow w0 blk off n L f W) : SRow w0 blk off n L f W.drew := h.drewN 1
theorem SRow.sw {w0 W : World} {blk off n L : Nat} {f : Nat → Nat} (h : SRow w0 blk off n L f W) (i j : Nat) (hi : i < n) (hj : j < n) :
    SRow w0 blk off n L (sw f i j) ((W.setCell ⟨blk, off + i, none⟩ (.int .i64 (f j : Int))).setCell ⟨blk, off + j, none⟩ (.int .i64 (f i : Int))).drew := by
  have c1 : ∀ x, x < n → (W.setCell ⟨blk, off + i, none⟩ (.int .i64 (f j : Int))).cell? ⟨blk, off + x, none⟩ = some (.int .i64 ((if x = i then f j else f x : Nat) : Int)) := by
    intro x hx
    by_cases e : x = i
    · subst e
      rw [if_pos rfl]
      exact World.cell?_setCell_same _ _ _ (h.cell x hx)
    · rw [if_neg e, World.cell?_setCell_other _ _ _ _ (by intro e'; simp only [Addr.mk.injEq] at e'; omega)]
      exact h.cell x hx
  refine SRow.drew ⟨fun x hx => ?_, fun x hx => ?_, fun x hx => ?_, (h.oth.setCell _ _).setCell _ _, (h.ty.setCell _ _).setCell _ _⟩
  · unfold Proofs.YtenlampiiodkhaaGreatDoor.sw
    by_cases e : x = j
    · subst e
      rw [World.cell?_setCell_same _ _ _ (c1 x hx)]
      by_cases e2 : x = i
      · rw [if_pos e2, e2]
      · rw [if_neg e2, if_pos rfl]
    · rw [World.cell?_setCell_other _ _ _ _ (by intro e'; simp only [Addr.mk.injEq] at e'; omega), c1 x hx, if_neg e]
  · rw [World.frozen?_setCell, World.frozen?_setCell]
    exact h.fz x hx
  · unfold Proofs.YtenlampiiodkhaaGreatDoor.sw
    repeat' split
    · exact h.lt j hj
    · exact h.lt i hi
    · exact h.lt x hx
theorem SRow.c2 {w0 W : World} {blk off n L : Nat} {f : Nat → Nat} (h : SRow w0 blk off n L f W) (i j : Nat) (hi : i < n) (hj : j < n) (v : Value) : ∃ u, (W.setCell ⟨blk, off + i, none⟩ v).cell? ⟨blk, off + j, none⟩ = some u := by
  by_cases e : i = j
  · subst e; exact ⟨v, World.cell?_setCell_same _ _ _ (h.cell i hi)⟩
  · exact ⟨_, (World.cell?_setCell_other _ _ _ _ (by intro e'; simp only [Addr.mk.injEq] at e'; omega)).trans (h.cell j hj)⟩

set_option maxHeartbeats 4000000 in
set_option maxRecDepth 100000 in
theorem swapRange_any (w0 : World) (blk off n cap L : Nat) (f : Nat → Nat) (cv : Value) (a b m : Nat) (w : World) (hr : SRow w0 blk off n L f w) (hn : n ≤ 1000) (hab : a + m ≤ b) (hb : b + m ≤ n) :
    Calls Tryz.prog 228 #[.slice (some ⟨blk, off, none⟩) n cap, .int .i64 (a : Int), .int .i64 (b : Int), .int .i64 (m : Int), cv] w fun e w' => e = .returned (.tuple #[]) ∧ SRow w0 blk off n L (swr f a b m) w' := by
  go_enter Tryz.func228, Tryz.ntmps228
  have HR := hide hr
  clear hr
  go_wp2_with fail
  go_loopw [10] (fun i wr => ∃ k : Nat, k ≤ m ∧ i = .int .i64 k ∧ Hid (SRow w0 blk off n L (swr f a b k) wr)) (fun i _ => m - (intOf i).toNat)
  case atStart => exact ⟨0, by omega, rfl, by rw [swr_zero]; exact HR⟩
  case round =>
    clear HR
    obtain ⟨k, hk, rfl, S⟩ := hrel
    by_cases hkm : k < m
    · obtain ⟨iN, hiN⟩ : ∃ q, q = a + k := ⟨_, rfl⟩
      obtain ⟨jN, hjN⟩ : ∃ q, q = b + k := ⟨_, rfl⟩
      have S0 := unhide S
      generalize hg : swr f a b k = g at *
      have S3 : Hid (SRow w0 blk off n L (swr f a b (k + 1)) ((wr.setCell ⟨blk, off + iN, none⟩ (.int .i64 (g jN : Int))).setCell ⟨blk, off + jN, none⟩ (.int .i64 (g iN : Int))).drew) := by
        have := S0.sw (a + k) (b + k) (by omega) (by omega)
        rw [← hg, swr_step f (by omega), hg] at this
        rw [hiN, hjN]
        exact this
      have c1 := S0.cell iN (by omega)
      have c2 := S0.cell jN (by omega)
      have f1 := S0.fz iN (by omega)
      have f2 := S0.fz jN (by omega)
      obtain ⟨u, c3⟩ := S0.c2 iN jN (by omega) (by omega) (.int .i64 (g jN : Int))
      have e1 : ((a : Int) + (k : Int)).toNat = iN := by omega
      have e2 : ((b : Int) + (k : Int)).toNat = jN := by omega
      have p1 : (0 : Int) ≤ (a : Int) + (k : Int) := by omega
      have p2 : (0 : Int) ≤ (b : Int) + (k : Int) := by omega
      have b1 : (a : Int) + (k : Int) < (n : Int) := by omega
      have b2 : (b : Int) + (k : Int) < (n : Int) := by omega
      have r1 : IntKind.i64.wrap ((a : Int) + (k : Int)) = (a : Int) + (k : Int) := by rw [IntKind.wrap_i64]; omega
      have r2 : IntKind.i64.wrap ((b : Int) + (k : Int)) = (b : Int) + (k : Int) := by rw [IntKind.wrap_i64]; omega
      clear S S0 hiN hjN hg
      generalize (g iN : Int) = gi at *
      generalize (g jN : Int) = gj at *
      go_wp2_with fail
      go_region
      clear c1 c2 c3 f1 f2
      generalize ((wr.setCell ⟨blk, off + iN, none⟩ (.int .i64 gj)).setCell ⟨blk, off + jN, none⟩ (.int .i64 gi)).drew = w3 at S3 ⊢
      clear e1 e2
      go_wp2
      exact ⟨⟨k + 1, by omega, by simp, S3⟩, (show m - ((k : Int) + 1).toNat < m - ((k : Int)).toNat by omega)⟩
    · have e : k = m := by omega
      subst e
      go_wp2
      go_end0
      exact ⟨rfl, unhide S⟩

set_option maxHeartbeats 4000000 in
set_option maxRecDepth 100000 in
theorem rotate_any (w0 : World) (blk off n cap L : Nat) (f : Nat → Nat) (cv : Value) (a m b : Nat) (w : World) (hr : SRow w0 blk off n L f w) (hn : n ≤ 1000) (ham : a < m) (hmb : m < b) (hb : b ≤ n) :
    Calls Tryz.prog 225 #[.slice (some ⟨blk, off, none⟩) n cap, .int .i64 (a : Int), .int .i64 (m : Int), .int .i64 (b : Int), cv] w fun e w' => e = .returned (.tuple #[]) ∧ SRow w0 blk off n L (rot f a m b) w' := by
  go_enter Tryz.func225, Tryz.ntmps225
  have HR := hide hr
  clear hr
  go_wp2_with fail
  go_loopw [10, 11] (fun vi vj wr => ∃ (i j : Nat) (g : Nat → Nat), 0 < i ∧ i ≤ m ∧ 0 < j ∧ m + j ≤ n ∧ vi = .int .i64 i ∧ vj = .int .i64 j ∧ Hid (SRow w0 blk off n L g wr) ∧ Hid (rot g (m - i) m (m + j) = rot f a m b)) (fun vi vj _ => (intOf vi).toNat + (intOf vj).toNat)
  case atStart => exact ⟨m - a, b - m, f, by omega, by omega, by omega, by omega, by congr 1; omega, by congr 1; omega, HR, by rw [show m - (m - a) = a by omega, show m + (b - m) = b by omega]; exact hide rfl⟩
  case round =>
    clear HR
    obtain ⟨i, j, g, hi0, him, hj0, hjn, rfl, rfl, S, E⟩ := hrel
    by_cases hij : i = j
    · subst hij
      have hh := hide (swapRange_any w0 blk off n cap L g cv (m - i) m i wr (unhide S) hn (by omega) (by omega))
      rw [show ((m - i : Nat) : Int) = (m : Int) - (i : Int) by omega] at hh
      go_wp2_with fail
      refine (unhide hh).mono ?_
      rintro e w2 ⟨rfl, S2⟩
      have H2 := hide S2
      clear S2 hh
      go_wp2
      go_end0
      refine ⟨rfl, ?_⟩
      have := unhide H2
      rw [rot_same g him, unhide E] at this
      exact this
    · have hne : ((i : Int) = (j : Int)) = False := by simp; omega
      have hne2 : ((i : Int) == (j : Int)) = false := beq_eq_false_iff_ne.2 (by omega)
      by_cases hgt : j < i
      · have hh := hide (swapRange_any w0 blk off n cap L g cv (m - i) m j wr (unhide S) hn (by omega) (by omega))
        rw [show ((m - i : Nat) : Int) = (m : Int) - (i : Int) by omega] at hh
        have hgt' : (j : Int) < (i : Int) := by omega
        go_wp2_with fail
        refine (unhide hh).mono ?_
        rintro e w2 ⟨rfl, S2⟩
        have H2 := hide S2
        clear S2 hh
        go_wp2
        exact ⟨⟨i - j, j, _, by omega, by omega, hj0, hjn, by congr 1; omega, rfl, H2, by rw [rot_more g hgt him]; exact E⟩, (show ((i : Int) - (j : Int)).toNat + ((j : Int)).toNat < ((i : Int)).toNat + ((j : Int)).toNat by omega)⟩
      · have hh := hide (swapRange_any w0 blk off n cap L g cv (m - i) (m + j - i) i wr (unhide S) hn (by omega) (by omega))
        rw [show ((m - i : Nat) : Int) = (m : Int) - (i : Int) by omega, show ((m + j - i : Nat) : Int) = (m : Int) + (j : Int) - (i : Int) by omega] at hh
        have hgt' : ¬ (j : Int) < (i : Int) := by omega
        go_wp2_with fail
        refine (unhide hh).mono ?_
        rintro e w2 ⟨rfl, S2⟩
        have H2 := hide S2
        clear S2 hh
        go_wp2
        exact ⟨⟨i, j - i, _, hi0, him, by omega, by omega, rfl, by congr 1; omega, H2, by rw [rot_less g (by omega) him]; exact E⟩, (show ((i : Int)).toNat + ((j : Int) - (i : Int)).toNat < ((i : Int)).toNat + ((j : Int)).toNat by omega)⟩
end Go.Proofs.YtenlampiiodkhaaGreatDoor
