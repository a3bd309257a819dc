/-
  What the statements' own Twin and Kept tell: a copy with spare room behind it, and that it stayed.
-/
import Derived.Test.YtjkbapjdojhdeaaRefa
import Derived.Test.YtjkbapjdojhdeaaBitw
import Derived.Laws.CopyOwn
namespace Go.Proofs.Ytjkbapjdojhdeaa
set_option linter.unusedVariables false
open Go.RowKit

/-- The spare room behind so many rounds. -/
def tl : Nat → List UInt8
  | 0 => [0, 0, 0]
  | 1 => [229, 0, 0]
  | 2 => [229, 229, 0]
  | _ => [229, 229, 229]

theorem tl_len (j : Nat) : (tl j).length = 3 := by
  unfold tl
  split <;> rfl

theorem tl_set (bs : List UInt8) (j : Nat) (h : j < 3) : (bs ++ tl j).set (bs.length + j) 229 = bs ++ tl (j + 1) := by
  rw [List.set_append_right _ _ (by omega), Nat.add_sub_cancel_left]
  congr 1
  match j, h with
  | 0, _ => rfl
  | 1, _ => rfl
  | 2, _ => rfl

theorem own_block {w : World} {base n g : Nat} {xs : List Value} (h : w.ownsRow base 5 1 (.slice (some ⟨g, 0, none⟩) n n) n xs) : w.heap[g]? = some (.cells xs.toArray 5 (0, 0)) ∧ base ≤ g ∧ n ≤ maxLen := by
  rcases h.2 with ⟨h', _⟩ | ⟨g', cap', cur, h', hb, hg, hl, hm, hs, ht⟩
  · simp at h'
  · simp only [Value.slice.injEq, Option.some.injEq, Addr.mk.injEq, and_true, true_and] at h'
    obtain ⟨rfl, rfl⟩ := h'
    refine ⟨?_, hb, hm⟩
    rw [hg, ← ht, List.take_of_length_le (by simp; omega)]

theorem own_of_block {w : World} {base n g : Nat} {xs : List Value} (h : w.heap[g]? = some (.cells xs.toArray 5 (0, 0))) (hb : base ≤ g) (hl : xs.length = n) (hm : n ≤ maxLen) : w.ownsRow base 5 1 (.slice (some ⟨g, 0, none⟩) n n) n xs :=
  ⟨by omega, .inr ⟨g, n, xs.toArray, rfl, hb, h, Nat.le_refl _, hm, by simp; omega, by
    have e : xs.toArray.toList = xs := by simp
    rw [e, Nat.mul_one, List.take_of_length_le (by omega)]⟩⟩

theorem copy_run (w1 : World) (g : Nat) (ao : Option Addr) (l cap : Nat) (bs : List UInt8) (Z : List Value) (hZ : Z.length = l + 3) (hl : bs.length = l) (hb : w1.heap[g]? = some (.cells Z.toArray 5 (0, 0))) (h1 : Rd w1 ao cap bs) :
    ∃ w2, (Builtin.copy_ #[22, 22] 3 #[.slice (some ⟨g, 0, none⟩) (l + 3) (l + 3), .slice ao l cap]).run Try.prog w1 = .ok (.int .i64 (l : Int)) w2 ∧ w2.heap[g]? = some (.cells (bs.map B ++ Z.drop l).toArray 5 (0, 0)) ∧ Below g w1 w2 := by
  obtain ⟨i0, hi, hz0, hz1, hz2⟩ := info_parts Try.info5
  have hsz : (Try.prog.info? 5).map (·.size) = some 1 := by rw [hi]; simp [hz1]
  subst hl
  by_cases h0 : bs.length = 0
  · have hr := run_copy_none (P := Try.prog) w1 22 22 3 5 (some ⟨g, 0, none⟩) ao (bs.length + 3) (bs.length + 3) bs.length cap Try.underlying22 hsz (by simp [h0])
    have e : bs = [] := List.eq_nil_of_length_eq_zero h0
    subst e
    exact ⟨w1, hr, by simpa using hb, Below.refl _ _⟩
  · obtain ⟨b, off, rfl, _⟩ := h1.lt (by omega)
    have hr := run_copy_row (P := Try.prog) w1 22 22 3 5 g 0 (bs.length + 3) (bs.length + 3) ⟨b, off, none⟩ bs.length cap Z.toArray 5 (bs.map B) Try.underlying22 hsz hb (by simp) (h1.news _ rfl) (by simp; omega) (bs_oneCell bs)
    exact ⟨w1.setRow g (bs.map B ++ Z.drop bs.length).toArray, by rw [hr]; simp [goInt], setRow_heap w1 g _ _ 5 _ hb, below_setRow (Below.refl _ _) (Nat.le_refl _) _⟩

set_option maxHeartbeats 1000000 in
theorem twin_any (ao : Option Addr) (l cap : Nat) (bs : List UInt8) (w : World) (hl : bs.length = l) (h : Rd w ao cap bs) (hm : l ≤ 1000) :
    Calls Try.prog 10 #[.slice ao l cap] w fun e w' => ∃ g, e = .returned (.slice (some ⟨g, 0, none⟩) l (l + 3)) ∧ w'.ownsRow w.heap.size 5 1 (.slice (some ⟨g, 0, none⟩) (l + 3) (l + 3)) (l + 3) ((bs ++ tl 3).map B) ∧ Below w.heap.size w w' := by
  subst hl
  obtain ⟨i0, hi, hz0, hz1, hz2⟩ := info_parts Try.info5
  have hsz : (Try.prog.info? 5).map (·.size) = some 1 := by rw [hi]; simp [hz1]
  go_enter Try.func10, Try.ntmps10
  go_wp2_with (at_make; refine wpList_make_full _ rfl _ _ 22 rfl w.heap.size 5 i0 (.int .u8 0) 1 Try.underlying22 hi hz0 hz1 _ _ _ _ (bs.length + 3) rfl rfl (by omega) (by omega) ?b2 ?b3 (Nat.le_refl _) ?_)
  case b2 => rw [hz2]; omega
  case b3 => unfold maxLen; omega
  intro w1 own1 hgrow1
  have hb1 : Below w.heap.size w w1 := (Below.refl _ _).grown hgrow1 (Nat.le_refl _) (fun k h => by cases h)
  have h1 := h.below hb1
  have own1' : w1.ownsRow w.heap.size 5 1 (.slice (some ⟨w.heap.size, 0, none⟩) (bs.length + 3) (bs.length + 3)) (bs.length + 3) (List.replicate (bs.length + 3) (.int .u8 0)) := by
    have e : (madeCells #[Value.int .u8 0] (bs.length + 3)).toList = List.replicate (bs.length + 3) (.int .u8 0) := toList_madeCells_one _ _
    rw [← e]; exact own1
  obtain ⟨hblk, hg, _⟩ := own_block own1'
  obtain ⟨w2, hrun, hg2, hbc⟩ := copy_run w1 w.heap.size ao bs.length cap bs _ (by simp) rfl hblk h1
  have hb2 : Below w.heap.size w w2 := hb1.trans hbc
  have own2 : w2.ownsRow w.heap.size 5 1 (.slice (some ⟨w.heap.size, 0, none⟩) (bs.length + 3) (bs.length + 3)) (bs.length + 3) ((bs ++ tl 0).map B) := by
    refine own_of_block ?_ (Nat.le_refl _) (by simp [tl_len]) (by unfold maxLen; omega)
    rw [hg2]
    simp [tl]
  clear own1 own1' hgrow1 hblk hg2 hbc h1 hb1
  go_wp2_with fail
  clear hrun
  generalize hgs : w.heap.size = g at *
  have HG := hide hgs
  clear hgs
  go_loopw [4] (fun i wr => ∃ j : Nat, j ≤ 3 ∧ i = .int .i64 ((bs.length + j : Nat) : Int) ∧ wr.ownsRow g 5 1 (.slice (some ⟨g, 0, none⟩) (bs.length + 3) (bs.length + 3)) (bs.length + 3) ((bs ++ tl j).map B) ∧ Below g w wr) (fun i _ => bs.length + 3 - (intOf i).toNat)
  case atStart => exact ⟨0, Nat.zero_le _, rfl, own2, hb2⟩
  case round =>
    obtain ⟨j, hj, rfl, ownr, hbr⟩ := hrel
    by_cases hlt : j < 3
    · have hc := ownr.cellAt (bs.length + j) (by omega)
      have hf := ownr.frozenAt (bs.length + j)
      have hx : ((bs ++ tl j).map B)[bs.length + j]? = some (B ((tl j).getD j 0)) := by
        have : j < (tl j).length := by rw [tl_len]; exact hlt
        simp [List.getD, this]
      rw [hx] at hc
      clear hx
      have HS : Hid ((wr.setCell ⟨g, bs.length + j, none⟩ (.int .u8 229)).ownsRow g 5 1 (.slice (some ⟨g, 0, none⟩) (bs.length + 3) (bs.length + 3)) (bs.length + 3) ((bs ++ tl (j + 1)).map B)) := by
        have hs := (ownr.stored (bs.length + j) (B 229)).1
        rw [← List.map_set, tl_set bs j hlt] at hs
        exact hs
      clear ownr own2
      go_wp2
      go_roundw
      case rel => exact ⟨j + 1, by omega, by go_num, unhide HS, hbr.setCell (p := ⟨g, bs.length + j, none⟩) (Nat.le_refl _) _⟩
      case measure => simp [intOf]; omega
    · have e : j = 3 := by omega
      subst e
      go_wp2
      go_ret
      rw [unhide HG]
      exact ⟨g, rfl, ownr, hbr⟩

set_option maxHeartbeats 1000000 in
theorem kept_any (g : Nat) (ao : Option Addr) (l cap : Nat) (bs : List UInt8) (w : World) (base : Nat) (hl : bs.length = l) (h : Rd w ao cap bs) (hm : l ≤ 1000)
    (own : w.ownsRow base 5 1 (.slice (some ⟨g, 0, none⟩) (l + 3) (l + 3)) (l + 3) ((bs ++ tl 3).map B)) :
    Calls Try.prog 12 #[.slice (some ⟨g, 0, none⟩) l (l + 3), .slice ao l cap] w fun e w' => e = .returned (.bool true) ∧ w' = w := by
  subst hl
  have R : Rd w (some ⟨g, 0, none⟩) (bs.length + 3) bs := by
    have := (Rd.of_owned_at own).take bs.length
    rwa [List.take_append_of_le_length (Nat.le_refl _), List.take_of_length_le (Nat.le_refl _)] at this
  have s1 := conv_str w _ bs.length (bs.length + 3) bs rfl R
  have s2 := conv_str w ao bs.length cap bs rfl h
  have hc : ∀ j, j < 3 → w.cell? ⟨g, bs.length + j, none⟩ = some (.int .u8 229) := by
    intro j hj
    rw [own.cellAt (bs.length + j) (by omega)]
    match j, hj with
    | 0, _ => simp [tl]
    | 1, _ => simp [tl]
    | 2, _ => simp [tl]
  go_enter Try.func12, Try.ntmps12
  go_wp2_with fail
  clear s1 s2 own R h
  go_loop [6] (fun i => ∃ j : Nat, j ≤ 3 ∧ i = .int .i64 ((bs.length + j : Nat) : Int)) (fun i => bs.length + 3 - (intOf i).toNat)
  case atStart => exact ⟨0, Nat.zero_le _, rfl⟩
  case round =>
    obtain ⟨j, hj, rfl⟩ := hrel
    by_cases hlt : j < 3
    · have hcj := hc j hlt
      go_wp2
      go_round
      case rel => exact ⟨j + 1, by omega, by go_num⟩
      case measure => simp [intOf]; omega
    · have e : j = 3 := by omega
      subst e
      go_wp2
      go_ret
      exact ⟨rfl, rfl⟩
end Go.Proofs.Ytjkbapjdojhdeaa
