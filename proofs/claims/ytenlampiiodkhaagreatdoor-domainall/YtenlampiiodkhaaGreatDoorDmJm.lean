/-
  Labels of package domain; []byte(s); SameTexts.
-/
import Derived.Test.YtenlampiiodkhaaGreatDoorMDm
import Derived.Test.YtenlampiiodkhaaGreatDoorPcs
import Derived.Laws.OwnMore
import Derived.Laws.IdiomStrings
namespace Go.Proofs.YtenlampiiodkhaaGreatDoor
set_option linter.unusedVariables false
open Go.RowKit

theorem cutB_pcs : ∀ s : List UInt8, cutB s = pcs 46 s
  | [] => rfl
  | b :: s => by
    have ih := cutB_pcs s
    unfold cutB at ih ⊢
    show (rows (((b.toNat : Nat) : Int) :: asI s)).map lowB = _
    rw [rows, pcs, ← ih]
    have hb : (((b.toNat : Nat) : Int) = 46) ↔ b = 46 := by
      constructor
      · intro h
        exact UInt8.toNat_inj.1 (by show b.toNat = 46; omega)
      · rintro rfl
        rfl
    by_cases h : b = 46
    · rw [if_pos (hb.2 h), if_pos h]
      rfl
    · rw [if_neg (fun h2 => h (hb.1 h2)), if_neg h]
      cases hr : rows (asI s) with
      | nil => exact absurd hr (rows_ne _)
      | cons x t =>
        show (lowB (((b.toNat : Nat) : Int) :: x)) :: t.map lowB = (b :: lowB x) :: t.map lowB
        congr 1
        show UInt8.ofNat ((b.toNat : Int)).toNat :: lowB x = b :: lowB x
        rw [Int.toNat_natCast, UInt8.ofNat_toNat]

/-- []byte(s). -/
theorem conv_bytes (w : World) (bs : List UInt8) (hm : bs.length ≤ 1000000) : ∃ c w', (convert 9 22 (S bs)).run Tryz.prog w = .ok (.slice (some ⟨w.heap.size, 0, none⟩) bs.length c) w' ∧ RdV w' (some ⟨w.heap.size, 0, none⟩) c (bs.map B) ∧ Ext w w' := by
  have hr := run_bytes_of_string (P := Tryz.prog) w 9 22 5 ⟨bs.toArray⟩ Tryz.underlying9 Tryz.underlying22 Tryz.underlying5
  have hsz : (⟨bs.toArray⟩ : ByteArray).size = bs.length := by simp [ByteArray.size]
  rw [hsz] at hr
  have hle := grownCap_ge w bs.length 0 5
  have hmx := grownCap_le_maxLen w bs.length 0 5 (by unfold maxLen; omega)
  refine ⟨_, _, hr, ⟨by simpa using hle, by unfold maxLen at hmx; omega, fun e => (by cases e), fun i hi => ⟨w.heap.size, 0, rfl, ?_⟩⟩, (Ext.drew w).trans (Ext.alloc w.drew _)⟩
  have hi' : i < bs.length := by simpa using hi
  rw [Nat.zero_add]
  have e : w.heap.size = w.drew.heap.size := rfl
  rw [e, World.cell?_alloc_mark]
  unfold bytesRow
  rw [Array.getElem?_append_left (by simp; omega)]
  simp [B, hi']

/-- Some int lies in the library's own variable. -/
def MaxL (w : World) : Prop := ∃ m : Int, w.cell? ⟨2, 0, none⟩ = some (.int .i64 m)
theorem MaxL.below {w w' : World} (h : MaxL w) (hx : Ext w w') : MaxL w' := by
  obtain ⟨m, hm⟩ := h
  exact ⟨m, (hx.cell (p := ⟨2, 0, none⟩) (cell_lt hm)).trans hm⟩

theorem clone_any (s : List UInt8) (w : World) (hs : s.length ≤ 1000000) : Calls Tryz.prog 38 #[S s] w fun e w' => e = .returned (S s) ∧ Ext w w' := by
  have HC : Hid (Calls Tryz.prog 69 #[S s] w fun e w' => e = .returned (S s) ∧ Below w.heap.size w w') := Tryz.stringslite_Clone ⟨s.toArray⟩ w (by rw [size_S]; omega)
  go_enter Tryz.func38, Tryz.ntmps38
  go_wp2_with fail
  refine (unhide HC).mono ?_
  rintro e w2 ⟨rfl, hx⟩
  clear HC
  go_wp2
  go_ret
  exact ⟨rfl, hx⟩

theorem set_same (xs : List Value) (k : Nat) (v : Value) (h : xs[k]? = some v) : xs.set k v = xs := by
  apply List.ext_getElem?
  intro i
  rw [List.getElem?_set]
  by_cases hi : k = i
  · subst hi
    rw [if_pos rfl, h]
    simp [(List.getElem?_eq_some_iff.1 h).1]
  · rw [if_neg hi]

set_option maxHeartbeats 1000000 in
set_option maxRecDepth 100000 in
theorem labels_any (s : List UInt8) (w : World) (hs : s.length ≤ 100000) (hM : MaxL w) : Calls Tryz.prog 12 #[S s] w fun e w' => ∃ g cap, e = .returned (.slice (some ⟨g, 0, none⟩) (pcs 46 s).length cap) ∧ RdV w' (some ⟨g, 0, none⟩) cap ((pcs 46 s).map S) ∧ Ext w w' := by
  obtain ⟨m, hm⟩ := hM
  have h := Tryz.strings_Split ⟨s.toArray⟩ ⟨#[46]⟩ m w (by rw [size_S]; omega) hm (by decide)
  rw [split_S, count_S] at h
  have hpc : (pcs 46 s).length ≤ s.length + 1 := by
    rw [pcs_count]
    have : Lib.countByte s 46 ≤ s.length := List.count_le_length
    omega
  have hpl := pcs_len 46 s
  have own0 : (w.alloc (.cells ((pcs 46 s).map S).toArray 9)).ownsRow w.heap.size 9 1 (.slice (some ⟨w.heap.size, 0, none⟩) (pcs 46 s).length (pcs 46 s).length) (pcs 46 s).length ((pcs 46 s).map S) := by
    have := World.ownsRow_lit (base := w.heap.size) (e := 9) (size := 1) w ((pcs 46 s).map S).toArray (pcs 46 s).length (Nat.le_refl _) (by unfold maxLen; omega) (by simp)
    simpa using this
  have hb0 : Below w.heap.size w (w.alloc (.cells ((pcs 46 s).map S).toArray 9)) := (Below.refl _ _).alloc (Nat.le_refl _) _
  have HC : Hid (Calls Tryz.prog 37 #[S s, .string ⟨#[46]⟩] w fun e w' => e = .returned (.slice (some ⟨w.heap.size, 0, none⟩) (pcs 46 s).length (pcs 46 s).length) ∧ Hid (w'.ownsRow w.heap.size 9 1 (.slice (some ⟨w.heap.size, 0, none⟩) (pcs 46 s).length (pcs 46 s).length) (pcs 46 s).length ((pcs 46 s).map S)) ∧ Hid (Below w.heap.size w w')) := h.mono fun e w' ⟨he, hw⟩ => by
    subst hw
    exact ⟨he, own0, hb0⟩
  clear h own0 hb0 hm
  generalize pcs 46 s = ps at *
  have hszs := size_S s
  go_enter Tryz.func12, Tryz.ntmps12
  go_wp2_with fail
  refine (unhide HC).mono ?_
  rintro e w1 ⟨rfl, O1, B1⟩
  clear HC
  go_wp2_with fail
  go_loopw [10] (fun i wr => ∃ (k : Nat), k ≤ ps.length ∧ i = .int .i64 k ∧ Hid (wr.ownsRow w.heap.size 9 1 (.slice (some ⟨w.heap.size, 0, none⟩) ps.length ps.length) ps.length (ps.map S)) ∧ Hid (Below w.heap.size w wr)) (fun i _ => ps.length - (intOf i).toNat)
  case atStart => exact ⟨0, by omega, rfl, O1, B1⟩
  case round =>
    obtain ⟨k, hk, rfl, OR, BR⟩ := hrel
    clear O1 B1
    by_cases hkl : k < ps.length
    · have hkl' : (k : Int) < (ps.length : Int) := by omega
      have c0 : wr.cell? ⟨w.heap.size, k, none⟩ = some (S (ps.getD k [])) := by
        rw [(unhide OR).cellAt k (by omega)]
        simp [List.getD, hkl]
      have hgp : (ps.map S)[k]? = some (S (ps.getD k [])) := by simp [List.getD, hkl]
      have hpk : (ps.getD k []).length ≤ 1000000 := by
        have := hpl (ps.getD k []) (by simp [List.getD, hkl])
        omega
      have HK := hide (clone_any (ps.getD k []) wr hpk)
      generalize ps.getD k [] = p at *
      go_wp2_with fail
      refine (unhide HK).mono ?_
      rintro e w2 ⟨rfl, hx2⟩
      clear HK c0
      have own2 := owns_below (unhide OR) hx2
      have hb2 : Below w.heap.size w w2 := (unhide BR).trans (Below.mono hx2 (unhide BR).size)
      have c1 : w2.cell? ⟨w.heap.size, k, none⟩ = some (S p) := by rw [own2.cellAt k (by omega), hgp]
      have f1 := own2.frozenAt k
      obtain ⟨st, sg⟩ := own2.stored k (S p)
      rw [set_same _ _ _ hgp] at st
      have hb3 : Below w.heap.size w (w2.setCell ⟨w.heap.size, k, none⟩ (S p)) := hb2.trans ((Below.refl _ _).grown sg hb2.size (fun t ht => by
        simp only [Option.some.injEq] at ht
        subst ht
        exact (own2.lt _ rfl).1))
      have ST := hide st
      have HB3 := hide hb3
      clear st sg hb3 own2 hb2 OR BR hgp hx2
      go_wp2
      exact ⟨⟨k + 1, by omega, by simp, ST, HB3⟩, (show ps.length - ((k : Int) + 1).toNat < ps.length - ((k : Int)).toNat by omega)⟩
    · have hkl' : ¬ (k : Int) < (ps.length : Int) := by omega
      have FF : Hid (∃ g cap, Ending.returned (.slice (some ⟨w.heap.size, 0, none⟩) ps.length ps.length) = .returned (.slice (some ⟨g, 0, none⟩) ps.length cap) ∧ RdV wr (some ⟨g, 0, none⟩) cap (ps.map S) ∧ Ext w wr) := ⟨_, _, rfl, RdV.of_owned_at (unhide OR), unhide BR⟩
      clear OR BR
      go_wp2
      go_ret
      exact unhide FF

theorem eq_of_texts {rs qs : List (List UInt8)} (hl : qs.length = rs.length) (h : ∀ i, i < rs.length → rs.getD i [] = qs.getD i []) : rs = qs := by
  apply List.ext_getElem hl.symm
  intro i h1 h2
  have := h i h1
  simpa [List.getD, h1, h2] using this
theorem S_inj {x y : List UInt8} : ((⟨x.toArray⟩ : ByteArray) = ⟨y.toArray⟩) ↔ x = y := by
  constructor
  · intro h
    have := congrArg (fun b : ByteArray => b.data.toList) h
    simpa using this
  · rintro rfl
    rfl

/-- SameTexts of two rows of the same texts. -/
theorem sameT_some (g off cap g2 off2 cap2 : Nat) (ps : List (List UInt8)) (w : World) (hm : ps.length ≤ 1000000) (h : RdV w (some ⟨g, off, none⟩) cap (ps.map S)) (h2 : RdV w (some ⟨g2, off2, none⟩) cap2 (ps.map S)) :
    Calls Tryz.prog 11 #[.slice (some ⟨g, off, none⟩) ps.length cap, .slice (some ⟨g2, off2, none⟩) ps.length cap2] w fun e w' => e = .returned (.bool true) ∧ Ext w w' := by
  have hle := h.le
  have hmx := h.max
  have hle2 := h2.le
  have hmx2 := h2.max
  simp only [List.length_map] at hle hle2
  have hc : ∀ i, i < ps.length → w.cell? ⟨g, off + i, none⟩ = some (S (ps.getD i [])) := fun i hi => by
    obtain ⟨b', off', eb, hc⟩ := h.cell i (by simpa using hi)
    simp only [Option.some.injEq, Addr.mk.injEq] at eb
    obtain ⟨rfl, rfl, _⟩ := eb
    rw [hc]
    simp [List.getD, hi]
  have hc2 : ∀ i, i < ps.length → w.cell? ⟨g2, off2 + i, none⟩ = some (S (ps.getD i [])) := fun i hi => by
    obtain ⟨b', off', eb, hc⟩ := h2.cell i (by simpa using hi)
    simp only [Option.some.injEq, Addr.mk.injEq] at eb
    obtain ⟨rfl, rfl, _⟩ := eb
    rw [hc]
    simp [List.getD, hi]
  clear h h2
  go_enter Tryz.func11, Tryz.ntmps11
  go_wp2
  go_loopw [5] (fun i wr => ∃ k : Nat, k ≤ ps.length ∧ i = .int .i64 k ∧ ∃ n, wr = w.drewN n) (fun i _ => ps.length - (intOf i).toNat)
  case atStart => exact ⟨0, Nat.zero_le _, rfl, 0, rfl⟩
  case round =>
    obtain ⟨k, hk, rfl, n, rfl⟩ := hrel
    by_cases hkl : k < ps.length
    · have c1 := hc k hkl
      have c2 := hc2 k hkl
      have i1 : (0 : Int) ≤ (k : Int) := by omega
      have i2 : (k : Int) < (ps.length : Int) := by omega
      clear hc hc2
      generalize ps.getD k [] = p at *
      go_wp2_with fail
      go_quiet (fail)
      go_wp2
      go_roundw
      case rel => exact ⟨k + 1, by omega, by go_num, n + nq, rfl⟩
      case measure => simp [intOf]; omega
    · go_wp2
      go_ret
      exact ⟨rfl, Ext.drewN _ _⟩
end Go.Proofs.YtenlampiiodkhaaGreatDoor
