/-
  What Map and Text of package fold tell, where its two tables read as the program's text lays them.
-/
import Derived.Test.YtgnkhfmpooomkaaDoorFoldM
import Derived.Test.YtgnkhfmpooomkaaDoorFoldS
import Derived.Laws.MakeOwn
namespace Go.Proofs.YtgnkhfmpooomkaaDoor
set_option linter.unusedVariables false
open Go.RowKit

set_option maxHeartbeats 800000 in
theorem map_narrow (r : Int) (w : World) (hr : -2147483648 ≤ r ∧ r ≤ 2147483647) (hw : ¬ (65281 ≤ r ∧ r ≤ 65374)) (tb : Tabs w) :
    Calls Tryd.prog 22 #[R r] w fun e w' => e = .returned (.tuple #[R (mpo r), .bool (mpk r)]) ∧ Ext w w' := by
  have HL := hide (left_any r w tb)
  by_cases hlo : Lost r
  · obtain ⟨m1, m2⟩ := mp_lost hlo
    rw [(lost_iff r).2 hlo] at HL
    rw [m1, m2]
    clear m1 m2 tb
    go_enter Tryd.func22, Tryd.ntmps22
    go_wp2_with fail
    refine (unhide HL).mono ?_
    rintro e w1 ⟨rfl, hx1⟩
    clear HL
    go_wp2
    go_ret2
    exact ⟨by simp, hx1⟩
  · rw [lost_false hlo] at HL
    by_cases hd : r = 12290 ∨ r = 65377
    · obtain ⟨m1, m2⟩ := mp_is hw hlo (small_d hd)
      rw [m1, m2]
      clear m1 m2 tb hlo
      rcases hd with rfl | rfl
      · go_enter Tryd.func22, Tryd.ntmps22
        go_wp2_with fail
        refine (unhide HL).mono ?_
        rintro e w1 ⟨rfl, hx1⟩
        clear HL
        go_wp2
        go_ret2
        exact ⟨by simp, hx1⟩
      · go_enter Tryd.func22, Tryd.ntmps22
        go_wp2_with fail
        refine (unhide HL).mono ?_
        rintro e w1 ⟨rfl, hx1⟩
        clear HL
        go_wp2
        go_ret2
        exact ⟨by simp, hx1⟩
    · obtain ⟨m1, m2⟩ := mp_is hw hlo (rfl : small r = small r)
      rw [m1, m2]
      clear m1 m2 hlo
      have HS := hide (fun w tb => small_any r w hr hd tb)
      have TB := hide (fun w' hx => tb.below (w' := w') hx)
      clear tb
      generalize small r = y at *
      have n12290 : (r == 12290) = false := beq_eq_false_iff_ne.2 (by omega)
      have n65377 : (r == 65377) = false := beq_eq_false_iff_ne.2 (by omega)
      by_cases h1 : 65281 ≤ r
      · have h2 : ¬ r ≤ 65374 := by omega
        clear hw hd
        go_enter Tryd.func22, Tryd.ntmps22
        go_wp2_with fail
        refine (unhide HL).mono ?_
        rintro e w1 ⟨rfl, hx1⟩
        clear HL
        go_wp2_with fail
        refine (unhide HS w1 (unhide TB w1 hx1)).mono ?_
        rintro e w2 ⟨rfl, hx2⟩
        go_wp2
        go_ret2
        exact ⟨by simp, hx1.trans hx2⟩
      · clear hw hd
        go_enter Tryd.func22, Tryd.ntmps22
        go_wp2_with fail
        refine (unhide HL).mono ?_
        rintro e w1 ⟨rfl, hx1⟩
        clear HL
        go_wp2_with fail
        refine (unhide HS w1 (unhide TB w1 hx1)).mono ?_
        rintro e w2 ⟨rfl, hx2⟩
        go_wp2
        go_ret2
        exact ⟨by simp, hx1.trans hx2⟩

set_option maxHeartbeats 800000 in
theorem map_any (r : Int) (w : World) (hr : -2147483648 ≤ r ∧ r ≤ 2147483647) (tb : Tabs w) :
    Calls Tryd.prog 22 #[R r] w fun e w' => e = .returned (.tuple #[R (mpo r), .bool (mpk r)]) ∧ Ext w w' := by
  by_cases hw : 65281 ≤ r ∧ r ≤ 65374
  · obtain ⟨m1, m2, m3⟩ := mp_wide hw
    have HL := hide (left_any r w tb)
    rw [lost_false (by omega)] at HL
    have HN := hide (fun w tb => map_narrow (r - 65248) w (by omega) (by omega) tb)
    have TB := hide (fun w' hx => tb.below (w' := w') hx)
    clear tb
    rw [m3] at HN
    rw [m1, m2]
    clear m1 m2 m3
    generalize mpo (r - 65248) = v at *
    obtain ⟨h1, h2⟩ := hw
    go_enter Tryd.func22, Tryd.ntmps22
    go_wp2_with fail
    refine (unhide HL).mono ?_
    rintro e w1 ⟨rfl, hx1⟩
    clear HL
    go_wp2_with fail
    refine (unhide HN w1 (unhide TB w1 hx1)).mono ?_
    rintro e w2 ⟨rfl, hx2⟩
    clear HN TB
    go_wp2
    go_ret2
    exact ⟨by simp, hx1.trans hx2⟩
  · exact map_narrow r w hr hw tb

/-- make([]rune, 0, n) -/
theorem make_runes (w : World) (base c : Nat) (hc : c ≤ 100000000) (hbase : base ≤ w.heap.size) :
    ∃ w', (Instr.makeSlice 32 (.int .i64 0) (.int .i64 (c : Int))).run Tryd.prog w = .ok (.slice (some ⟨w.heap.size, 0, none⟩) 0 c) w' ∧
      w'.ownsRow base 21 1 (.slice (some ⟨w.heap.size, 0, none⟩) 0 c) 0 [] ∧ Ext w w' := by
  obtain ⟨i0, hi, hz0, hz1, hz2⟩ := info_parts infoR
  obtain ⟨w', h1, h2, h3⟩ := run_make_own (P := Tryd.prog) w base 32 21 i0 (.int .i32 0) 1 Tryd.underlying32 hi hz0 hz1 .i64 .i64 c (by rw [hz2]; omega) (by unfold maxLen; omega) hbase
  exact ⟨w', h1, h2, (Below.refl _ _).grown h3 (Nat.le_refl _) (fun t ht => by cases ht)⟩

set_option maxHeartbeats 800000 in
theorem text_own (ao : Option Addr) (l cap : Nat) (rs : List Int) (w : World) (hl : rs.length = l) (hm : l ≤ 1000000) (hr : ∀ r ∈ rs, -2147483648 ≤ r ∧ r ≤ 2147483647) (h : RdV w ao cap (rs.map R)) (tb : Tabs w) :
    Calls Tryd.prog 11 #[.slice ao l cap] w fun e w' => ∃ v, e = .returned v ∧ w'.ownsRow w.heap.size 21 1 v (txt rs).length ((txt rs).map R) ∧ Below w.heap.size w w' := by
  subst hl
  have hle := h.le
  have hmx := h.max
  simp only [List.length_map] at hle
  obtain ⟨w0, hmk, own, hx0⟩ := make_runes w w.heap.size rs.length (by omega) (Nat.le_refl _)
  have TB := hide (fun (w' : World) (hx : Below w.heap.size w w') => tb.below hx)
  clear tb
  go_enter Tryd.func11, Tryd.ntmps11
  go_wp2
  clear hmk
  go_loopw [3, 13] (fun o i wr => ∃ k : Nat, k ≤ rs.length ∧ i = .int .i64 k ∧ wr.ownsRow w.heap.size 21 1 o (txt (rs.take k)).length ((txt (rs.take k)).map R) ∧ Below w.heap.size w wr) (fun _ i _ => rs.length - (intOf i).toNat)
  case atStart => exact ⟨0, by omega, rfl, by simpa [txt] using own, hx0⟩
  case round =>
    obtain ⟨k, hk, rfl, ownr, hbr⟩ := hrel
    clear own hx0
    by_cases hkl : k < rs.length
    · obtain ⟨b, off, rfl, hc⟩ := h.cells (by simp; omega)
      have c0 : wr.cell? ⟨b, off + k, none⟩ = some (R (rs.getD k 0)) := by
        have := hc k (by simpa using hkl)
        rw [getR rs k hkl] at this
        rw [← this]
        exact hbr.cell (p := ⟨b, off + k, none⟩) (cell_lt this)
      clear hc
      have HM := hide (map_any (rs.getD k 0) wr (fgetD_range hr k hkl) (unhide TB wr hbr))
      have HT := hide (take_snoc rs k 0 hkl)
      have HL := hide (txt_len (rs.take k))
      generalize rs.getD k 0 = x at *
      have key : ∀ (v' : Value) (w' : World), w'.ownsRow w.heap.size 21 1 v' ((txt (rs.take k)).length + (if mpk x then [mpo x] else []).length) ((txt (rs.take k)).map R ++ (if mpk x then [mpo x] else []).map R) → Below w.heap.size w w' →
          ((∃ (k' : Nat), k' ≤ rs.length ∧ Value.int .i64 ((k : Int) + 1) = .int .i64 k' ∧ w'.ownsRow w.heap.size 21 1 v' (txt (rs.take k')).length ((txt (rs.take k')).map R) ∧ Below w.heap.size w w') ∧ rs.length - ((k : Int) + 1).toNat < rs.length - k) := by
        intro v' w' ho hb'
        refine ⟨⟨k + 1, by omega, by simp, ?_, hb'⟩, by omega⟩
        rw [unhide HT, txt_snoc, List.length_append, List.map_append]
        exact ho
      have KEY := hide key
      clear key HT
      have hlen := unhide HL
      rw [List.length_take, Nat.min_eq_left hk] at hlen
      clear HL TB
      generalize txt (rs.take k) = out at *
      go_wp2_with fail
      refine (unhide HM).mono ?_
      rintro e wz ⟨rfl, hxz⟩
      have ownr := owns_below ownr hxz
      have hbr : Below w.heap.size w wz := hbr.trans (Below.mono hxz hbr.size)
      clear HM
      generalize mpo x = y at *
      cases hp : mpk x
      · rw [hp] at KEY
        have kk := unhide KEY _ wz (by simpa using ownr) hbr
        clear KEY ownr hbr
        go_wp2
        exact kk
      · rw [hp] at KEY
        have RL := RdV.lit wz [R y] 21 (0, 0) (by simp)
        have own2 := owns_below ownr (Ext.alloc wz (.cells #[R y] 21 (0, 0)))
        have hb2 : Below w.heap.size w (wz.alloc (.cells #[R y] 21 (0, 0))) := hbr.trans (Below.mono (Ext.alloc wz _) hbr.size)
        have hbase2 := hb2.size
        have hone : ∀ u ∈ [R y], u.oneCell' = true := by simp [R, Value.oneCell']
        clear ownr hbr
        go_wp2_with (at_builtin; refine wpList_app rfl (.tmp 23) (.tmp 25) 32 21 (.int .i32 0) 4 Tryd.underlying32 infoR rfl rfl w.heap.size _ _ _ rfl own2 _ _ _ [R y] rfl rfl RL hone (by omega) hbase2 ?_)
        intro v2 w2 o2 b2
        clear own2 RL hone
        have kk := unhide KEY v2 w2 (by simpa using o2) (hb2.trans b2)
        go_wp2
        exact kk
    · have e : rs.take k = rs := List.take_of_length_le (by omega)
      rw [e] at ownr
      go_wp2
      go_ret
      exact ⟨_, rfl, ownr, hbr⟩

theorem text_any (ao : Option Addr) (l cap : Nat) (rs : List Int) (w : World) (hl : rs.length = l) (hm : l ≤ 1000000) (hr : ∀ r ∈ rs, -2147483648 ≤ r ∧ r ≤ 2147483647) (h : RdV w ao cap (rs.map R)) (tb : Tabs w) :
    Calls Tryd.prog 11 #[.slice ao l cap] w (Gives w ((txt rs).map R)) :=
  (text_own ao l cap rs w hl hm hr h tb).mono fun e w' ⟨v, he, h1, h2⟩ => by subst he; exact gives_of_owned h1 h2
end Go.Proofs.YtgnkhfmpooomkaaDoor
