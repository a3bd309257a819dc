/-
  What the document's own Map and Text tell of any code points.
-/
import Derived.Test.YthfogdmddijjnaaDoorFoldR
namespace Go.Proofs.YthfogdmddijjnaaDoor
set_option linter.unusedVariables false
open Go.RowKit

set_option maxHeartbeats 400000 in
theorem rmap_any (r : Int) (w : World) (hr : -2147483648 ≤ r ∧ r ≤ 2147483647) :
    Calls Tryd.prog 10 #[R r] w fun e w' => e = .returned (.tuple #[R (mpo r), .bool (mpk r)]) ∧ w' = w := by
  by_cases hw : 65281 ≤ r ∧ r ≤ 65374
  · obtain ⟨m1, m2, m3⟩ := mp_wide hw
    have HN := hide (rmap_narrow (r - 65248) w (by omega) (by omega))
    rw [m3] at HN
    rw [m1, m2]
    clear m1 m2 m3
    generalize mpo (r - 65248) = v at *
    obtain ⟨h1, h2⟩ := hw
    have n173 : (r == 173) = false := beq_eq_false_iff_ne.2 (by omega)
    have n8288 : (r == 8288) = false := beq_eq_false_iff_ne.2 (by omega)
    have n65279 : (r == 65279) = false := beq_eq_false_iff_ne.2 (by omega)
    go_enter Tryd.func10, Tryd.ntmps10
    go_wp2_with fail
    refine (unhide HN).mono ?_
    rintro e w' ⟨rfl, rfl⟩
    clear HN
    go_wp2
    go_ret2
    exact ⟨by simp, rfl⟩
  · exact rmap_narrow r w hr hw

theorem getD_range {rs : List Int} (hr : ∀ r ∈ rs, -2147483648 ≤ r ∧ r ≤ 2147483647) (k : Nat) (h : k < rs.length) : -2147483648 ≤ rs.getD k 0 ∧ rs.getD k 0 ≤ 2147483647 := by
  have : rs.getD k 0 = rs[k] := by simp [List.getD, h]
  rw [this]
  exact hr _ (List.getElem_mem h)

set_option maxHeartbeats 400000 in
theorem rtext_own (ao : Option Addr) (l cap : Nat) (rs : List Int) (w : World) (hl : rs.length = l) (hm : l ≤ 1000000) (hr : ∀ r ∈ rs, -2147483648 ≤ r ∧ r ≤ 2147483647) (h : RdV w ao cap (rs.map R)) :
    Calls Tryd.prog 13 #[.slice ao l cap] w fun e w' => ∃ v, e = .returned v ∧ w'.ownsRow w.heap.size 21 1 v (txt rs).length ((txt rs).map R) ∧ Below w.heap.size w w' := by
  subst hl
  have hle := h.le
  have hmx := h.max
  simp only [List.length_map] at hle
  go_enter Tryd.func13, Tryd.ntmps13
  go_wp2
  go_loopw [3, 4] (fun o i wr => ∃ k : Nat, k ≤ rs.length ∧ i = .int .i64 k ∧ wr.ownsRow w.heap.size 21 1 o (txt (rs.take k)).length ((txt (rs.take k)).map R) ∧ Below w.heap.size w wr) (fun _ i _ => rs.length - (intOf i).toNat)
  case atStart => exact ⟨0, by omega, rfl, World.ownsRow_nil _ _ _ _, Below.refl _ _⟩
  case round =>
    obtain ⟨k, hk, rfl, ownr, hbr⟩ := hrel
    by_cases hkl : k < rs.length
    · obtain ⟨b, off, rfl, hc⟩ := h.cells (by simp; omega)
      have c0 : wr.cell? ⟨b, off + k, none⟩ = some (R (rs.getD k 0)) := by
        have := hc k (by simpa using hkl)
        rw [getR rs k hkl] at this
        rw [← this]
        exact hbr.cell (p := ⟨b, off + k, none⟩) (cell_lt this)
      clear hc
      have HM := hide (rmap_any (rs.getD k 0) wr (getD_range hr k hkl))
      have HT := hide (take_snoc rs k 0 hkl)
      have HL := hide (txt_len (rs.take k))
      generalize rs.getD k 0 = x at *
      have key : ∀ (v' : Value) (w' : World), w'.ownsRow w.heap.size 21 1 v' ((txt (rs.take k)).length + (if mpk x then [mpo x] else []).length) ((txt (rs.take k)).map R ++ (if mpk x then [mpo x] else []).map R) → Below w.heap.size w w' →
          ((∃ (k' : Nat), k' ≤ rs.length ∧ Value.int .i64 ((k : Int) + 1) = .int .i64 k' ∧ w'.ownsRow w.heap.size 21 1 v' (txt (rs.take k')).length ((txt (rs.take k')).map R) ∧ Below w.heap.size w w') ∧ rs.length - ((k : Int) + 1).toNat < rs.length - k) := by
        intro v' w' ho hb'
        refine ⟨⟨k + 1, by omega, by simp, ?_, hb'⟩, by omega⟩
        rw [unhide HT, txt_snoc, List.length_append, List.map_append]
        exact ho
      have KEY := hide key
      clear key HT
      have hlen := unhide HL
      rw [List.length_take, Nat.min_eq_left hk] at hlen
      clear HL
      generalize txt (rs.take k) = out at *
      go_wp2_with fail
      refine (unhide HM).mono ?_
      rintro e wz ⟨rfl, hwz⟩
      subst hwz
      clear HM
      generalize mpo x = y at *
      cases hp : mpk x
      · rw [hp] at KEY
        have kk := unhide KEY _ wz (by simpa using ownr) hbr
        clear KEY ownr hbr
        go_wp2
        exact kk
      · rw [hp] at KEY
        have RL := RdV.lit wz [R y] 21 (0, 0) (by simp)
        have own2 := owns_below ownr (Ext.alloc wz (.cells #[R y] 21 (0, 0)))
        have hb2 : Below w.heap.size w (wz.alloc (.cells #[R y] 21 (0, 0))) := hbr.trans (Below.mono (Ext.alloc wz _) hbr.size)
        have hbase2 := hb2.size
        have hone : ∀ u ∈ [R y], u.oneCell' = true := by simp [R, Value.oneCell']
        clear ownr hbr
        go_wp2_with (at_builtin; refine wpList_app rfl (.tmp 22) (.tmp 24) 26 21 (.int .i32 0) 4 Tryd.underlying26 infoR rfl rfl w.heap.size _ _ _ rfl own2 _ _ _ [R y] rfl rfl RL hone (by omega) hbase2 ?_)
        intro v2 w2 o2 b2
        clear own2 RL hone
        have kk := unhide KEY v2 w2 (by simpa using o2) (hb2.trans b2)
        go_wp2
        exact kk
    · have e : rs.take k = rs := List.take_of_length_le (by omega)
      rw [e] at ownr
      go_wp2
      go_ret
      exact ⟨_, rfl, ownr, hbr⟩

theorem rtext_any (ao : Option Addr) (l cap : Nat) (rs : List Int) (w : World) (hl : rs.length = l) (hm : l ≤ 1000000) (hr : ∀ r ∈ rs, -2147483648 ≤ r ∧ r ≤ 2147483647) (h : RdV w ao cap (rs.map R)) :
    Calls Tryd.prog 13 #[.slice ao l cap] w (Gives w ((txt rs).map R)) :=
  (rtext_own ao l cap rs w hl hm hr h).mono fun e w' ⟨v, he, h1, h2⟩ => by subst he; exact gives_of_owned h1 h2
end Go.Proofs.YthfogdmddijjnaaDoor
