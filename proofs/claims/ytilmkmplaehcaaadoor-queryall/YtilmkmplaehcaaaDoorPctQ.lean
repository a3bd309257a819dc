/-
  What the document's Percent tells.
-/
import Derived.Test.YtilmkmplaehcaaaDoorPctR
namespace Go.Proofs.YtilmkmplaehcaaaDoor.Pct
set_option linter.unusedVariables false
open Go.RowKit

set_option maxHeartbeats 800000 in
set_option maxRecDepth 100000 in
theorem percent_own (s : Int) (ao : Option Addr) (l cap : Nat) (bs : List UInt8) (w : World) (hl : bs.length = l) (hm : l ≤ 1000000) (h : RdV w ao cap (bs.map B)) :
    Calls Tryd.prog 23 #[.int .i64 s, .slice ao l cap] w fun e w' => e = .returned (S (encd s bs)) ∧ Ext w w' := by
  subst hl
  have hle := h.le
  have hmx := h.max
  simp only [List.length_map] at hle
  go_enter Tryd.func23, Tryd.ntmps23
  go_wp2
  go_loopw [5, 6] (fun o i wr => ∃ (k : Nat), k ≤ bs.length ∧ i = .int .i64 k ∧ wr.ownsRow w.heap.size 5 1 o (encd s (bs.take k)).length ((encd s (bs.take k)).map B) ∧ Below w.heap.size w wr) (fun _ i _ => bs.length - (intOf i).toNat)
  case atStart => exact ⟨0, by omega, rfl, World.ownsRow_nil _ _ _ _, Below.refl _ _⟩
  case round =>
    obtain ⟨k, hk, rfl, ownr, hbr⟩ := hrel
    by_cases hkl : k < bs.length
    · obtain ⟨b, off, rfl, hc⟩ := h.cells (by simp; omega)
      have c0 : wr.cell? ⟨b, off + k, none⟩ = some (B (bs.getD k 0)) := by
        have := hc k (by simpa using hkl)
        rw [getB bs k hkl] at this
        rw [← this]
        exact hbr.cell (p := ⟨b, off + k, none⟩) (cell_lt this)
      clear hc
      have HT := hide (take_snoc bs k 0 hkl)
      have HL := hide (encd_len s (bs.take k))
      generalize bs.getD k 0 = x at *
      have hbase := hbr.size
      have key : ∀ (ys : List UInt8) (wz : World) (v' : Value) (w' : World), piece s x = ys → Below w.heap.size w wz → w'.ownsRow w.heap.size 5 1 v' ((encd s (bs.take k)).length + ys.length) ((encd s (bs.take k)).map B ++ ys.map B) → Below w.heap.size wz w' →
          ((∃ (k' : Nat), k' ≤ bs.length ∧ Value.int .i64 ((k : Int) + 1) = .int .i64 k' ∧ w'.ownsRow w.heap.size 5 1 v' (encd s (bs.take k')).length ((encd s (bs.take k')).map B) ∧ Below w.heap.size w w') ∧ bs.length - ((k : Int) + 1).toNat < bs.length - k) := by
        intro ys wz v' w' hp hbz ho hb'
        refine ⟨⟨k + 1, by omega, by simp, ?_, hbz.trans hb'⟩, by omega⟩
        rw [unhide HT, encd_snoc, hp, List.length_append, List.map_append]
        exact ho
      have KEY := hide key
      clear key HT
      have hlen := unhide HL
      rw [List.length_take, Nat.min_eq_left hk] at hlen
      clear HL
      generalize encd s (bs.take k) = out at *
      by_cases hs6 : s = 6 ∧ x = 32
      · obtain ⟨rfl, rfl⟩ := hs6
        have RL := RdV.lit wr [B 43] 5 (0, 0) (by simp)
        have own2 := owns_below ownr (Ext.alloc wr (.cells #[B 43] 5 (0, 0)))
        have hb2 : Below w.heap.size w (wr.alloc (.cells #[B 43] 5 (0, 0))) := hbr.trans (Below.mono (Ext.alloc wr _) hbr.size)
        have hbase2 := hb2.size
        have hone : ∀ u ∈ [B 43], u.oneCell' = true := by simp [B, Value.oneCell']
        clear ownr
        go_wp2_with (at_builtin; refine wpList_app rfl (.tmp 30) (.tmp 31) 33 5 (.int .u8 0) 1 Tryd.underlying33 infoB rfl rfl w.heap.size _ _ _ rfl own2 _ _ _ [B 43] rfl rfl RL hone ?c2 hbase2 ?_)
        case c2 => omega
        intro v2 w2 o2 b2
        clear own2 RL hone
        have kk := unhide KEY [43] _ v2 w2 (by unfold piece; simp) hb2 (by simpa using o2) b2
        go_wp2
        exact kk
      · have hp : piece s x = if inS s x then [37, dig (x.toNat / 16), dig (x.toNat % 16)] else [x] := by unfold piece; rw [if_neg hs6]
        have hs7 : s ≠ 6 ∨ s = 6 ∧ (x.toNat : Int) ≠ 32 := by
          by_cases h6 : s = 6
          · refine .inr ⟨h6, fun e => hs6 ⟨h6, UInt8.toNat_inj.1 (by simpa using (by omega : x.toNat = 32))⟩⟩
          · exact .inl h6
        clear hs6
        have HP := hide hp
        clear hp
        have hxl := x.toNat_lt
        have IN := hide (rin_any s x)
        rcases hs7 with hs7 | ⟨rfl, hs7⟩
        all_goals
          go_wp2_with fail
          refine (unhide IN _).mono ?_
          rintro e wz ⟨rfl, hwz⟩
          subst hwz
          clear IN
          have hp := unhide HP
          clear HP
          cases hi : inS _ x
          · rw [hi] at hp
            have RL := RdV.lit wz [B x] 5 (0, 0) (by simp)
            have own2 := owns_below ownr (Ext.alloc wz (.cells #[B x] 5 (0, 0)))
            have hb2 : Below w.heap.size w (wz.alloc (.cells #[B x] 5 (0, 0))) := hbr.trans (Below.mono (Ext.alloc wz _) hbr.size)
            have hbase2 := hb2.size
            have hone : ∀ u ∈ [B x], u.oneCell' = true := by simp [B, Value.oneCell']
            have KEY2 := hide (fun v2 w2 => unhide KEY [x] _ v2 w2 hp hb2)
            clear ownr hbr KEY hp hb2
            go_wp2_with (at_builtin; refine wpList_app rfl (.tmp 13) (.tmp 18) 33 5 (.int .u8 0) 1 Tryd.underlying33 infoB rfl rfl w.heap.size _ _ _ rfl own2 _ _ _ [B x] rfl rfl RL hone (by omega) hbase2 ?_)
            intro v2 w2 o2 b2
            clear own2 RL hone
            have kk := unhide KEY2 v2 w2 (by simpa using o2) b2
            go_wp2
            exact kk
          · rw [hi] at hp
            have d1 : ∀ w, (Instr.index 9 (.string ⟨#[48, 49, 50, 51, 52, 53, 54, 55, 56, 57, 65, 66, 67, 68, 69, 70]⟩) (.int .u8 ((x.toNat : Int) / 16))).run Tryd.prog w = .ok (B (dig (x.toNat / 16))) w := fun w => idx_dig w .u8 (x.toNat / 16) (by omega)
            have d2 : ∀ w, (Instr.index 9 (.string ⟨#[48, 49, 50, 51, 52, 53, 54, 55, 56, 57, 65, 66, 67, 68, 69, 70]⟩) (.int .u8 ((x.toNat : Int) % 16))).run Tryd.prog w = .ok (B (dig (x.toNat % 16))) w := fun w => idx_dig w .u8 (x.toNat % 16) (by omega)
            have wq : IntKind.u8.wrap ((x.toNat : Int) / 16) = (x.toNat : Int) / 16 := by simp [IntKind.wrap, IntKind.bits, IntKind.signed]; omega
            have tm : (x.toNat : Int).tmod 16 = (x.toNat : Int) % 16 := Int.tmod_eq_emod_of_nonneg (by omega)
            have hbase2 := hbr.size
            have ownd := owns_below ownr (Ext.drew wz)
            have c1 : wz.drew.cell? ⟨b, off + k, none⟩ = some (B x) := c0
            have hbd : Below w.heap.size w (wz.drew.alloc (.cells #[B 37, B (dig (x.toNat / 16)), B (dig (x.toNat % 16))] 5)) := hbr.trans (Below.mono ((Ext.drew wz).trans (Ext.alloc wz.drew _)) hbr.size)
            have KEY2 := hide (fun v2 w2 => unhide KEY [37, dig (x.toNat / 16), dig (x.toNat % 16)] _ v2 w2 hp hbd)
            clear KEY hp ownr hbr hbd
            go_wp2_with fail
            go_region_law (
              refine step_app rfl (.tmp 40) (.tmp 53) 33 5 (.int .u8 0) 1 Tryd.underlying33 infoB rfl rfl w.heap.size _ _ (out.map B) ?_ (owns_below ownd (Ext.alloc _ _)) ⟨wz.heap.size, 0, none⟩ 3 3 [B 37, B (dig (x.toNat / 16)), B (dig (x.toNat % 16))] ?_ rfl ?_ ?_ ?_ ?_ ?_
              · simp [Act.eval]
              · simp [Act.eval]
              · exact RdV.lit wz.drew _ _ _ (show 3 ≤ 9223372036854775807 by omega)
              · simp [B, Value.oneCell']
              · omega
              · simp; omega
              intro v2 w2 o2 b2
              have kk := unhide KEY2 v2 w2 (by simpa using o2) b2
              clear o2 b2)
            all_goals
              go_wp2
              exact kk
    · have e : bs.take k = bs := List.take_of_length_le (by omega)
      rw [e] at ownr
      have hr := RdV.of_owned ownr
      obtain ⟨a2, c2, rfl, hr2, hl2⟩ := hr
      have cs := oconv_str wr a2 _ c2 (encd s bs) rfl hr2
      go_wp2
      go_ret
      exact ⟨rfl, hbr⟩
end Go.Proofs.YtilmkmplaehcaaaDoor.Pct
