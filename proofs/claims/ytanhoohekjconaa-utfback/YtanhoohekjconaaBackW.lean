/-
  The walk of UtfBack.
-/
import Derived.Test.YtanhoohekjconaaOp3
namespace Go.Proofs.Ytanhoohekjconaa
set_option linter.unusedVariables false
open Go.RowKit

theorem fix_bad {r : Int} (h : r < 0 ∨ 1114111 < r ∨ (55296 ≤ r ∧ r ≤ 57343)) : fix r = 65533 := by
  unfold fix sh
  rw [if_pos h]
  rfl
theorem fix_good {r : Int} (h : ¬ (r < 0 ∨ 1114111 < r ∨ (55296 ≤ r ∧ r ≤ 57343))) : fix r = r := by
  unfold fix sh
  rw [if_neg h]
  repeat' split
  all_goals first | rfl | (rename_i q; revert q; repeat' split) | skip
  all_goals (intro q; cases q)

theorem beq_vld (bs : List UInt8) : (vld bs == (enc (dec bs) == bs)) = true := by
  have := vld_iff bs
  cases hv : vld bs with
  | true => simp [this.1 hv]
  | false =>
    have hne : ¬ enc (dec bs) = bs := by
      intro e
      have := this.2 e
      rw [hv] at this
      cases this
    simp [hne]

set_option maxHeartbeats 1000000 in
theorem want_step (rs : List Int) (k : Nat) (h : k < rs.length) : (rs.take (k + 1)).map fix = (rs.take k).map fix ++ [fix (rs.getD k 0)] := by
  rw [take_snoc rs k 0 h]
  simp

set_option maxHeartbeats 1000000 in
theorem back_walk (ao bo : Option Addr) (la lb ca cb : Nat) (rs : List Int) (bs : List UInt8) (w : World) (hla : rs.length = la) (hlb : bs.length = lb) (hr : ∀ r ∈ rs, -2147483648 ≤ r ∧ r ≤ 2147483647) (ha : RdV w ao ca (rs.map R)) (hb : RdV w bo cb (bs.map B)) :
    Calls Try.prog 4 #[.slice ao la ca, .slice bo lb cb] w fun e w' => e = .returned (.bool true) ∧ Ext w w' := by
  subst hla
  subst hlb
  have hmx := ha.max
  have hle := ha.le
  simp only [List.length_map] at hle
  go_enter Try.func4, Try.ntmps4
  go_wp2_with fail
  refine (begun_yes _).mono ?_
  rintro e w1 ⟨rfl, hx1⟩
  by_cases g1 : 30 < rs.length
  · go_wp2
    go_ret
    exact ⟨rfl, hx1⟩
  · by_cases g2 : 60 < bs.length
    · go_wp2
      go_ret
      exact ⟨rfl, hx1⟩
    · have ha1 := ha.below hx1
      have hb1 := hb.below hx1
      clear ha hb
      go_wp2
      go_loopw [5, 6] (fun v i wr => ∃ k : Nat, k ≤ rs.length ∧ i = .int .i64 k ∧ wr.ownsRow w1.heap.size 21 1 v k (((rs.take k).map fix).map R) ∧ Below w1.heap.size w1 wr) (fun _ i _ => rs.length - (intOf i).toNat)
      case atStart => exact ⟨0, Nat.zero_le _, rfl, World.ownsRow_nil _ _ _ _, Below.refl _ _⟩
      case round =>
        obtain ⟨k, hk, rfl, own, hbr⟩ := hrel
        by_cases hkl : k < rs.length
        · obtain ⟨b, off, rfl, hc⟩ := (ha1.below hbr).cells (by simp; omega)
          have hcell : wr.cell? ⟨b, off + k, none⟩ = some (R (rs.getD k 0)) := by rw [hc k (by simpa using hkl), getR rs k hkl]
          have HW := hide (want_step rs k hkl)
          generalize hx : rs.getD k 0 = x at *
          generalize (rs.take k).map fix = pre at *
          clear hx hc hr
          obtain ⟨y, hy⟩ : ∃ y, y = fix x := ⟨_, rfl⟩
          have own2 := owns_below own (Ext.alloc wr (.cells #[R y] 21 (0, 0)))
          have RL := RdV.lit wr [R y] 21 (0, 0) (by simp)
          have hb2 : Below w1.heap.size w1 (wr.alloc (.cells #[R y] 21 (0, 0))) := hbr.alloc hbr.size _
          have hbase := hb2.size
          have hone : ∀ u ∈ [R y], u.oneCell' = true := by simp [R, Value.oneCell']
          have key : ∀ v' w', w'.ownsRow w1.heap.size 21 1 v' (k + 1) (pre.map R ++ [R y]) → Below w1.heap.size (wr.alloc (.cells #[R y] 21 (0, 0))) w' →
              w'.ownsRow w1.heap.size 21 1 v' (k + 1) (((rs.take (k + 1)).map fix).map R) ∧ Below w1.heap.size w1 w' := by
            intro v' w' o' b'
            refine ⟨?_, hb2.trans b'⟩
            rw [unhide HW, ← hy]
            simpa using o'
          have KEY := hide key
          clear key own HW hbr hb2 ha1 hb1
          have hcs : (x < 0) ∨ (1114111 < x) ∨ (55296 ≤ x ∧ x ≤ 57343) ∨ (0 ≤ x ∧ x < 55296) ∨ (57343 < x ∧ x ≤ 1114111) := by omega
          rcases hcs with c | c | c | c | c
          · rw [fix_bad (by omega)] at hy
            subst hy
            go_wp2_with (at_builtin; refine wpList_app rfl (.tmp 43) (.tmp 45) 23 21 (.int .i32 0) 4 Try.underlying23 infoR rfl rfl w1.heap.size _ _ _ rfl own2 _ _ _ [R (65533)] rfl rfl RL hone ?c2 hbase ?_)
            case c2 => omega
            intro v2 w2 o2 b2
            obtain ⟨k1, k2⟩ := unhide KEY v2 w2 o2 b2
            clear KEY o2 b2 own2 RL hone
            go_wp2
            go_roundw
            case rel => exact ⟨k + 1, by omega, by go_num, k1, k2⟩
            case measure => simp [intOf]; omega
          · rw [fix_bad (by omega)] at hy
            subst hy
            have c1 : ¬ x < 0 := by omega
            go_wp2_with (at_builtin; refine wpList_app rfl (.tmp 43) (.tmp 45) 23 21 (.int .i32 0) 4 Try.underlying23 infoR rfl rfl w1.heap.size _ _ _ rfl own2 _ _ _ [R (65533)] rfl rfl RL hone ?c2 hbase ?_)
            case c2 => omega
            intro v2 w2 o2 b2
            obtain ⟨k1, k2⟩ := unhide KEY v2 w2 o2 b2
            clear KEY o2 b2 own2 RL hone
            go_wp2
            go_roundw
            case rel => exact ⟨k + 1, by omega, by go_num, k1, k2⟩
            case measure => simp [intOf]; omega
          · rw [fix_bad (by omega)] at hy
            subst hy
            have c1 : ¬ x < 0 := by omega
            have c2 : ¬ 1114111 < x := by omega
            have c3 : 55296 ≤ x := by omega
            have c4 : x ≤ 57343 := by omega
            go_wp2_with (at_builtin; refine wpList_app rfl (.tmp 43) (.tmp 45) 23 21 (.int .i32 0) 4 Try.underlying23 infoR rfl rfl w1.heap.size _ _ _ rfl own2 _ _ _ [R (65533)] rfl rfl RL hone ?c2 hbase ?_)
            case c2 => omega
            intro v2 w2 o2 b2
            obtain ⟨k1, k2⟩ := unhide KEY v2 w2 o2 b2
            clear KEY o2 b2 own2 RL hone
            go_wp2
            go_roundw
            case rel => exact ⟨k + 1, by omega, by go_num, k1, k2⟩
            case measure => simp [intOf]; omega
          · rw [fix_good (by omega)] at hy
            subst hy
            have c1 : ¬ y < 0 := by omega
            have c2 : ¬ 1114111 < y := by omega
            have c3 : ¬ 55296 ≤ y := by omega
            go_wp2_with (at_builtin; refine wpList_app rfl (.tmp 43) (.tmp 45) 23 21 (.int .i32 0) 4 Try.underlying23 infoR rfl rfl w1.heap.size _ _ _ rfl own2 _ _ _ [R (y)] rfl rfl RL hone ?c2 hbase ?_)
            case c2 => omega
            intro v2 w2 o2 b2
            obtain ⟨k1, k2⟩ := unhide KEY v2 w2 o2 b2
            clear KEY o2 b2 own2 RL hone
            go_wp2
            go_roundw
            case rel => exact ⟨k + 1, by omega, by go_num, k1, k2⟩
            case measure => simp [intOf]; omega
          · rw [fix_good (by omega)] at hy
            subst hy
            have c1 : ¬ y < 0 := by omega
            have c2 : ¬ 1114111 < y := by omega
            have c3 : 55296 ≤ y := by omega
            have c4 : ¬ y ≤ 57343 := by omega
            go_wp2_with (at_builtin; refine wpList_app rfl (.tmp 43) (.tmp 45) 23 21 (.int .i32 0) 4 Try.underlying23 infoR rfl rfl w1.heap.size _ _ _ rfl own2 _ _ _ [R (y)] rfl rfl RL hone ?c2 hbase ?_)
            case c2 => omega
            intro v2 w2 o2 b2
            obtain ⟨k1, k2⟩ := unhide KEY v2 w2 o2 b2
            clear KEY o2 b2 own2 RL hone
            go_wp2
            go_roundw
            case rel => exact ⟨k + 1, by omega, by go_num, k1, k2⟩
            case measure => simp [intOf]; omega
        · have e : k = rs.length := by omega
          subst e
          rw [List.take_length] at own
          obtain ⟨wo, cw, rfl, hWt, _⟩ := RdV.of_owned own
          have ha2 := ha1.below hbr
          have hb2 := hb1.below hbr
          have hx2 : Ext w wr := hx1.trans hbr
          clear own ha1 hb1 hbr hx1
          have hel := enc_len rs
          have hdl := dec_len bs
          go_wp2_with fail
          refine (encode_any ao rs.length ca rs wr rfl (by omega) ha2).mono ?_
          rintro e w2 ⟨eo, ce, rfl, hE, hx3⟩
          have hx4 := hx2.trans hx3
          have hB := hb2.below hx3
          have hWt := hWt.below hx3
          clear hx2 hx3 ha2 hb2
          go_wp2_with fail
          refine wp_region_open (A := knows [(4, isF (.bool true)), (49, cellsF ((enc rs).map B)), (50, isF (.bool true)), (51, isF (.bool true)), (52, cellsF ((enc rs).map B)), (53, cellsF ((rs.map fix).map R)), (54, cellsF ((rs.map fix).map R)), (55, isF (.bool true)), (56, isF (.bool true)), (57, isF (.bool true)), (58, cellsF ((bs).map B)), (59, isF (.bool (vld bs))), (60, cellsF ((bs).map B)), (61, cellsF ((dec bs).map R)), (62, cellsF ((enc (dec bs)).map B)), (63, isF (.string ⟨(enc (dec bs)).toArray⟩)), (64, cellsF ((bs).map B)), (65, isF (.string ⟨bs.toArray⟩)), (66, isF (.bool (enc (dec bs) == bs))), (67, isF (.bool true)), (68, isF (.bool true))]) (by kernel_rfl) (by kernel_rfl) (knows_mono _) (steps_of ?_) ?_
          · skip
            refine allOps_cons (ok_fixed (.inl rfl) rfl 8 (.slice eo (enc rs).length ce) (.inl rfl) (by kernel_rfl) rfl (fun wx hx => ⟨eo, ce, by simp, hE.below hx⟩)) ?_
            refine allOps_cons (ok_vld (.inl rfl) rfl 49 _ rfl (by kernel_rfl) (enc rs) (fun _ _ h => h) (fun _ => congrArg Value.bool (vld_enc rs))) ?_
            refine allOps_cons (ok_move (.inl rfl) rfl 50 (.inl rfl) (by kernel_rfl) (fun _ _ h => h)) ?_
            refine allOps_cons (ok_fixed (.inr ⟨2, true, 51, rfl, by kernel_rfl, by kernel_rfl, fun _ _ h => h⟩) rfl 8 (.slice eo (enc rs).length ce) (.inl rfl) (by kernel_rfl) rfl (fun wx hx => ⟨eo, ce, by simp, hE.below hx⟩)) ?_
            refine allOps_cons (ok_dec (.inr ⟨2, true, 51, rfl, by kernel_rfl, by kernel_rfl, fun _ _ h => h⟩) rfl 52 _ rfl (by kernel_rfl) (enc rs) (by omega) (fun _ _ h => h) (fun v wx h => by rw [dec_enc] at h; exact h)) ?_
            refine allOps_cons (ok_fixed (.inr ⟨2, true, 51, rfl, by kernel_rfl, by kernel_rfl, fun _ _ h => h⟩) rfl 5 (.slice wo rs.length cw) (.inl rfl) (by kernel_rfl) rfl (fun wx hx => ⟨wo, cw, by simp, hWt.below hx⟩)) ?_
            refine allOps_cons (ok_same (.inr ⟨2, true, 51, rfl, by kernel_rfl, by kernel_rfl, fun _ _ h => h⟩) rfl 53 54 _ rfl (by kernel_rfl) (by kernel_rfl) (rs.map fix) (fun _ _ h => h) (fun _ _ h => h) (fun _ => rfl)) ?_
            refine allOps_cons (ok_pick (.inl rfl) rfl 51 55 _ rfl (by kernel_rfl) (by kernel_rfl) (fun _ _ h => h) (fun _ _ h => h)) ?_
            refine allOps_cons (ok_move (.inl rfl) rfl 56 (.inl rfl) (by kernel_rfl) (fun _ _ h => h)) ?_
            refine allOps_cons (ok_fixed (.inr ⟨8, true, 57, rfl, by kernel_rfl, by kernel_rfl, fun _ _ h => h⟩) rfl 1 (.slice bo bs.length cb) (.inl rfl) (by kernel_rfl) rfl (fun wx hx => ⟨bo, cb, by simp, hB.below hx⟩)) ?_
            refine allOps_cons (ok_vld (.inr ⟨8, true, 57, rfl, by kernel_rfl, by kernel_rfl, fun _ _ h => h⟩) rfl 58 _ rfl (by kernel_rfl) (bs) (fun _ _ h => h) (fun _ => rfl)) ?_
            refine allOps_cons (ok_fixed (.inr ⟨8, true, 57, rfl, by kernel_rfl, by kernel_rfl, fun _ _ h => h⟩) rfl 1 (.slice bo bs.length cb) (.inl rfl) (by kernel_rfl) rfl (fun wx hx => ⟨bo, cb, by simp, hB.below hx⟩)) ?_
            refine allOps_cons (ok_dec (.inr ⟨8, true, 57, rfl, by kernel_rfl, by kernel_rfl, fun _ _ h => h⟩) rfl 60 _ rfl (by kernel_rfl) (bs) (by omega) (fun _ _ h => h) (fun _ _ h => h)) ?_
            refine allOps_cons (ok_enc (.inr ⟨8, true, 57, rfl, by kernel_rfl, by kernel_rfl, fun _ _ h => h⟩) rfl 61 _ rfl (by kernel_rfl) (dec bs) (by omega) (fun _ _ h => h) (fun _ _ h => h)) ?_
            refine allOps_cons (ok_str (.inr ⟨8, true, 57, rfl, by kernel_rfl, by kernel_rfl, fun _ _ h => h⟩) rfl 62 rfl (by kernel_rfl) (enc (dec bs)) (fun _ _ h => h) (fun _ => rfl)) ?_
            refine allOps_cons (ok_fixed (.inr ⟨8, true, 57, rfl, by kernel_rfl, by kernel_rfl, fun _ _ h => h⟩) rfl 1 (.slice bo bs.length cb) (.inl rfl) (by kernel_rfl) rfl (fun wx hx => ⟨bo, cb, by simp, hB.below hx⟩)) ?_
            refine allOps_cons (ok_str (.inr ⟨8, true, 57, rfl, by kernel_rfl, by kernel_rfl, fun _ _ h => h⟩) rfl 64 rfl (by kernel_rfl) (bs) (fun _ _ h => h) (fun _ => rfl)) ?_
            refine allOps_cons (ok_eql_str (.inr ⟨8, true, 57, rfl, by kernel_rfl, by kernel_rfl, fun _ _ h => h⟩) rfl 63 65 _ _ rfl (by kernel_rfl) (by kernel_rfl) _ _ (fun _ _ h => h) (fun _ _ h => h) (fun _ => by rw [ByteArray.toList_mk, ByteArray.toList_mk]; rfl)) ?_
            refine allOps_cons (ok_eql_bool (.inr ⟨8, true, 57, rfl, by kernel_rfl, by kernel_rfl, fun _ _ h => h⟩) rfl 59 66 _ _ rfl (by kernel_rfl) (by kernel_rfl) _ _ Try.underlying4 (fun _ _ h => h) (fun _ _ h => h) (fun _ => congrArg Value.bool (beq_vld bs))) ?_
            refine allOps_cons (ok_pick (.inl rfl) rfl 57 67 _ rfl (by kernel_rfl) (by kernel_rfl) (fun _ _ h => h) (fun _ _ h => h)) ?_
            refine allOps_cons (ok_move (.inl rfl) rfl 68 (.inr rfl) (by kernel_rfl) (fun _ _ h => h)) ?_
            exact allOps_nil
          · intro a wz hx hsz hdef hfix hkn
            refine ‹∀ (a : Act) (w : World), Code.wp Try.prog Code.ret _ a w → _› a wz ?_
            have h4 : a.tmps.getD 4 undef = .bool true := hkn 4 (by kernel_rfl)
            go_wp2
            exact bodyPost_ret (v := .bool true) (by rw [results_tmp rfl, h4]) hdef ⟨rfl, hx4.trans hx⟩
end Go.Proofs.Ytanhoohekjconaa
