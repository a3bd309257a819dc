/-
  What the document's own Encode and SameRunes tell.
-/
import Derived.Test.YtanhoohekjconaaUtfR
namespace Go.Proofs.Ytanhoohekjconaa
set_option linter.unusedVariables false
open Go.RowKit

theorem infoB : (Try.prog.info? 5).map (fun i => (i.zero, i.size, i.bytes)) = some (some (.int .u8 0), 1, 1) := by kernel_rfl
theorem infoR : (Try.prog.info? 21).map (fun i => (i.zero, i.size, i.bytes)) = some (some (.int .i32 0), 1, 4) := by kernel_rfl

theorem enc_take (rs : List Int) (k : Nat) (h : k < rs.length) : enc (rs.take (k + 1)) = enc (rs.take k) ++ one (rs.getD k 0) := by
  rw [take_snoc rs k 0 h, enc_append]
  simp [enc]

theorem getD_range {rs : List Int} (hr : ∀ r ∈ rs, -2147483648 ≤ r ∧ r ≤ 2147483647) (k : Nat) (h : k < rs.length) : -2147483648 ≤ rs.getD k 0 ∧ rs.getD k 0 ≤ 2147483647 := by
  have : rs.getD k 0 = rs[k] := by simp [List.getD, h]
  rw [this]
  exact hr _ (List.getElem_mem h)

set_option maxHeartbeats 400000 in
theorem rEncode_some (b off cap : Nat) (rs : List Int) (w : World) (hlc : rs.length ≤ cap) (hmx : cap ≤ 9223372036854775807) (hm : rs.length ≤ 1000000) (hr : ∀ r ∈ rs, -2147483648 ≤ r ∧ r ≤ 2147483647)
    (hlt : b < w.heap.size) (hc : ∀ i, i < rs.length → w.cell? ⟨b, off + i, none⟩ = some (R (rs.getD i 0))) :
    Calls Try.prog 13 #[.slice (some ⟨b, off, none⟩) rs.length cap] w (Gives w ((enc rs).map B)) := by
  have key : Calls Try.prog 13 #[.slice (some ⟨b, off, none⟩) rs.length cap] w fun e w' => ∃ v, e = .returned v ∧ w'.ownsRow w.heap.size 5 1 v (enc rs).length ((enc rs).map B) ∧ Below w.heap.size w w' := by
    go_enter Try.func13, Try.ntmps13
    go_wp2
    go_loopw [3, 4] (fun v i wr => ∃ k : Nat, k ≤ rs.length ∧ i = .int .i64 k ∧ wr.ownsRow w.heap.size 5 1 v (enc (rs.take k)).length ((enc (rs.take k)).map B) ∧ Below w.heap.size w wr) (fun _ i _ => rs.length - (intOf i).toNat)
    case atStart => exact ⟨0, Nat.zero_le _, rfl, World.ownsRow_nil _ _ _ _, Below.refl _ _⟩
    case round =>
      obtain ⟨k, hk, rfl, own, hbr⟩ := hrel
      by_cases hkl : k < rs.length
      · have hcell : wr.cell? ⟨b, off + k, none⟩ = some (R (rs.getD k 0)) := (hbr.cell (p := ⟨b, off + k, none⟩) hlt).trans (hc k hkl)
        have hrk := getD_range hr k hkl
        have HE := hide (enc_take rs k hkl)
        have hel := enc_len (rs.take k)
        have hol := (one_len (rs.getD k 0)).2
        have htl : (rs.take k).length ≤ rs.length := by simp; omega
        generalize hx : rs.getD k 0 = x at *
        generalize enc (rs.take k) = pre at *
        clear hx hc hr
        go_wp2_with fail
        refine (one_any x _ hrk).mono ?_
        rintro e w1 ⟨ao, c, rfl, R1, hx1⟩
        have own1 := owns_below own hx1
        have hb1 : Below w.heap.size w w1 := hbr.trans (hx1.mono hbr.size)
        clear own
        obtain ⟨o1, ho1⟩ : ∃ o1, o1 = (one x).map B := ⟨_, rfl⟩
        have hol1 : o1.length = (one x).length := by rw [ho1]; simp
        have HO := hide ho1
        rw [← ho1] at R1
        have hone : ∀ u ∈ o1, u.oneCell' = true := by rw [ho1]; exact one_B _
        clear ho1
        go_wp2_with (at_builtin; refine wpList_app rfl (.tmp 11) (.tmp 16) 22 5 (.int .u8 0) 1 Try.underlying22 infoB rfl rfl w.heap.size _ _ _ rfl own1 _ _ _ o1 rfl ?c1 R1 hone ?c2 hb1.size ?_)
        case c1 => simp [hol1]
        case c2 => simp; omega
        intro v2 w2 own2 hb2
        have hb3 := hb1.trans hb2
        have R2 : w2.ownsRow w.heap.size 5 1 v2 (enc (rs.take (k + 1))).length ((enc (rs.take (k + 1))).map B) := by
          rw [unhide HE]
          rw [unhide HO] at own2
          simpa using own2
        clear own2 own1 R1 HO HE hone hol1
        go_wp2
        go_roundw
        case rel => exact ⟨k + 1, by omega, by go_num, R2, hb3⟩
        case measure => simp [intOf]; omega
      · have e : k = rs.length := by omega
        subst e
        go_wp2
        go_ret
        exact ⟨_, rfl, by simpa using own, hbr⟩
  exact key.mono fun e w' ⟨v, he, h1, h2⟩ => by subst he; exact gives_of_owned h1 h2

theorem rEncode_none (ao : Option Addr) (cap : Nat) (w : World) : Calls Try.prog 13 #[.slice ao 0 cap] w (Gives w []) := by
  go_enter Try.func13, Try.ntmps13
  go_wp2
  refine wp_loop_rounds 1 ?_
  rw [rounds_succ]
  go_wp2
  go_ret
  exact ⟨none, 0, rfl, RdV.nothing _, Ext.refl _⟩

theorem rEncode_any (ao : Option Addr) (l cap : Nat) (rs : List Int) (w : World) (hl : rs.length = l) (hm : l ≤ 1000000) (hr : ∀ r ∈ rs, -2147483648 ≤ r ∧ r ≤ 2147483647) (h : RdV w ao cap (rs.map R)) :
    Calls Try.prog 13 #[.slice ao l cap] w (Gives w ((enc rs).map B)) := by
  subst hl
  by_cases h0 : rs.length = 0
  · have : rs = [] := List.eq_nil_of_length_eq_zero h0
    subst this
    exact rEncode_none ao cap w
  · have hle := h.le
    obtain ⟨b, off, rfl, hc⟩ := h.cells (by simp; omega)
    obtain ⟨b', off', e, hlt⟩ := h.lt (by simp; omega)
    simp only [Option.some.injEq, Addr.mk.injEq] at e
    obtain ⟨rfl, rfl, _⟩ := e
    exact rEncode_some b off cap rs w (by simpa using hle) h.max hm hr hlt fun i hi => by rw [hc i (by simpa using hi), getR rs i hi]

set_option maxHeartbeats 400000 in
theorem same_some (b off cap b2 off2 cap2 : Nat) (rs qs : List Int) (w : World) (hl : qs.length = rs.length) (hlc : rs.length ≤ cap) (hlc2 : rs.length ≤ cap2) (hmx : cap ≤ 9223372036854775807) (hmx2 : cap2 ≤ 9223372036854775807)
    (hc : ∀ i, i < rs.length → w.cell? ⟨b, off + i, none⟩ = some (R (rs.getD i 0))) (hc2 : ∀ i, i < rs.length → w.cell? ⟨b2, off2 + i, none⟩ = some (R (qs.getD i 0))) (he : rs = qs) :
    Calls Try.prog 9 #[.slice (some ⟨b, off, none⟩) rs.length cap, .slice (some ⟨b2, off2, none⟩) rs.length cap2] w fun e w' => e = .returned (.bool true) ∧ Ext w w' := by
  subst he
  go_enter Try.func9, Try.ntmps9
  go_wp2
  go_loopw [5] (fun i wr => ∃ k : Nat, k ≤ rs.length ∧ i = .int .i64 k ∧ ∃ n, wr = w.drewN n) (fun i _ => rs.length - (intOf i).toNat)
  case atStart => exact ⟨0, Nat.zero_le _, rfl, 0, rfl⟩
  case round =>
    obtain ⟨k, hk, rfl, n, rfl⟩ := hrel
    by_cases hkl : k < rs.length
    · have c1 := hc k hkl
      have c2 := hc2 k hkl
      have i1 : (0 : Int) ≤ (k : Int) := by omega
      have i2 : (k : Int) < (rs.length : Int) := by omega
      generalize rs.getD k 0 = x at *
      clear hc hc2
      go_wp2_with fail
      go_quiet (fail)
      go_wp2
      go_roundw
      case rel => exact ⟨k + 1, by omega, by go_num, n + nq, rfl⟩
      case measure => simp [intOf]; omega
    · go_wp2
      go_ret
      exact ⟨rfl, Ext.drewN _ _⟩

theorem same_none (ao ao2 : Option Addr) (cap cap2 : Nat) (w : World) : Calls Try.prog 9 #[.slice ao 0 cap, .slice ao2 0 cap2] w fun e w' => e = .returned (.bool true) ∧ Ext w w' := by
  go_enter Try.func9, Try.ntmps9
  go_wp2
  refine wp_loop_rounds 1 ?_
  rw [rounds_succ]
  go_wp2
  go_ret
  exact ⟨rfl, Ext.refl _⟩

/-- Two lists that are one are the same. -/
theorem same_any (ao ao2 : Option Addr) (l cap cap2 : Nat) (rs : List Int) (w : World) (hl : rs.length = l) (h : RdV w ao cap (rs.map R)) (h2 : RdV w ao2 cap2 (rs.map R)) :
    Calls Try.prog 9 #[.slice ao l cap, .slice ao2 l cap2] w fun e w' => e = .returned (.bool true) ∧ Ext w w' := by
  subst hl
  by_cases h0 : rs.length = 0
  · rw [h0]
    exact same_none ao ao2 cap cap2 w
  · obtain ⟨b, off, rfl, hc⟩ := h.cells (by simp; omega)
    obtain ⟨b2, off2, rfl, hc2⟩ := h2.cells (by simp; omega)
    have g1 := h.le
    have g2 := h2.le
    exact same_some b off cap b2 off2 cap2 rs rs w rfl (by simpa using g1) (by simpa using g2) h.max h2.max (fun i hi => by rw [hc i (by simpa using hi), getR rs i hi]) (fun i hi => by rw [hc2 i (by simpa using hi), getR rs i hi]) rfl
end Go.Proofs.Ytanhoohekjconaa
