/-
  What the document's own Encode and SameRunes tell.
-/
import Derived.Test.YtilmkmplaehcaaaDoorUtfR
namespace Go.Proofs.YtilmkmplaehcaaaDoor
set_option linter.unusedVariables false
open Go.RowKit

theorem uinfoB : (Tryd.prog.info? 5).map (fun i => (i.zero, i.size, i.bytes)) = some (some (.int .u8 0), 1, 1) := by kernel_rfl
theorem uinfoR : (Tryd.prog.info? 21).map (fun i => (i.zero, i.size, i.bytes)) = some (some (.int .i32 0), 1, 4) := by kernel_rfl

theorem enc_take (rs : List Int) (k : Nat) (h : k < rs.length) : enc (rs.take (k + 1)) = enc (rs.take k) ++ one (rs.getD k 0) := by
  rw [take_snoc rs k 0 h, enc_append]
  simp [enc]

theorem ugetD_range {rs : List Int} (hr : ∀ r ∈ rs, -2147483648 ≤ r ∧ r ≤ 2147483647) (k : Nat) (h : k < rs.length) : -2147483648 ≤ rs.getD k 0 ∧ rs.getD k 0 ≤ 2147483647 := by
  have : rs.getD k 0 = rs[k] := by simp [List.getD, h]
  rw [this]
  exact hr _ (List.getElem_mem h)

set_option maxHeartbeats 400000 in
set_option maxRecDepth 100000 in
theorem rEncode_some (b off cap : Nat) (rs : List Int) (w : World) (hlc : rs.length ≤ cap) (hmx : cap ≤ 9223372036854775807) (hm : rs.length ≤ 1000000) (hr : ∀ r ∈ rs, -2147483648 ≤ r ∧ r ≤ 2147483647)
    (hlt : b < w.heap.size) (hc : ∀ i, i < rs.length → w.cell? ⟨b, off + i, none⟩ = some (R (rs.getD i 0))) :
    Calls Tryd.prog 24 #[.slice (some ⟨b, off, none⟩) rs.length cap] w (Gives w ((enc rs).map B)) := by
  have key : Calls Tryd.prog 24 #[.slice (some ⟨b, off, none⟩) rs.length cap] w fun e w' => ∃ v, e = .returned v ∧ w'.ownsRow w.heap.size 5 1 v (enc rs).length ((enc rs).map B) ∧ Below w.heap.size w w' := by
    go_enter Tryd.func24, Tryd.ntmps24
    go_wp2
    go_loopw [3, 4] (fun v i wr => ∃ k : Nat, k ≤ rs.length ∧ i = .int .i64 k ∧ wr.ownsRow w.heap.size 5 1 v (enc (rs.take k)).length ((enc (rs.take k)).map B) ∧ Below w.heap.size w wr) (fun _ i _ => rs.length - (intOf i).toNat)
    case atStart => exact ⟨0, Nat.zero_le _, rfl, World.ownsRow_nil _ _ _ _, Below.refl _ _⟩
    case round =>
      obtain ⟨k, hk, rfl, own, hbr⟩ := hrel
      by_cases hkl : k < rs.length
      · have hcell : wr.cell? ⟨b, off + k, none⟩ = some (R (rs.getD k 0)) := (hbr.cell (p := ⟨b, off + k, none⟩) hlt).trans (hc k hkl)
        have hrk := ugetD_range hr k hkl
        have HE := hide (enc_take rs k hkl)
        have hel := enc_len (rs.take k)
        have hol := (one_len (rs.getD k 0)).2
        have htl : (rs.take k).length ≤ rs.length := by simp; omega
        generalize hx : rs.getD k 0 = x at *
        generalize enc (rs.take k) = pre at *
        clear hx hc hr
        go_wp2_with fail
        refine (one_any x _ hrk).mono ?_
        rintro e w1 ⟨ao, c, rfl, R1, hx1⟩
        have own1 := owns_below own hx1
        have hb1 : Below w.heap.size w w1 := hbr.trans (hx1.mono hbr.size)
        clear own
        obtain ⟨o1, ho1⟩ : ∃ o1, o1 = (one x).map B := ⟨_, rfl⟩
        have hol1 : o1.length = (one x).length := by rw [ho1]; simp
        have HO := hide ho1
        rw [← ho1] at R1
        have hone : ∀ u ∈ o1, u.oneCell' = true := by rw [ho1]; exact one_B _
        clear ho1
        go_wp2_with (at_builtin; refine wpList_app rfl (.tmp 11) (.tmp 16) 33 5 (.int .u8 0) 1 Tryd.underlying33 uinfoB rfl rfl w.heap.size _ _ _ rfl own1 _ _ _ o1 rfl ?c1 R1 hone ?c2 hb1.size ?_)
        case c1 => simp [hol1]
        case c2 => simp; omega
        intro v2 w2 own2 hb2
        have hb3 := hb1.trans hb2
        have R2 : w2.ownsRow w.heap.size 5 1 v2 (enc (rs.take (k + 1))).length ((enc (rs.take (k + 1))).map B) := by
          rw [unhide HE]
          rw [unhide HO] at own2
          simpa using own2
        clear own2 own1 R1 HO HE hone hol1
        go_wp2
        go_roundw
        case rel => exact ⟨k + 1, by omega, by go_num, R2, hb3⟩
        case measure => simp [intOf]; omega
      · have e : k = rs.length := by omega
        subst e
        go_wp2
        go_ret
        exact ⟨_, rfl, by simpa using own, hbr⟩
  exact key.mono fun e w' ⟨v, he, h1, h2⟩ => by subst he; exact gives_of_owned h1 h2

theorem rEncode_none (ao : Option Addr) (cap : Nat) (w : World) : Calls Tryd.prog 24 #[.slice ao 0 cap] w (Gives w []) := by
  go_enter Tryd.func24, Tryd.ntmps24
  go_wp2
  refine wp_loop_rounds 1 ?_
  rw [rounds_succ]
  go_wp2
  go_ret
  exact ⟨none, 0, rfl, RdV.nothing _, Ext.refl _⟩

theorem rEncode_any (ao : Option Addr) (l cap : Nat) (rs : List Int) (w : World) (hl : rs.length = l) (hm : l ≤ 1000000) (hr : ∀ r ∈ rs, -2147483648 ≤ r ∧ r ≤ 2147483647) (h : RdV w ao cap (rs.map R)) :
    Calls Tryd.prog 24 #[.slice ao l cap] w (Gives w ((enc rs).map B)) := by
  subst hl
  by_cases h0 : rs.length = 0
  · have : rs = [] := List.eq_nil_of_length_eq_zero h0
    subst this
    exact rEncode_none ao cap w
  · have hle := h.le
    obtain ⟨b, off, rfl, hc⟩ := h.cells (by simp; omega)
    obtain ⟨b', off', e, hlt⟩ := h.lt (by simp; omega)
    simp only [Option.some.injEq, Addr.mk.injEq] at e
    obtain ⟨rfl, rfl, _⟩ := e
    exact rEncode_some b off cap rs w (by simpa using hle) h.max hm hr hlt fun i hi => by rw [hc i (by simpa using hi), getR rs i hi]

end Go.Proofs.YtilmkmplaehcaaaDoor
