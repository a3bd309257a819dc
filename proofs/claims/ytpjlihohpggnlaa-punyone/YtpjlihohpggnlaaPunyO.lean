/-
  The walk of PunyOne, over what Encode and Decode of package puny tell.
-/
import Derived.Test.YtpjlihohpggnlaaPunyW
namespace Go.Proofs.Ytpjlihohpggnlaa
set_option linter.unusedVariables false
open Go.RowKit

set_option maxHeartbeats 1600000 in
theorem one_walk (PE : EncOf 9) (PD : DecOf 11) (s : List UInt8) (w : World) :
    Calls Try.prog 6 #[S s] w fun e w' => e = .returned (.bool true) ∧ Below w.heap.size w w' := by
  have HB := hide (begun_yes PE PD)
  have HE := hide PE
  have HD := hide PD
  clear PE PD
  have hsz := size_S s
  have HA := hide (at_S s)
  have HS := hide (fun (w : World) (h : s.length ≤ 1000) => unhide HD s w h)
  clear HD
  show Calls Try.prog 6 #[.string ⟨s.toArray⟩] w _
  generalize hz : (⟨s.toArray⟩ : ByteArray) = z at *
  have HZ := hide hz
  clear hz
  go_enter Try.func6, Try.ntmps6
  go_wp2_with fail
  refine (unhide HB _).mono ?_
  rintro e w1 ⟨rfl, hx1⟩
  clear HB
  by_cases g1 : 60 < s.length
  · go_wp2
    go_ret
    exact ⟨rfl, hx1⟩
  have hgo : (0 < s.length ∧ (((s.getD 0 0).toNat : Int) = 45)) ∨ s.length = 0 ∨ (0 < s.length ∧ ¬ (((s.getD 0 0).toNat : Int) = 45)) := by omega
  have h0 := fun (h : 0 < s.length) => unhide HA 0 (by omega)
  rcases hgo with ⟨g2, g3⟩ | hgo
  · have h0 := h0 g2
    generalize s.getD 0 0 = x at *
    go_wp2
    go_ret
    exact ⟨rfl, hx1⟩
  have hgo2 : s.length = 0 ∨ ∃ x : UInt8, 0 < s.length ∧ (∀ hk : 0 < z.size, z[0] = x) ∧ ((x.toNat : Int) == 45) = false := by
    rcases hgo with g | ⟨g, g3⟩
    · exact .inl g
    · exact .inr ⟨s.getD 0 0, g, fun hk => h0 g, beq_eq_false_iff_ne.2 g3⟩
  clear h0 hgo
  rcases hgo2 with g2 | ⟨x, g2, h0, g3⟩
  all_goals
    go_wp2_with fail
    go_loopw [3] (fun i wr => ∃ j : Nat, j ≤ s.length ∧ i = .int .i64 j ∧ (∀ b ∈ s.take j, ¬ (65 ≤ b.toNat ∧ b.toNat ≤ 90)) ∧ wr = w1) (fun i _ => s.length - (intOf i).toNat)
    case atStart => exact ⟨0, by omega, rfl, by simp, rfl⟩
    case round =>
      obtain ⟨j, hj, rfl, hno, rfl⟩ := hrel
      have HN := hide hno
      clear hno
      by_cases hjl : j < s.length
      · have hat := unhide HA j (by omega)
        have HT := hide (take_snoc s j 0 hjl)
        generalize s.getD j 0 = y at *
        have hc : (65 ≤ (y.toNat : Int) ∧ (y.toNat : Int) ≤ 90) ∨ (65 ≤ (y.toNat : Int) ∧ ¬ (y.toNat : Int) ≤ 90) ∨ ¬ 65 ≤ (y.toNat : Int) := by omega
        rcases hc with ⟨c1, c2⟩ | ⟨c1, c2⟩ | c1
        · go_wp2
          all_goals
            go_ret
            exact ⟨rfl, hx1⟩
        all_goals
          go_wp2
          all_goals
            go_roundw
            case rel =>
              refine ⟨j + 1, by omega, by go_num, ?_, by trivial⟩
              rw [unhide HT]
              intro b hb
              rcases List.mem_append.1 hb with hb | hb
              · exact unhide HN b hb
              · rw [List.mem_singleton] at hb
                rw [hb]
                omega
            case measure => simp [intOf]; omega
      · have hno := unhide HN
        rw [List.take_of_length_le (by omega)] at hno
        have HNO := hide hno
        clear hno HN
        have hz := unhide HZ
        subst hz
        have HX := hide (unhide HS wr (by omega))
        unfold TellsD at HX
        cases hp : pdec s with
        | none =>
          have e2 : dL s = [] ∧ dE s = 2 := by unfold dL dE; rw [hp]; exact ⟨rfl, rfl⟩
          rw [e2.1, e2.2] at HX
          clear e2 hp HS HA
          go_wp2_with fail
          refine (unhide HX).mono ?_
          rintro e w3 ⟨a3, c3, rfl, hr3, hx3⟩
          have hx3 := hx1.trans hx3
          clear HX
          go_wp2
          go_ret
          exact ⟨by simp, hx3⟩
        | some ns =>
          have e2 : dL s = ints ns ∧ dE s = 0 := by unfold dL dE; rw [hp]; exact ⟨rfl, rfl⟩
          have hpe := penc_pdec hp (unhide HNO)
          have hcp := penc_cp hpe
          have hlen := pdec_range hp
          have hpi := penI_ints ns
          rw [hpe] at hpi
          have e3 : eS (ints ns) = s ∧ eE (ints ns) = 0 := by unfold eS eE; rw [hpi]; exact ⟨rfl, rfl⟩
          have hrg : ∀ r ∈ ints ns, -2147483648 ≤ r ∧ r ≤ 2147483647 := by
            intro r hr
            unfold ints at hr
            obtain ⟨n, hn, rfl⟩ := List.mem_map.1 hr
            have := hcp n hn
            omega
          have hli : (ints ns).length ≤ 63 := by unfold ints; simpa using hlen
          rw [e2.1, e2.2] at HX
          have HEE := hide (fun ao cap w h => unhide HE ao _ cap (ints ns) w rfl (by omega) hrg h)
          unfold TellsE at HEE
          rw [e3.1, e3.2] at HEE
          clear e2 hp HS HA hpe hcp hlen hpi e3 hrg HE HNO
          generalize ints ns = l at *
          go_wp2_with fail
          refine (unhide HX).mono ?_
          rintro e w3 ⟨a3, c3, rfl, hr3, hx3⟩
          have hx3 := hx1.trans hx3
          clear HX
          go_wp2_with fail
          refine (unhide HEE a3 c3 w3 hr3).mono ?_
          rintro e w4 ⟨rfl, hx4⟩
          have hr4 := hr3.below hx4
          have hx4 := hx3.trans hx4
          clear HEE hr3 hx3 hx1
          have hle4 := hr4.le
          have hmx4 := hr4.max
          rw [List.length_map] at hle4
          go_wp2_with fail
          go_loopw [8, 9] (fun hb i wr => ∃ (j : Nat) (q : Bool), j ≤ l.length ∧ i = .int .i64 j ∧ hb = .bool q ∧ wr = w4) (fun _ i _ => l.length - (intOf i).toNat)
          case atStart => exact ⟨0, false, by omega, rfl, rfl, rfl⟩
          case round =>
            clear hj hjl
            rename_i wq
            obtain ⟨j2, q, hj2, rfl, rfl, rfl⟩ := hrel
            by_cases hjl2 : j2 < l.length
            · obtain ⟨bb, off, rfl, hc⟩ := hr4.cells (by simp; omega)
              have c0 := hc j2 (by simpa using hjl2)
              rw [getR l j2 hjl2] at c0
              generalize l.getD j2 0 = y at *
              clear hc
              cases q
              · go_wp2
                go_roundw
                case rel => exact ⟨j2 + 1, _, by omega, by go_num, rfl, by trivial⟩
                case measure => simp [intOf]; omega
              · go_wp2
                go_roundw
                case rel => exact ⟨j2 + 1, _, by omega, by go_num, rfl, by trivial⟩
                case measure => simp [intOf]; omega
            · go_wp2
              go_ret
              exact ⟨by simp, hx4⟩
end Go.Proofs.Ytpjlihohpggnlaa
