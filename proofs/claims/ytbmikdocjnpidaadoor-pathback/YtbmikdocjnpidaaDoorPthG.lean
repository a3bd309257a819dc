/-
  How far path has come; what is shown is parsed as it was; a way from a way's end.
-/
import Derived.Test.YtbmikdocjnpidaaDoorPthF
namespace Go.Proofs.YtbmikdocjnpidaaDoor
set_option linter.unusedVariables false
open Go.RowKit

theorem way_len : ∀ (ps l : List (List UInt8)), (way l ps).length ≤ l.length + ps.length
  | [], l => by simp [way]
  | x :: r, l => by
    have h1 := way_len r (stp l x r.isEmpty)
    have h2 := stp_len l x r.isEmpty
    rw [way, List.length_cons]
    omega
theorem par_len (s : List UInt8) (sp : Bool) (base : List (List UInt8)) : (par s sp base).length ≤ base.length + s.length + 1 := by
  have h := way_len (pcs 47 (swp sp s)) base
  have h2 : (pcs 47 (swp sp s)).length ≤ s.length + 1 := by
    rw [pcs_count]
    have : Lib.countByte (swp sp s) 47 ≤ (swp sp s).length := List.count_le_length
    rw [swp_len] at this
    omega
  unfold par
  omega
theorem enc_len (x : List UInt8) : (enc x).length ≤ 3 * x.length := Pct.encd_len 4 x
theorem stp_each (M : Nat) (l : List (List UInt8)) (x : List UInt8) (last : Bool) (hx : 3 * x.length ≤ M) (hl : ∀ y ∈ l, y.length ≤ M) : ∀ y ∈ stp l x last, y.length ≤ M := by
  have he := enc_len x
  have hd : ∀ y ∈ l.dropLast, y.length ≤ M := fun y hy => hl y ((List.dropLast_sublist l).subset hy)
  intro y hy
  unfold stp at hy
  split at hy
  · split at hy
    · rcases List.mem_append.1 hy with h | h
      · exact hd y h
      · simp only [List.mem_cons, List.not_mem_nil, or_false] at h
        subst h
        simp
    · exact hd y hy
  · split at hy
    · split at hy
      · rcases List.mem_append.1 hy with h | h
        · exact hl y h
        · simp only [List.mem_cons, List.not_mem_nil, or_false] at h
          subst h
          simp
      · exact hl y hy
    · rcases List.mem_append.1 hy with h | h
      · exact hl y h
      · simp only [List.mem_cons, List.not_mem_nil, or_false] at h
        subst h
        omega
theorem way_each (M : Nat) : ∀ (ps l : List (List UInt8)), (∀ x ∈ ps, 3 * x.length ≤ M) → (∀ y ∈ l, y.length ≤ M) → ∀ y ∈ way l ps, y.length ≤ M
  | [], l, _, hl => hl
  | x :: r, l, hp, hl => way_each M r _ (fun z hz => hp z (by simp [hz])) (stp_each M l x _ (hp x (by simp)) hl)
theorem par_each (M : Nat) (s : List UInt8) (sp : Bool) (base : List (List UInt8)) (hs : 3 * s.length ≤ M) (hl : ∀ y ∈ base, y.length ≤ M) : ∀ y ∈ par s sp base, y.length ≤ M :=
  way_each M _ base (fun x hx => by
    have := pcs_len 47 _ x hx
    rw [swp_len] at this
    omega) hl
theorem shw_bound (M : Nat) : ∀ l : List (List UInt8), (∀ y ∈ l, y.length ≤ M) → (shw l).length ≤ l.length * (M + 1)
  | [], _ => by simp [shw]
  | x :: l, h => by
    have h1 := shw_bound M l (fun y hy => h y (by simp [hy]))
    have h2 := h x (by simp)
    have e : shw (x :: l) = 47 :: (x ++ shw l) := by simp [shw]
    rw [e, List.length_cons, List.length_append, List.length_cons, Nat.succ_mul]
    omega
theorem shw_par (s : List UInt8) (sp : Bool) (hs : s.length ≤ 100) : (shw (par s sp [])).length ≤ 100000 ∧ (par s sp []).length ≤ 101 := by
  have h1 := par_len s sp []
  have h2 := shw_bound (3 * s.length) _ (par_each (3 * s.length) s sp [] (Nat.le_refl _) (by simp))
  rw [List.length_nil] at h1
  have h3 : (par s sp []).length * (3 * s.length + 1) ≤ 101 * (3 * 100 + 1) := Nat.mul_le_mul (by omega) (by omega)
  omega

/-- Parse, as the laws read it. -/
theorem parse_rd (s : List UInt8) (sp : Bool) (ao : Option Addr) (cap : Nat) (base : List (List UInt8)) (w : World) (hs : s.length ≤ 100000) (hn : base.length ≤ 1000) (hb : ∀ p ∈ base, p.length ≤ 2000000) (h : RdV w ao cap (base.map S)) (hM : MaxL w) :
    Calls Tryd.prog 9 #[S s, .bool sp, .slice ao base.length cap] w fun e w' => ∃ g c, e = .returned (.slice (some ⟨g, 0, none⟩) (par s sp base).length c) ∧ RdV w' (some ⟨g, 0, none⟩) c ((par s sp base).map S) ∧ Ext w w' :=
  (parse_any s sp ao cap base w hs hn hb h hM).mono fun e w' ⟨g, c, he, ho, hx⟩ => ⟨g, c, he, RdV.of_owned_at ho, hx⟩
theorem parse_nil (s : List UInt8) (sp : Bool) (w : World) (hs : s.length ≤ 100000) (hM : MaxL w) :
    Calls Tryd.prog 9 #[S s, .bool sp, .slice none 0 0] w fun e w' => ∃ g c, e = .returned (.slice (some ⟨g, 0, none⟩) (par s sp []).length c) ∧ RdV w' (some ⟨g, 0, none⟩) c ((par s sp []).map S) ∧ Ext w w' :=
  parse_rd s sp none 0 [] w hs (by simp) (by simp) (RdV.nothing w) hM

set_option maxHeartbeats 1000000 in
theorem begun_yes (w : World) (tb : MaxL w) : Calls Tryd.prog 8 #[] w fun e w' => e = .returned (.bool true) ∧ Ext w w' := by
  have HP := hide (parse_nil [97, 47, 46, 46, 47, 98] true w (by decide) tb)
  rw [show par [97, 47, 46, 46, 47, 98] true [] = [[98]] by decide +kernel] at HP
  have H1 : Hid (∀ v : World, Calls Tryd.prog 10 #[.string ⟨#[37, 50, 69]⟩] v fun e w' => e = .returned (.bool true) ∧ Ext v w') := fun v => by
    have := sing_any [37, 50, 69] v
    rw [show sing [37, 50, 69] = true by decide +kernel] at this
    exact this
  have H2 : Hid (∀ v : World, Calls Tryd.prog 12 #[.string ⟨#[46, 37, 50, 101]⟩] v fun e w' => e = .returned (.bool true) ∧ Ext v w') := fun v => by
    have := doub_any [46, 37, 50, 101] v
    rw [show doub [46, 37, 50, 101] = true by decide +kernel] at this
    exact this
  have H3 : Hid (∀ v : World, Calls Tryd.prog 16 #[.slice (some ⟨v.heap.size, 0, none⟩) 2 2] (v.alloc (.cells #[.string ⟨#[97]⟩, .string ⟨#[98]⟩] 9 (0, 0))) fun e w' => e = .returned (.string ⟨#[47, 97, 47, 98]⟩) ∧ Ext v w') := fun v =>
    (show_any (some ⟨v.heap.size, 0, none⟩) 2 [[97], [98]] _ (by decide +kernel) (RdV.lit v ([[97], [98]].map S) 9 (0, 0) (by simp))).mono fun e w' ⟨he, hx⟩ => ⟨he, (Ext.alloc v _).trans hx⟩
  go_enter Tryd.func8, Tryd.ntmps8
  go_wp2_with fail
  refine (unhide HP).mono ?_
  rintro e w1 ⟨g, c, rfl, R1, hx1⟩
  clear HP
  have hle := R1.le
  have hmx := R1.max
  have c0 : w1.cell? ⟨g, 0, none⟩ = some (S [98]) := by
    obtain ⟨b', off', eb, hc⟩ := R1.cell 0 (by simp)
    simp only [Option.some.injEq, Addr.mk.injEq] at eb
    obtain ⟨rfl, rfl, _⟩ := eb
    exact hc
  clear R1
  go_wp2_with fail
  refine (unhide H1 _).mono ?_
  rintro e w2 ⟨rfl, hx2⟩
  clear H1
  go_wp2_with fail
  refine (unhide H2 _).mono ?_
  rintro e w3 ⟨rfl, hx3⟩
  clear H2
  have c3 : w3.cell? ⟨g, 0, none⟩ = some (.string ⟨#[98]⟩) := ((hx2.trans hx3).cell (p := ⟨g, 0, none⟩) (cell_lt c0)).trans c0
  clear c0
  go_wp2_with fail
  refine (unhide H3 _).mono ?_
  rintro e w4 ⟨rfl, hx4⟩
  clear H3
  have FF : Hid (Ext w w4) := hx1.trans (hx2.trans (hx3.trans hx4))
  clear c3 hx1 hx2 hx3 hx4
  go_wp2
  go_ret
  exact ⟨rfl, unhide FF⟩

set_option maxHeartbeats 2000000 in
theorem back10_walk (l : List UInt8) (sp : Bool) (w : World) (tb : MaxL w) : Calls Tryd.prog 4 #[S l, .bool sp] w fun e w' => e = .returned (.bool true) ∧ Ext w w' := by
  have hsz := size_S l
  have HB := hide (begun_yes w tb)
  go_enter Tryd.func4, Tryd.ntmps4
  go_wp2_with fail
  refine (unhide HB).mono ?_
  rintro e w1 ⟨rfl, hx1⟩
  clear HB
  by_cases hl : l.length ≤ 80
  · have hl1 : ¬ 80 < (l.length : Int) := by omega
    have hM1 := MaxL.below tb hx1
    have HP := hide (parse_nil l sp w1 (by omega) hM1)
    obtain ⟨hb1, hb2⟩ := shw_par l sp (by omega)
    have hne := par_ne l sp []
    have hsg := par_seg l sp
    have hback := par_back sp (par l sp []) hne hsg
    obtain ⟨T, hT⟩ := shw_front (par l sp []) hne
    have HM := hide hM1
    clear hM1
    generalize par l sp [] = L at *
    go_wp2_with fail
    refine (unhide HP).mono ?_
    rintro e w2 ⟨g, c, rfl, R2, hx2⟩
    clear HP
    have HS := hide (show_any (some ⟨g, 0, none⟩) c L w2 (by omega) R2)
    rw [hT] at HS hback hb1
    have hbk : par T sp [] = L := hback
    clear hback
    have hL0 := List.length_pos_iff.2 hne
    have hTl : T.length ≤ 99999 := by rw [List.length_cons] at hb1; omega
    go_wp2_with fail
    refine (unhide HS).mono ?_
    rintro e w3 ⟨rfl, hx3⟩
    clear HS
    have R3 := R2.below hx3
    have HM3 := hide (MaxL.below (unhide HM) (hx2.trans hx3))
    have hx03 : Hid (Ext w w3) := hx1.trans (hx2.trans hx3)
    clear R2 hx1 hx2 hx3 HM
    have hszT := size_S (47 :: T)
    rw [List.length_cons] at hszT
    have hdr : ∀ v : World, (Instr.slice 9 (.string ⟨(47 :: T).toArray⟩) (some (.int .i64 1)) none none).run Tryd.prog v = .ok (S T) v := fun v => run_drop v (47 :: T) 1 (by simp)
    have hi0 : ∀ v : World, (Instr.index 9 (.string ⟨(47 :: T).toArray⟩) (.int .i64 0)).run Tryd.prog v = .ok (.int .u8 47) v := fun v => idx_str v (47 :: T) .i64 0 (by simp)
    generalize 47 :: T = T47 at *
    have hle := R3.le
    have hmx := R3.max
    simp only [List.length_map] at hle
    have HR3 := hide R3
    clear R3
    have q1 : (((T.length : Int) + 1) == 0) = false := by rw [beq_eq_false_iff_ne]; omega
    have q2 : ((L.length : Int) == 0) = false := by rw [beq_eq_false_iff_ne]; omega
    have q3 : decide (80 < (l.length : Int)) = false := by rw [decide_eq_false_iff_not]; omega
    go_wp2_with fail
    go_loopw [7] (fun i wr => ∃ k : Nat, k ≤ L.length ∧ i = .int .i64 (k : Int) ∧ Ext w3 wr) (fun i _ => L.length - (intOf i).toNat)
    case atStart => exact ⟨0, by omega, rfl, Ext.refl _⟩
    case round =>
      obtain ⟨k, hk, rfl, hx⟩ := hrel
      by_cases hkl : k < L.length
      · have hkl' : (k : Int) < (L.length : Int) := by omega
        have c0 : wr.cell? ⟨g, k, none⟩ = some (S (L.getD k [])) := by
          obtain ⟨b', off', eb, hc⟩ := (unhide HR3).cell k (by simpa using hkl)
          simp only [Option.some.injEq, Addr.mk.injEq] at eb
          obtain ⟨rfl, rfl, _⟩ := eb
          rw [show (L.map S)[k]? = some (S (L.getD k [])) by simp [List.getD, hkl], Nat.zero_add] at hc
          exact (hx.cell (p := ⟨g, k, none⟩) (cell_lt hc)).trans hc
        obtain ⟨s1, s2, _⟩ := hsg (L.getD k []) (by simp [List.getD, hkl])
        have H1 := hide (fun v : World => sing_any (L.getD k []) v)
        have H2 := hide (fun v : World => doub_any (L.getD k []) v)
        rw [s1] at H1
        rw [s2] at H2
        clear s1 s2 hsg HR3 hi0 hdr
        generalize L.getD k [] = p at *
        go_wp2_with fail
        refine (unhide H1 _).mono ?_
        rintro e w4 ⟨rfl, hx4⟩
        clear H1
        have c4 : w4.cell? ⟨g, k, none⟩ = some (S p) := (hx4.cell (p := ⟨g, k, none⟩) (cell_lt c0)).trans c0
        clear c0
        go_wp2_with fail
        refine (unhide H2 _).mono ?_
        rintro e w5 ⟨rfl, hx5⟩
        clear H2 c4
        have FF : Hid ((∃ k' : Nat, k' ≤ L.length ∧ Value.int .i64 ((k : Int) + 1) = .int .i64 (k' : Int) ∧ Ext w3 w5) ∧ L.length - ((k : Int) + 1).toNat < L.length - k) := ⟨⟨k + 1, by omega, by simp, hx.trans (hx4.trans hx5)⟩, by omega⟩
        clear hx hx4 hx5
        go_wp2
        exact unhide FF
      · have hkl' : ¬ (k : Int) < (L.length : Int) := by omega
        have HPP := hide (parse_nil T sp wr (by omega) (MaxL.below (unhide HM3) hx))
        rw [hbk] at HPP
        clear hsg hi0
        go_wp2_with fail
        refine (unhide HPP).mono ?_
        rintro e w4 ⟨g4, c4, rfl, R4, hx4⟩
        clear HPP
        have HT := hide (sameT_some g4 0 c4 g 0 c L w4 (by omega) R4 ((unhide HR3).below (hx.trans hx4)))
        have FF : Hid (Ext w w4) := (unhide hx03).trans (hx.trans hx4)
        clear R4 HR3 hx hx4 hx03
        go_wp2_with fail
        refine (unhide HT).mono ?_
        rintro e w5 ⟨rfl, hx5⟩
        clear HT
        have F2 := (unhide FF).trans hx5
        go_wp2
        go_ret
        exact ⟨rfl, F2⟩
  · have hl1 : 80 < (l.length : Int) := by omega
    go_wp2
    go_ret
    exact ⟨rfl, hx1⟩

set_option maxHeartbeats 2000000 in
theorem parts10_walk (a b : List UInt8) (sp : Bool) (w : World) (tb : MaxL w) : Calls Tryd.prog 5 #[S a, S b, .bool sp] w fun e w' => e = .returned (.bool true) ∧ Ext w w' := by
  have hsa := size_S a
  have hsb := size_S b
  have HB := hide (begun_yes w tb)
  go_enter Tryd.func5, Tryd.ntmps5
  go_wp2_with fail
  refine (unhide HB).mono ?_
  rintro e w1 ⟨rfl, hx1⟩
  clear HB
  by_cases hla : a.length ≤ 40
  · by_cases hlb : b.length ≤ 40
    · have hl1 : ¬ 40 < (a.length : Int) := by omega
      have hl2 : ¬ 40 < (b.length : Int) := by omega
      have hM1 := MaxL.below tb hx1
      have HP := hide (fun (v : World) (hv : Ext w1 v) => parse_nil (a ++ [47]) sp v (by rw [List.length_append, List.length_singleton]; omega) (hM1.below hv))
      have HP3 := hide (fun (v : World) (hv : Ext w1 v) => parse_nil (a ++ 47 :: b) sp v (by rw [List.length_append, List.length_cons]; omega) (hM1.below hv))
      have hb1 := par_len (a ++ [47]) sp []
      have hb2 := par_each 200 (a ++ [47]) sp [] (by rw [List.length_append, List.length_singleton]; omega) (by simp)
      rw [par_end] at hb1 hb2
      rw [par_end] at HP
      rw [par_both] at HP3
      have hb3 := par_len b sp (mid [] (pcs 47 (swp sp a)))
      have HM := hide hM1
      clear hM1
      generalize mid [] (pcs 47 (swp sp a)) = D at *
      rw [List.length_append, List.length_append, List.length_singleton, List.length_singleton, List.length_nil] at hb1
      have hD : D.length ≤ 42 := by omega
      have HP2 := hide (fun (v : World) (hv : Ext w1 v) (g c : Nat) (h : RdV v (some ⟨g, 0, none⟩) c (D.map S)) => parse_rd b sp (some ⟨g, 0, none⟩) c D v (by omega) (by omega) (fun p hp => by have := hb2 p (by simp [hp]); omega) h ((unhide HM).below hv))
      have hL : (par b sp D).length ≤ 1000 := by omega
      clear hb1 hb2 hb3
      generalize par b sp D = R at *
      have hc1 := cat_to a [47]
      have hc2 := cat_to (a ++ [47]) b
      have e3 : a ++ [47] ++ b = a ++ 47 :: b := by simp
      rw [e3] at hc2
      have hcl1 : ¬ 9223372036854775807 < a.length + 1 := by omega
      go_wp2_with fail
      refine (unhide HP w1 (Ext.refl _)).mono ?_
      rintro e w2 ⟨g, c, rfl, R2, hx2⟩
      clear HP
      rw [List.length_append, List.length_singleton] at *
      have hle := R2.le
      have hmx := R2.max
      rw [List.length_map, List.length_append, List.length_singleton] at hle
      have c0 : w2.cell? ⟨g, D.length, none⟩ = some (S []) := by
        obtain ⟨b', off', eb, hc⟩ := R2.cell D.length (by simp)
        simp only [Option.some.injEq, Addr.mk.injEq] at eb
        obtain ⟨rfl, rfl, _⟩ := eb
        rw [Nat.zero_add] at hc
        rw [hc]
        simp
      have RD : RdV w2 (some ⟨g, 0, none⟩) c (D.map S) := by
        have := R2.take D.length
        rw [List.map_append, List.take_append_of_le_length (by simp), List.take_of_length_le (by simp)] at this
        exact this
      have HQ2 := hide (unhide HP2 w2 hx2 g c RD)
      have HQ3 := hide (fun (v : World) (hv : Ext w2 v) => unhide HP3 v (hx2.trans hv))
      have F2 : Hid (Ext w w2) := hx1.trans hx2
      clear HP2 HP3 R2 RD hx1 hx2 HM
      have t1 : (((D.length + 1 : Nat) : Int) - 1).toNat = D.length := by omega
      go_wp2_with fail
      refine (unhide HQ2).mono ?_
      rintro e w3 ⟨g3, c3, rfl, R3, hx3⟩
      clear HQ2
      have HQ4 := hide (unhide HQ3 w3 hx3)
      have F3 : Hid (Ext w w3) := (unhide F2).trans hx3
      have HR3 := hide R3
      clear HQ3 F2 hx3 R3 c0
      go_wp2_with fail
      refine (unhide HQ4).mono ?_
      rintro e w4 ⟨g4, c4, rfl, R4, hx4⟩
      clear HQ4
      have HT := hide (sameT_some g3 0 c3 g4 0 c4 R w4 (by omega) ((unhide HR3).below hx4) R4)
      have F4 : Hid (Ext w w4) := (unhide F3).trans hx4
      clear HR3 R4 hx4 F3
      go_wp2_with fail
      refine (unhide HT).mono ?_
      rintro e w5 ⟨rfl, hx5⟩
      clear HT
      have F5 := (unhide F4).trans hx5
      go_wp2
      go_ret
      exact ⟨rfl, F5⟩
    · have hl1 : ¬ 40 < (a.length : Int) := by omega
      have hl2 : 40 < (b.length : Int) := by omega
      go_wp2
      go_ret
      exact ⟨rfl, hx1⟩
  · have hl1 : 40 < (a.length : Int) := by omega
    go_wp2
    go_ret
    exact ⟨rfl, hx1⟩
end Go.Proofs.YtbmikdocjnpidaaDoor
