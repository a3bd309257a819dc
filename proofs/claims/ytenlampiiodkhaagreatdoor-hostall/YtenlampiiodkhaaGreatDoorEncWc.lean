/-
  EncW.
-/
import Derived.Test.YtenlampiiodkhaaGreatDoorEncBc
import Derived.Test.YtenlampiiodkhaaGreatDoorEncPc
namespace Go.Proofs.YtenlampiiodkhaaGreatDoor
set_option linter.unusedVariables false
open Go.RowKit
def RelE (w : World) (ns : List Nat) (n : Nat) (g : Nat → Nat) (bl bw : Nat) (F : List UInt8) (ao : Option Addr) (cap : Nat) (o k : Value) (wr : World) : Prop :=
  ∃ (k' bias : Nat) (O : List UInt8), k = .int .i64 (k' : Int) ∧ k' ≤ n ∧ O ++ (digs bias (bl + k') (k' == 0) ((List.range' k' (n - k')).map (dl ns g bl))).map letter = F ∧ bias ≤ 2400 ∧ O.length ≤ 100 + k' * 100000000 ∧
    WSt wr bw (Cc ns g k') (Pp ns g k') (bl + k') bias (k' != 0) ∧ wr.ownsRow w.heap.size 5 1 o O.length (O.map B) ∧ Below w.heap.size w wr ∧
    RdV wr ao cap ((List.range n).map fun i => In (g i)) ∧ (∀ b off, ao = some ⟨b, off, none⟩ → b ≠ bw ∧ SB wr b)
theorem vEnc_len (bias : Nat) : ∀ (f k q : Nat), (vEnc bias f k q).length ≤ f + 1
  | 0, k, q => by simp [vEnc]
  | f + 1, k, q => by
    rw [vEnc]
    split
    · simp
    · have := vEnc_len bias f (k + 36) ((q - thr k bias) / (36 - thr k bias)); simp; omega
theorem alloc_block (w : World) (o : Obj) : (w.alloc o).heap[w.heap.size]? = some o := by
  show (w.heap.push o)[w.heap.size]? = _; rw [Array.getElem?_push, if_pos rfl]
theorem dl_go {ns : List Nat} {n : Nat} {g : Nat → Nat} (h : Oths ns n g) {k : Nat} (hk : k < n) : Cc ns g k + (Pp ns g k + dl ns g (lt 128 ns).length k) / ((lt 128 ns).length + k + 1) = Cc ns g (k + 1) ∧ (Pp ns g k + dl ns g (lt 128 ns).length k) % ((lt 128 ns).length + k + 1) + 1 = Pp ns g (k + 1) := by
  have hd := dl_eq h hk; have hp := pl_le h hk; have hc := Cc_le h hk; have e1 : Pp ns g k + dl ns g (lt 128 ns).length k = pl ns g k + ((lt 128 ns).length + k + 1) * (cd ns g k - Cc ns g k) := by
    rw [Nat.mul_comm ((lt 128 ns).length + k + 1)]; omega
  constructor
  · rw [e1, Nat.add_mul_div_left _ _ (by omega), Nat.div_eq_of_lt (by omega), Nat.zero_add]; show _ = cd ns g k; omega
  · rw [e1, Nat.add_mul_mod_self_left, Nat.mod_eq_of_lt (by omega)]; rfl
set_option maxHeartbeats 4000000 in
set_option maxRecDepth 100000 in
theorem encode_len (ao : Option Addr) (l cap : Nat) (rs : List Int) (w : World) (hl : rs.length = l) (hm : l ≤ 1000) (hr : ∀ r ∈ rs, -2147483648 ≤ r ∧ r ≤ 2147483647) (h : RdV w ao cap (rs.map R)) :
    Calls Tryz.prog 132 #[.slice ao l cap] w fun e w' => e = .returned (.tuple #[S (eS rs), .int .i64 (eE rs)]) ∧ Ext w w' ∧ (eS rs).length ≤ 7000000000 := by
  subst hl; have hle := h.le; have hmx := h.max; simp only [List.length_map] at hle; go_enter Tryz.func132, Tryz.ntmps132; by_cases g0 : 63 < rs.length
  · have e1 : eS rs = [] ∧ eE rs = 1 := by unfold eS eE; rw [penI_long g0]; exact ⟨rfl, rfl⟩
    rw [e1.1, e1.2]; clear e1; go_wp2; go_ret2
    first | exact ⟨rfl, Ext.refl w, by simp⟩ | exact ⟨rfl, Ext.refl w⟩ | exact Ext.refl w | exact ⟨Ext.refl w, by simp⟩
  have AC := hide (areCodes_any ao cap rs w (by omega) hr h); by_cases hall : rs.all isc = true
  · have hok : ∀ r ∈ rs, okc r := fun r hr => (isc_iff r).1 (List.all_eq_true.1 hall r hr); rw [hall] at AC; have PL := hide (plain_any ao cap rs w (by omega) hok h); have hpi := penI_yes hok (by omega); obtain ⟨ns, hns⟩ : ∃ ns, ns = rs.map Int.toNat := ⟨_, rfl⟩; have hnl : ns.length = rs.length := by rw [hns]; simp
    have hcp : ∀ x ∈ ns, cp x = true := by
      intro x hx; rw [hns] at hx; obtain ⟨r, hr, rfl⟩ := List.mem_map.1 hx; exact (hok r hr).2
    have hcells : rs.map R = ns.map fun (x : Nat) => R (x : Int) := by
      rw [hns, List.map_map]; refine List.map_congr_left fun r hr => ?_; have := (hok r hr).1; show R r = R ((r.toNat : Nat) : Int); rw [Int.toNat_of_nonneg this]
    have hlow : (low rs).length = (lt 128 ns).length := by rw [hns]; unfold low; simp
    have hN : Hid (RdV w ao cap (ns.map fun (x : Nat) => R (x : Int))) := by rw [← hcells]; exact h
    rw [← hns] at hpi; have e1 : eS rs = low rs ++ (if low rs = [] then [] else [45]) ++ (digs 72 (low rs).length true (dts rs.length 128 0 (low rs).length ns)).map letter ∧ eE rs = 0 := by unfold eS eE; rw [hpi]; exact ⟨rfl, rfl⟩
    have HE1 := hide e1; have HCP := hide hcp; have hbl := low_len rs; clear e1 hpi hok hcells hcp hall hns h; generalize low rs = Lw at *; rw [hlow, ← hnl] at HE1; rw [← hnl] at AC PL hle g0 ⊢; generalize eS rs = F at *; generalize eE rs = fe at *; rw [← hnl] at hbl hm; have HLOW := hide hlow; clear hr hnl hlow; go_wp2_with fail
    refine (unhide AC).mono ?_; rintro e w0 ⟨rfl, hw⟩; have hw' := hw.symm; subst hw'; clear AC hw; go_wp2_with fail
    refine (unhide PL).mono ?_; rintro e w1 ⟨v1, rfl, own1, ex1⟩; clear PL; obtain ⟨a1, c1, rfl, _, _⟩ := RdV.of_owned own1; have NW := hide (newWalk_any Lw.length w1); go_wp2_with fail
    refine (unhide NW).mono ?_; rintro e w2 ⟨rfl, ex2⟩; clear NW; have hwst : WSt (w2.alloc (.cells #[.int .i64 128, .int .i64 0, .int .i64 (Lw.length : Int), .int .i64 72, .bool false] 172)) w2.heap.size 128 0 Lw.length 72 false :=
      ⟨by simp, by simp, by simp, by simp, by simp, by simp, by simp, by simp, by simp, by simp, ⟨_, _, _, alloc_block _ _, by decide⟩⟩
    have ex3 := ex2.trans (Ext.alloc w2 (.cells #[.int .i64 128, .int .i64 0, .int .i64 (Lw.length : Int), .int .i64 72, .bool false] 172)); have own3 := owns_below own1 ex3; have hb3 : Below w.heap.size w (w2.alloc (.cells #[.int .i64 128, .int .i64 0, .int .i64 (Lw.length : Int), .int .i64 72, .bool false] 172)) := ex1.trans ex3; have hsz2 : w.heap.size ≤ w2.heap.size := (ex1.trans ex2).size; clear ex1 ex2 ex3 own1; have hend : ∀ (P : List UInt8), P = Lw ++ (if Lw = [] then [] else [45]) → Hid (P ++ (digs 72 (lt 128 ns).length true (dts ns.length 128 0 (lt 128 ns).length ns)).map letter = F) := fun P hP => by rw [hP]; exact hide (unhide HE1).1.symm
    have HEND := hide hend; have HE0 := hide (unhide HE1).2; have HW := hide hwst; clear hend HE1 hwst; refine (Nat.eq_zero_or_pos Lw.length).elim (fun hz => ?br1) (fun hz => ?br2)
    case' br1 =>
      have eL : Lw = [] := List.eq_nil_of_length_eq_zero hz; have HF := unhide HEND Lw (by rw [eL]; simp); have hPl : Lw.length ≤ 100 := by omega
      have hz' : ¬ 0 < (Lw.length : Int) := by omega
      have HWP := HW; have ownP := own3; have hbP := hb3; clear HEND eL own3 hb3 HW hz; have OC := hide (others_any ns ao cap _ (by omega) (fun x hx => cp_le (unhide HCP x hx)) ((unhide hN).below hbP)); go_wp2_with fail
      refine (unhide OC).mono ?_; rintro e w5 ⟨aoO, capO, n, g, rfl, hn63, hO, hRO, ex5, hIB⟩; clear OC; have START : Hid (RelE w ns n g Lw.length w2.heap.size F aoO capO (.slice a1 Lw.length c1) (.int .i64 0) w5) := by
        refine ⟨0, 72, _, rfl, Nat.zero_le _, ?_, by omega, hPl, (unhide HWP).kp (Kp.of_ext ex5), owns_below ownP ex5, Ext.then hbP ex5 hbP.size, hRO, fun b off e => ⟨?_, SB.of_IB (hIB b off e).2⟩⟩
        · rw [Nat.sub_zero, unhide HLOW, ← dts_is hO (by omega) (unhide HCP)]; exact unhide HF
        · have h1 := (hIB b off e).1; have h2 := (unhide HWP).lt; omega
    case' br2 =>
      have HF := unhide HEND (Lw ++ [45]) (by rw [if_neg (by intro e; rw [e] at hz; simp at hz)]); have hz' : 0 < (Lw.length : Int) := by omega
      clear HEND; have RL := RdV.lit (w2.alloc (.cells #[.int .i64 128, .int .i64 0, .int .i64 (Lw.length : Int), .int .i64 72, .bool false] 172)) [B 45] 5 (0, 0) (by simp); have hsz3 : (w2.alloc (.cells #[.int .i64 128, .int .i64 0, .int .i64 (Lw.length : Int), .int .i64 72, .bool false] 172)).heap.size = w2.heap.size + 1 := by simp
      rw [hsz3] at RL; clear hsz3; have own2 := owns_below own3 (Ext.alloc (w2.alloc (.cells #[.int .i64 128, .int .i64 0, .int .i64 (Lw.length : Int), .int .i64 72, .bool false] 172)) (.cells #[B 45] 5 (0, 0))); have hb2 : Below w.heap.size w ((w2.alloc (.cells #[.int .i64 128, .int .i64 0, .int .i64 (Lw.length : Int), .int .i64 72, .bool false] 172)).alloc (.cells #[B 45] 5 (0, 0))) := hb3.trans (Below.mono (Ext.alloc (w2.alloc (.cells #[.int .i64 128, .int .i64 0, .int .i64 (Lw.length : Int), .int .i64 72, .bool false] 172)) _) hb3.size); have hbase2 := hb2.size; have hone : ∀ u ∈ [B 45], u.oneCell' = true := by simp [B, Value.oneCell']
      have HW2 := hide ((unhide HW).kp (Kp.of_ext (Ext.alloc (w2.alloc (.cells #[.int .i64 128, .int .i64 0, .int .i64 (Lw.length : Int), .int .i64 72, .bool false] 172)) (.cells #[B 45] 5 (0, 0))))); clear own3 hb3 HW; go_wp2_with (at_builtin; refine wpList_app3 rfl (.tmp 25) (.tmp 26) 22 Tryz.underlying22 rfl w.heap.size _ _ _ rfl own2 _ _ _ [B 45] rfl rfl RL hone (by omega) hbase2 ?_)
      intro v2 w4 o2 b2 k2; have hbP := hb2.trans b2; have ownP : w4.ownsRow w.heap.size 5 1 v2 (Lw ++ [45]).length ((Lw ++ [45]).map B) := by simpa using o2
      have hPl : (Lw ++ [45]).length ≤ 100 := by simp; omega
      have HWP := hide ((unhide HW2).kp k2); clear own2 RL hone o2 b2 hb2 hbase2 k2 HW2 hz; have OC := hide (others_any ns ao cap _ (by omega) (fun x hx => cp_le (unhide HCP x hx)) ((unhide hN).below hbP)); go_wp2_with fail
      refine (unhide OC).mono ?_; rintro e w5 ⟨aoO, capO, n, g, rfl, hn63, hO, hRO, ex5, hIB⟩; clear OC; have START : Hid (RelE w ns n g Lw.length w2.heap.size F aoO capO v2 (.int .i64 0) w5) := by
        refine ⟨0, 72, _, rfl, Nat.zero_le _, ?_, by omega, hPl, (unhide HWP).kp (Kp.of_ext ex5), owns_below ownP ex5, Ext.then hbP ex5 hbP.size, hRO, fun b off e => ⟨?_, SB.of_IB (hIB b off e).2⟩⟩
        · rw [Nat.sub_zero, unhide HLOW, ← dts_is hO (by omega) (unhide HCP)]; exact unhide HF
        · have h1 := (hIB b off e).1; have h2 := (unhide HWP).lt; omega
    all_goals
      have HO := hide hO; have hsum := oths_len hO; rw [← unhide HLOW] at hsum; have hro1 := hRO.le; have hro2 := hRO.max; simp only [List.length_map, List.length_range] at hro1; clear HF HWP ownP hbP hPl hO hRO ex5 hIB; go_wp2_with fail
      go_loopw [4, 31] (fun o k wr => RelE w ns n g Lw.length w2.heap.size F aoO capO o k wr) (fun _ k _ => n - (intOf k).toNat)
      case atStart => exact unhide START
      case round =>
        clear START; obtain ⟨k, bias, O, rfl, hkn, hF, hbi, hOl, hws, own, hbr, hRO, hSB⟩ := hrel; have HF := hide hF; have HSB := hide hSB; clear hF hSB; by_cases hk : k < n
        · obtain ⟨aO, oO, rfl, hcO⟩ := hRO.cells (by simp; omega); have c0 : wr.cell? ⟨aO, oO + k, none⟩ = some (.int .i64 ((g k : Nat) : Int)) := by
            rw [hcO k (by simpa using hk)]; simp [hk, In]
          have HRO := hide hRO; clear hRO hcO; obtain ⟨d1, d2, d3, d4⟩ := dl_le (unhide HO) (by omega) (unhide HCP) hk; obtain ⟨go1, go2⟩ := dl_go (unhide HO) hk; have hde := dl_eq (unhide HO) hk; have hcc := Cc_le (unhide HO) hk; rw [← unhide HLOW] at d1 go1 go2 hde; have hmem := (unhide HO).mem k hk; have hRw := (unhide hN).below (show Ext w wr from hbr); have HPO := hide (fun q : Nat => placeOf_any ns ao cap (g k) (wr.drewN q) (by omega) hmem.1 (hRw.below (Ext.drewN wr q))); obtain ⟨aL, oL, eL, hcL⟩ := hRw.cells (by simp; omega); have cL : wr.cell? ⟨aL, oL + g k, none⟩ = some (.int .i32 ((cd ns g k : Nat) : Int)) := by
            rw [hcL (g k) (by simpa using hmem.1)]; unfold cd; simp [List.getD, hmem.1]
          clear hcL hRw; change Hid (∀ q : Nat, Calls Tryz.prog 170 #[.slice ao ns.length cap, .int .i64 ((g k : Nat) : Int)] (wr.drewN q) fun e w' => e = .returned (.int .i64 ((pl ns g k : Nat) : Int)) ∧ w' = wr.drewN q) at HPO; have HDT := hide (fun q : Nat => deltaTo_any (wr.drewN q) w2.heap.size _ _ _ _ _ (cd ns g k) (pl ns g k) (dl ns g Lw.length k) (hws.drewN q) hcc d2 (by omega) d4 (by omega) hde); have hF2 := unhide HF; rw [show n - k = (n - (k + 1)) + 1 by omega, List.range'_succ, List.map_cons, digs, List.map_append, ← List.append_assoc] at hF2; have HF2 := hide hF2; have MV := hide (fun (W : World) (hW : WSt W w2.heap.size (Cc ns g k) (Pp ns g k) (Lw.length + k) bias (k != 0)) => move_any W w2.heap.size _ _ _ _ _ (dl ns g Lw.length k) hW (by omega) (by omega) (by omega) (by omega)); rw [go1, go2, show (!(k != 0)) = (k == 0) by cases k <;> rfl] at MV; have hab := adp_le (dl ns g Lw.length k) (Lw.length + k + 1) (k == 0); generalize adp (dl ns g Lw.length k) (Lw.length + k + 1) (k == 0) = nb at *; have hgk : g k < ns.length := hmem.1; subst eL; obtain ⟨a2, c2, rfl, _, _⟩ := RdV.of_owned own; have cb := hws.c3; have HWS := hide hws; have OWN := hide own; have hbs := hbr.size; have AN := hide (fun q : Nat => appendNumber_any w.heap.size a2 c2 O (dl ns g Lw.length k) bias (wr.drewN q) (owns_below own (Ext.drewN wr q)) (by exact hbs) (by omega) hbi (by omega)); have hLE := vEnc_len bias (dl ns g Lw.length k) 36 (dl ns g Lw.length k); have HLE : Hid ((O ++ (vEnc bias (dl ns g Lw.length k) 36 (dl ns g Lw.length k)).map letter).length ≤ 100 + (k + 1) * 100000000) := by
            show (O ++ (vEnc bias (dl ns g Lw.length k) 36 (dl ns g Lw.length k)).map letter).length ≤ 100 + (k + 1) * 100000000; rw [List.length_append, List.length_map]; omega
          clear hF2 HF hmem hde go1 go2 hcc hws own hLE; generalize O ++ (vEnc bias (dl ns g Lw.length k) 36 (dl ns g Lw.length k)).map letter = O2 at *; generalize dl ns g Lw.length k = D at *; generalize cd ns g k = C at *; generalize pl ns g k = PL at *; generalize g k = A at *; go_wp2_with fail
          go_quiet (first | (go_at_call 170; exact Calls.quiet_of_same (unhide HPO _)) | (go_at_call 169; exact Calls.quiet_of (unhide HDT _)))
          have AN2 := hide (unhide AN nq); have cb2 : (wr.drewN nq).cell? ⟨w2.heap.size, 3, none⟩ = some (.int .i64 (bias : Int)) := cb; have HWS2 := hide ((unhide HWS).drewN nq); have HRO2 := hide ((unhide HRO).below (Ext.drewN wr nq)); have HSB2 : Hid (∀ b off, some (⟨aO, oO, none⟩ : Addr) = some ⟨b, off, none⟩ → b ≠ w2.heap.size ∧ SB (wr.drewN nq) b) := fun b off e => unhide HSB b off e; have hbr2 := Ext.then hbr (Ext.drewN wr nq) hbr.size; clear AN cb HWS HRO HSB hbr OWN HPO HDT c0 cL; generalize wr.drewN nq = wq at *; go_wp2_with fail
          refine (unhide AN2).mono ?_; rintro e w6 ⟨v6, rfl, own6, b6, k6⟩; have ws6 := (unhide HWS2).kp k6; have MV6 := hide (unhide MV w6 ws6); have HRO6 := hide ((unhide HRO2).kp (fun b off e => (unhide HSB2 b off e).2) k6); have HSB6 : Hid (∀ b off, some (⟨aO, oO, none⟩ : Addr) = some ⟨b, off, none⟩ → b ≠ w2.heap.size ∧ SB w6 b) := fun b off e => ⟨(unhide HSB2 b off e).1, (unhide HSB2 b off e).2.kp k6⟩; have hbr6 : Below w.heap.size w w6 := Below.trans hbr2 b6; have hne6 := hide (own_ne own6 ws6.sb); have OWN6 := hide own6; clear AN2 HWS2 HRO2 HSB2 hbr2 own6 b6 k6 ws6 MV cb2; go_wp2_with fail
          refine (unhide MV6).mono ?_; rintro e w7 ⟨rfl, ws7, o7⟩; have REL : Hid (RelE w ns n g Lw.length w2.heap.size F (some ⟨aO, oO, none⟩) capO v6 (.int .i64 ((k : Int) + 1)) w7) :=
            ⟨k + 1, nb, O2, by simp, by omega, unhide HF2, by omega, unhide HLE, ws7, owns_oth (unhide OWN6) o7 (unhide hne6), o7.below hbr6 hsz2, (unhide HRO6).oth (fun b off e => (unhide HSB6 b off e).1) o7, fun b off e => ⟨(unhide HSB6 b off e).1, (unhide HSB6 b off e).2.oth o7 (unhide HSB6 b off e).1⟩⟩
          clear MV6 OWN6 hne6 HRO6 HSB6 hbr6 ws7 o7 HF2 HLE; go_wp2; exact ⟨unhide REL, (show n - ((k : Int) + 1).toNat < n - ((k : Int)).toNat by omega)⟩
        · have e : k = n := by omega
          subst e; have hF2 := unhide HF; rw [Nat.sub_self] at hF2; simp only [List.range'_zero, List.map_nil, digs, List.append_nil] at hF2; obtain ⟨a2, c2, rfl, hRd, _⟩ := RdV.of_owned own; have cs := conv_str wr a2 _ c2 O rfl hRd; have HFF := hide hF2; clear hRd own hws HF hRO HSB hF2; go_wp2; go_ret2; rw [unhide HE0, ← unhide HFF]; exact ⟨rfl, hbr, by omega⟩
  · have hn := hall; have e1 : eS rs = [] ∧ eE rs = 1 := by
      have hno : ∃ r ∈ rs, ¬ okc r := by
        refine Classical.byContradiction fun hc => hall (List.all_eq_true.2 fun r hr => (isc_iff r).2 (Classical.byContradiction fun hx => hc ⟨r, hr, hx⟩))
      unfold eS eE; rw [penI_no hno]; exact ⟨rfl, rfl⟩
    have hall' : rs.all isc = false := by simpa using hall
    rw [hall'] at AC; rw [e1.1, e1.2]; clear e1 hn hall hall' h hr; go_wp2_with fail
    refine (unhide AC).mono ?_; rintro e w0 ⟨rfl, hw⟩; have hw' := hw.symm; subst hw'; clear AC hw; go_wp2; go_ret2; exact ⟨rfl, Ext.refl _, by simp⟩
end Go.Proofs.YtenlampiiodkhaaGreatDoor
