/-
  DmO, DmQ, DmS.
-/
import Derived.Test.YtenlampiiodkhaaGreatDoorBJc
import Derived.Test.YtenlampiiodkhaaGreatDoorUnpWc
import Derived.Test.YtenlampiiodkhaaGreatDoorPunyNc
import Derived.Test.YtenlampiiodkhaaGreatDoorBFc
namespace Go.Proofs.YtenlampiiodkhaaGreatDoor
set_option linter.unusedVariables false
open Go.RowKit
set_option maxHeartbeats 1000000 in
theorem rhas_any (s : List UInt8) (c : UInt8) (w : World) (hs : s.length ≤ 1000000) : Calls Tryz.prog 36 #[S s, B c] w fun e w' => e = .returned (.bool (s.contains c)) ∧ w' = w := by
  have fin : ∀ b : Bool, b = s.contains c → Ending.returned (.bool b) = .returned (.bool (s.contains c)) := fun b h => by rw [h]
  have FIN := hide fin; clear fin; have hsz := size_S s; have HIX := hide (fun (v : World) (k : Nat) (hk : k < s.length) => idx_str v s .i64 k hk); go_enter Tryz.func36, Tryz.ntmps36; go_wp2_with fail
  go_loopw [5] (fun i wr => ∃ k : Nat, k ≤ s.length ∧ i = .int .i64 k ∧ Hid (∀ b ∈ s.take k, b ≠ c) ∧ wr = w) (fun i _ => s.length - (intOf i).toNat)
  case atStart => exact ⟨0, by omega, rfl, hide (by simp), rfl⟩
  case round =>
    obtain ⟨k, hk, rfl, HOK, hw⟩ := hrel; subst hw; by_cases hkl : k < s.length
    · have hx0 := unhide HIX wr k hkl; have HT := hide (take_snoc s k 0 hkl); have HMM := hide (show s.getD k 0 ∈ s by simp [List.getD, hkl]); generalize s.getD k 0 = x at *; by_cases hx : x = c
      · have e1 : ((x.toNat : Int) == (c.toNat : Int)) = true := by rw [hx]; simp
        have HF : Hid (true = s.contains c) := by
          show true = s.contains c; symm; rw [List.contains_iff_mem]; rw [← hx]; exact unhide HMM
        clear hx HOK HT HMM; go_wp2; go_ret; exact ⟨unhide FIN _ (unhide HF), rfl⟩
      · have e1 : ((x.toNat : Int) == (c.toNat : Int)) = false := by
          rw [beq_eq_false_iff_ne]; intro h; exact hx (UInt8.toNat_inj.1 (by omega))
        have HOK2 : Hid (∀ b ∈ s.take (k + 1), b ≠ c) := by
          show ∀ b ∈ s.take (k + 1), b ≠ c; rw [unhide HT]; intro b hb; rcases List.mem_append.1 hb with hb | hb
          · exact unhide HOK b hb
          · rw [List.mem_singleton] at hb; rw [hb]; exact hx
        clear hx HOK HT HMM; go_wp2; exact ⟨⟨k + 1, by omega, by simp, HOK2, by first | rfl | trivial⟩, (show s.length - ((k : Int) + 1).toNat < s.length - ((k : Int)).toNat by omega)⟩
    · have hok := unhide HOK; rw [List.take_of_length_le (by omega)] at hok; have HF : Hid (false = s.contains c) := by
        show false = s.contains c; symm; rw [Bool.eq_false_iff]; intro ha; exact hok c (List.contains_iff_mem.1 ha) rfl
      clear hok HOK; go_wp2; go_ret; exact ⟨unhide FIN _ (unhide HF), rfl⟩
set_option maxHeartbeats 1000000 in
theorem rsame_some (b off cap b2 off2 cap2 : Nat) (rs qs : List Int) (w : World) (hl : qs.length = rs.length) (hlc : rs.length ≤ cap) (hlc2 : rs.length ≤ cap2) (hmx : cap ≤ 9223372036854775807) (hmx2 : cap2 ≤ 9223372036854775807)
    (hc : ∀ i, i < rs.length → w.cell? ⟨b, off + i, none⟩ = some (R (rs.getD i 0))) (hc2 : ∀ i, i < rs.length → w.cell? ⟨b2, off2 + i, none⟩ = some (R (qs.getD i 0))) :
    Calls Tryz.prog 106 #[.slice (some ⟨b, off, none⟩) rs.length cap, .slice (some ⟨b2, off2, none⟩) rs.length cap2] w fun e w' => e = .returned (.bool (decide (rs = qs))) ∧ Ext w w' := by
  have fin : ∀ b : Bool, b = decide (rs = qs) → Ending.returned (.bool b) = .returned (.bool (decide (rs = qs))) := fun b h => by rw [h]
  have FIN := hide fin; clear fin; have HL := hide hl; clear hl; go_enter Tryz.func106, Tryz.ntmps106; go_wp2
  go_loopw [5] (fun i wr => ∃ k : Nat, k ≤ rs.length ∧ i = .int .i64 k ∧ Hid (∀ i, i < k → rs.getD i 0 = qs.getD i 0) ∧ ∃ n, wr = w.drewN n) (fun i _ => rs.length - (intOf i).toNat)
  case atStart => exact ⟨0, Nat.zero_le _, rfl, hide (fun i hi => absurd hi (by omega)), 0, rfl⟩
  case round =>
    obtain ⟨k, hk, rfl, HE, n, rfl⟩ := hrel; by_cases hkl : k < rs.length
    · have c1 := hc k hkl; have c2 := hc2 k hkl; have i1 : (0 : Int) ≤ (k : Int) := by omega
      have i2 : (k : Int) < (rs.length : Int) := by omega
      by_cases hxy : rs.getD k 0 = qs.getD k 0
      · have HE2 : Hid (∀ i, i < k + 1 → rs.getD i 0 = qs.getD i 0) := fun i hi => by
          rcases Nat.lt_or_ge i k with h | h
          · exact unhide HE i h
          · have : i = k := by omega
            subst this; exact hxy
        rw [← hxy] at c2; clear hxy HE; generalize rs.getD k 0 = x at *; clear hc hc2; go_wp2_with fail
        go_quiet (fail)
        go_wp2; go_roundw
        case rel => exact ⟨k + 1, by omega, by go_num, HE2, n + nq, rfl⟩
        case measure => simp [intOf]; omega
      · have HF : Hid (decide (rs = qs) = false) := by
          show decide (rs = qs) = false; rw [decide_eq_false_iff_not]; intro e; exact hxy (by rw [e])
        have hxy2 : (rs.getD k 0 == qs.getD k 0) = false := by simpa using hxy
        generalize rs.getD k 0 = x at *; generalize qs.getD k 0 = y at *; clear hc hc2 HE; go_wp2_with fail
        go_quiet (fail)
        go_wp2; go_ret; exact ⟨unhide FIN _ (unhide HF).symm, (Ext.drewN _ _).trans (Ext.drewN _ _)⟩
    · have HF : Hid (decide (rs = qs) = true) := by
        show decide (rs = qs) = true; rw [decide_eq_true_iff]; exact eq_of_getD (unhide HL) fun i hi => unhide HE i (by omega)
      clear HE; go_wp2; go_ret; exact ⟨unhide FIN _ (unhide HF).symm, Ext.drewN _ _⟩
theorem rsame_none (ao ao2 : Option Addr) (cap cap2 : Nat) (w : World) : Calls Tryz.prog 106 #[.slice ao 0 cap, .slice ao2 0 cap2] w fun e w' => e = .returned (.bool true) ∧ Ext w w' := by
  go_enter Tryz.func106, Tryz.ntmps106; go_wp2; refine wp_loop_rounds 1 ?_; rw [rounds_succ]; go_wp2; go_ret; exact ⟨rfl, Ext.refl _⟩
theorem rsame_len (ao ao2 : Option Addr) (l l2 cap cap2 : Nat) (w : World) (hl : l ≠ l2) (h1 : l ≤ cap) (h2 : l2 ≤ cap2) (hm : cap ≤ 9223372036854775807) (hm2 : cap2 ≤ 9223372036854775807) : Calls Tryz.prog 106 #[.slice ao l cap, .slice ao2 l2 cap2] w fun e w' => e = .returned (.bool false) ∧ Ext w w' := by
  have hne : ((l : Int) == (l2 : Int)) = false := by simp; omega
  have hne2 : ¬ ((l : Int) = (l2 : Int)) := by omega
  go_enter Tryz.func106, Tryz.ntmps106; go_wp2; go_ret; exact ⟨rfl, Ext.refl _⟩
theorem rsame_any (ao ao2 : Option Addr) (l l2 cap cap2 : Nat) (rs qs : List Int) (w : World) (hl : rs.length = l) (hl2 : qs.length = l2) (h : RdV w ao cap (rs.map R)) (h2 : RdV w ao2 cap2 (qs.map R)) :
    Calls Tryz.prog 106 #[.slice ao l cap, .slice ao2 l2 cap2] w fun e w' => e = .returned (.bool (decide (rs = qs))) ∧ Ext w w' := by
  have g1 := h.le; have g2 := h2.le; simp only [List.length_map] at g1 g2; by_cases hll : l = l2
  · subst hll; subst hl; by_cases h0 : rs.length = 0
    · rw [h0]; have e1 : rs = [] := List.eq_nil_of_length_eq_zero h0; have e2 : qs = [] := List.eq_nil_of_length_eq_zero (by omega); subst e1 e2; exact rsame_none ao ao2 cap cap2 w
    · obtain ⟨b, off, rfl, hc⟩ := h.cells (by simp; omega); obtain ⟨b2, off2, rfl, hc2⟩ := h2.cells (by simp; omega); exact rsame_some b off cap b2 off2 cap2 rs qs w hl2 g1 (by omega) h.max h2.max (fun i hi => by rw [hc i (by simpa using hi), getR rs i hi]) (fun i hi => by rw [hc2 i (by simp; omega), getR qs i (by omega)])
  · have e : decide (rs = qs) = false := by
      rw [decide_eq_false_iff_not]; intro e; exact hll (by rw [← hl, ← hl2, e])
    rw [e]; exact rsame_len ao ao2 l l2 cap cap2 w hll (by omega) (by omega) h.max h2.max
theorem known_eq {t : List UInt8} {ns : List Nat} (h : pdec t = some ns) : known t = ((ints ns).any (fun r => decide (127 < r)) && ((penI (ints ns)).isSome && (decide (eS (ints ns) = t) && decide (txt (ints ns) = ints ns)))) := by
  unfold known eS; rw [h, penI_ints]; have e1 : (ints ns).any (fun r => decide (127 < r)) = ns.any (fun x => decide (127 < x)) := by
    unfold ints; rw [List.any_map]; congr 1; funext x; simp only [Function.comp]; rw [Bool.eq_iff_iff]; simp; omega
  have e2 : (txt (ints ns) == ints ns) = decide (txt (ints ns) = ints ns) := by
    rw [Bool.eq_iff_iff]; simp
  rw [e1]; show (ns.any (fun x => decide (127 < x)) && (penc ns == some t) && (txt (ints ns) == ints ns)) = _; rw [e2]
  cases hp : penc ns with
  | none => simp
  | some q =>
    have e3 : ((some q : Option (List UInt8)) == some t) = decide (q = t) := by
      rw [Bool.eq_iff_iff]; simp
    rw [e3]; simp [Bool.and_assoc]
theorem any_snoc (l : List Int) (x : Int) : (l ++ [x]).any (fun r => decide (127 < r)) = (l.any (fun r => decide (127 < r)) || decide (127 < x)) := by simp
set_option maxHeartbeats 2000000 in
set_option maxRecDepth 100000 in
theorem rknown_any (t : List UInt8) (w : World) (ht : t.length ≤ 900) (hu : ∀ b ∈ t, ¬ (65 ≤ b.toNat ∧ b.toNat ≤ 90)) :
    Calls Tryz.prog 66 #[S (xn ++ t)] w fun e w' => e = .returned (.bool (known t)) ∧ Ext w w' := by
  have fin : ∀ b : Bool, b = known t → Ending.returned (.bool b) = .returned (.bool (known t)) := fun b h => by rw [h]
  have FIN := hide fin; clear fin; have HD := hide (unpuny_any t w (by omega)); have hdr : ∀ v, (Instr.slice 9 (S (xn ++ t)) (some (.int .i64 4)) none none).run Tryz.prog v = .ok (S t) v := fun v => by
    have := run_drop v (xn ++ t) 4 (by simp [xn]); rw [show (xn ++ t).drop 4 = t from rfl] at this; exact this
  obtain ⟨Z, hZ⟩ : ∃ Z, Z = xn ++ t := ⟨_, rfl⟩; rw [← hZ] at hdr ⊢; clear hZ; go_enter Tryz.func66, Tryz.ntmps66; go_wp2_with fail
  refine (unhide HD).mono ?_; rintro e w1 ⟨a1, c1, rfl, hr1, hx1⟩; clear HD
  cases hp : pdec t with
  | none =>
    obtain ⟨e1, e2⟩ := dL_none hp; have HK := hide (known_none hp); rw [e1, e2]; clear hp e1 e2 hr1; go_wp2; go_ret; exact ⟨unhide FIN _ (unhide HK).symm, hx1⟩
  | some ns =>
    obtain ⟨e1, e2⟩ := dL_some hp; rw [e1] at hr1; rw [e1, e2]; clear e1 e2; have hlen : (ints ns).length ≤ 63 := by
      have := pdec_range hp; unfold ints; simpa using this
    have HCP := hide (pdec_cp hp hu); have HK := hide (known_eq hp); clear hp; generalize ints ns = l at *; have hle := hr1.le; have hmx := hr1.max; simp only [List.length_map] at hle; go_wp2_with fail
    go_loopw [5, 6] (fun hi i wr => ∃ k : Nat, k ≤ l.length ∧ i = .int .i64 k ∧ hi = .bool ((l.take k).any fun r => decide (127 < r)) ∧ wr = w1) (fun _ i _ => l.length - (intOf i).toNat)
    case atStart => exact ⟨0, by omega, rfl, by simp, rfl⟩
    case round =>
      obtain ⟨k, hk, rfl, rfl, hw⟩ := hrel; subst hw; by_cases hkl : k < l.length
      · obtain ⟨b, off, rfl, hc⟩ := hr1.cells (by simp; omega); have c0 := hc k (by simpa using hkl); rw [getR l k hkl] at c0; have HT := hide (any_snoc (l.take k) (l.getD k 0)); rw [← take_snoc l k 0 hkl] at HT; clear hc; generalize l.getD k 0 = x at *; generalize ((l.take k).any fun r => decide (127 < r)) = hb at *; have kk : ∀ b' : Bool, b' = (hb || decide (127 < x)) → Hid ((∃ k' : Nat, k' ≤ l.length ∧ Value.int .i64 ((k : Int) + 1) = .int .i64 k' ∧ Value.bool b' = .bool ((l.take k').any fun r => decide (127 < r)) ∧ wr = wr) ∧ l.length - ((k : Int) + 1).toNat < l.length - k) := fun b' hb' => ⟨⟨k + 1, by omega, by simp, by rw [unhide HT, hb'], rfl⟩, by omega⟩; have KK := hide kk; clear kk HT
        cases hb with
        | true =>
          have K1 := unhide KK true rfl; clear KK; go_wp2; have := unhide K1; simp only [and_true] at this ⊢; exact this
        | false =>
          by_cases hx : 127 < x
          · have K1 := unhide KK true (by simp [hx]); clear KK; go_wp2; have := unhide K1; simp only [and_true] at this ⊢; exact this
          · have K1 := unhide KK false (by simp [hx]); clear KK; go_wp2; have := unhide K1; simp only [and_true] at this ⊢; exact this
      · rw [List.take_of_length_le (by omega)]; have HE := hide (rpuny a1 l.length c1 l wr rfl (by omega) (unhide HCP) hr1)
        cases hh : (l.any fun r => decide (127 < r)) with
        | false =>
          have HF := hide (unhide FIN false (by rw [unhide HK, hh]; rfl)); clear HK FIN hh; go_wp2_with fail
          refine (unhide HE).mono ?_; rintro e w2 ⟨rfl, hx2⟩; clear HE; generalize eS l = q at *; generalize eE l = z at *; go_wp2; go_ret; exact ⟨unhide HF, hx1.trans hx2⟩
        | true =>
          rw [hh] at HK; clear hh; go_wp2_with fail
          refine (unhide HE).mono ?_; rintro e w2 ⟨rfl, hx2⟩; clear HE
          cases hs : (penI l).isSome with
          | false =>
            have HF := hide (unhide FIN false (by rw [unhide HK, hs]; rfl)); rw [show eE l = 1 by unfold eE; rw [hs]; rfl]; clear HK FIN hs; generalize eS l = q at *; go_wp2; go_ret; exact ⟨unhide HF, hx1.trans hx2⟩
          | true =>
            rw [hs] at HK; rw [show eE l = 0 by unfold eE; rw [hs]; rfl]; clear hs; generalize eS l = q at *; by_cases hq : q = t
            · rw [decide_eq_true hq] at HK; subst hq; have HT := hide (rtext_any a1 l.length c1 l w2 rfl (by omega) (unhide HCP) (hr1.below hx2)); have hx3 := hx1.trans hx2; go_wp2_with fail
              refine (unhide HT).mono ?_; rintro e w3 ⟨a3, c3, rfl, hr3, hx4⟩; clear HT; have HQ := hide (rsame_any a3 a1 _ _ c3 c1 (txt l) l w3 rfl rfl hr3 ((hr1.below hx2).below hx4)); simp only [List.length_map] at *; have hx5 := hx3.trans hx4; go_wp2_with fail
              refine (unhide HQ).mono ?_; rintro e w4 ⟨rfl, hx6⟩; have HF := hide (unhide FIN (decide (txt l = l)) (by rw [unhide HK]; simp)); clear HQ HK FIN; generalize decide (txt l = l) = bb at *; go_wp2; go_ret; exact ⟨unhide HF, hx5.trans hx6⟩
            · have HF := hide (unhide FIN false (by rw [unhide HK, decide_eq_false hq]; rfl)); have hq1 : ¬ ((⟨q.toArray⟩ : ByteArray) = ⟨t.toArray⟩) := fun h => hq (by simpa using congrArg (fun z : ByteArray => z.data.toList) h); clear HK FIN; go_wp2; go_ret; exact ⟨unhide HF, hx1.trans hx2⟩
end Go.Proofs.YtenlampiiodkhaaGreatDoor
namespace Go.Proofs.YtenlampiiodkhaaGreatDoor
set_option linter.unusedVariables false
open Go.RowKit
theorem lowB_snoc (l : List Int) (x : Int) : lowB (l ++ [x]) = lowB l ++ [UInt8.ofNat x.toNat] := by
  unfold lowB; rw [List.map_append]; rfl
theorem lowB_len (l : List Int) : (lowB l).length = l.length := by
  unfold lowB; rw [List.length_map]
theorem any_all (l : List Int) : (l.any fun r => decide (127 < r)) = !(l.all fun r => decide (r ≤ 127)) := by
  rw [Bool.eq_iff_iff]; simp
set_option maxHeartbeats 2000000 in
set_option maxRecDepth 100000 in
theorem rlabel_any (ao : Option Addr) (l cap : Nat) (rs : List Int) (w : World) (hl : rs.length = l) (hm : l ≤ 800) (hr : ∀ r ∈ rs, 0 ≤ r ∧ r ≤ 2147483647 ∧ ¬ (65 ≤ r ∧ r ≤ 90)) (h : RdV w ao cap (rs.map R)) :
    Calls Tryz.prog 35 #[.slice ao l cap] w (TellsL w rs) := by
  have fin : ∀ (s : List UInt8) (b : Bool) (w' : World), b = (labOf rs).isSome → (∀ t, labOf rs = some t → s = t) → Ext w w' → TellsL w rs (.returned (.tuple #[S s, .bool b])) w' := fun s b w' h1 h2 h3 => ⟨⟨s, by rw [h1], h2⟩, h3⟩; have FIN := hide fin; clear fin; subst hl; have hle := h.le; have hmx := h.max; simp only [List.length_map] at hle; have HR := hide hr; clear hr; go_enter Tryz.func35, Tryz.ntmps35; go_wp2_with fail
  go_loopw [4, 5, 6] (fun hi o i wr => ∃ k : Nat, k ≤ rs.length ∧ i = .int .i64 k ∧ hi = .bool ((rs.take k).any fun r => decide (127 < r)) ∧ wr.ownsRow w.heap.size 5 1 o k ((lowB (rs.take k)).map B) ∧ Below w.heap.size w wr) (fun _ _ i _ => rs.length - (intOf i).toNat)
  case atStart => exact ⟨0, by omega, rfl, by simp, World.ownsRow_nil _ _ _ _, Below.refl _ _⟩
  case round =>
    obtain ⟨k, hk, rfl, rfl, own, hbr⟩ := hrel; by_cases hkl : k < rs.length
    · obtain ⟨b, off, rfl, hc⟩ := h.cells (by simp; omega); have c0 : wr.cell? ⟨b, off + k, none⟩ = some (R (rs.getD k 0)) := by
        have := hc k (by simpa using hkl); rw [getR rs k hkl] at this; rw [← this]; exact hbr.cell (p := ⟨b, off + k, none⟩) (cell_lt this)
      have HT := hide (any_snoc (rs.take k) (rs.getD k 0)); rw [← take_snoc rs k 0 hkl] at HT; have HT2 := hide (lowB_snoc (rs.take k) (rs.getD k 0)); rw [← take_snoc rs k 0 hkl] at HT2; have hx0 := (unhide HR (rs.getD k 0) (by simp [List.getD, hkl])).1; clear hc; generalize rs.getD k 0 = x at *; obtain ⟨y, hy⟩ : ∃ y : UInt8, y = UInt8.ofNat x.toNat := ⟨_, rfl⟩; have wq : IntKind.u8.wrap x = (y.toNat : Int) := by
        rw [hy, UInt8.toNat_ofNat']; simp [IntKind.wrap, IntKind.bits, IntKind.signed]; omega
      rw [← hy] at HT2; clear hy; generalize ((rs.take k).any fun r => decide (127 < r)) = hb at *; generalize lowB (rs.take k) = out at *; have kk : ∀ (b' : Bool) (v' : Value) (w' : World), b' = (hb || decide (127 < x)) → w'.ownsRow w.heap.size 5 1 v' (k + 1) (out.map B ++ [B y]) → Below w.heap.size w w' →
          ((∃ k' : Nat, k' ≤ rs.length ∧ Value.int .i64 ((k : Int) + 1) = .int .i64 k' ∧ Value.bool b' = .bool ((rs.take k').any fun r => decide (127 < r)) ∧ w'.ownsRow w.heap.size 5 1 v' k' ((lowB (rs.take k')).map B) ∧ Below w.heap.size w w') ∧ rs.length - ((k : Int) + 1).toNat < rs.length - k) := fun b' v' w' hb' ho hb2 =>
        ⟨⟨k + 1, by omega, by simp, by rw [unhide HT, hb'], by rw [unhide HT2, List.map_append]; exact ho, hb2⟩, by omega⟩
      have KK := hide kk; clear kk HT HT2; have RL := RdV.lit wr [B y] 5 (0, 0) (by simp); have own2 := owns_below own (Ext.alloc wr (.cells #[B y] 5 (0, 0))); have hb2 : Below w.heap.size w (wr.alloc (.cells #[B y] 5 (0, 0))) := hbr.trans (Below.mono (Ext.alloc wr _) hbr.size); have hbase2 := hb2.size; have hone : ∀ u ∈ [B y], u.oneCell' = true := by simp [Value.oneCell']
      clear own hbr
      cases hb with
      | true =>
        have K1 := hide (fun v' w' => unhide KK true v' w' rfl); clear KK; go_wp2_with (at_builtin; refine wpList_app rfl (.tmp 24) (.tmp 30) 22 5 (.int .u8 0) 1 Tryz.underlying22 infoB rfl rfl w.heap.size _ _ _ rfl own2 _ _ _ [B y] rfl rfl RL hone (by omega) hbase2 ?_)
        intro v2 w3 o2 b2; have K2 := hide (unhide K1 v2 w3 o2 (hb2.trans b2)); clear own2 RL hone K1 o2 b2 hb2; go_wp2; exact unhide K2
      | false =>
        by_cases hx : 127 < x
        · have K1 := hide (fun v' w' => unhide KK true v' w' (by simp [hx])); clear KK; go_wp2_with (at_builtin; refine wpList_app rfl (.tmp 24) (.tmp 30) 22 5 (.int .u8 0) 1 Tryz.underlying22 infoB rfl rfl w.heap.size _ _ _ rfl own2 _ _ _ [B y] rfl rfl RL hone (by omega) hbase2 ?_)
          intro v2 w3 o2 b2; have K2 := hide (unhide K1 v2 w3 o2 (hb2.trans b2)); clear own2 RL hone K1 o2 b2 hb2; go_wp2; exact unhide K2
        · have K1 := hide (fun v' w' => unhide KK false v' w' (by simp [hx])); clear KK; go_wp2_with (at_builtin; refine wpList_app rfl (.tmp 24) (.tmp 30) 22 5 (.int .u8 0) 1 Tryz.underlying22 infoB rfl rfl w.heap.size _ _ _ rfl own2 _ _ _ [B y] rfl rfl RL hone (by omega) hbase2 ?_)
          intro v2 w3 o2 b2; have K2 := hide (unhide K1 v2 w3 o2 (hb2.trans b2)); clear own2 RL hone K1 o2 b2 hb2; go_wp2; exact unhide K2
    · have e : rs.take k = rs := List.take_of_length_le (by omega); rw [e] at own ⊢; have hkr : k = rs.length := by omega
      subst hkr; clear e hkl hk; rw [any_all]
      cases hpl : (rs.all fun r => decide (r ≤ 127)) with
      | false =>
        have HL : Hid (labOf rs = (penI rs).map (xn ++ ·)) := by
          show labOf rs = _; unfold labOf; rw [if_neg (by simp [hpl])]
        have HCP : Hid (∀ r ∈ rs, -2147483648 ≤ r ∧ r ≤ 2147483647) := fun r h1 => by have := unhide HR r h1; omega
        obtain ⟨_, _, _, ⟨_, _, hlen⟩, _⟩ := (encode_len ao rs.length cap rs wr rfl (by omega) (unhide HCP) (h.below hbr)) []; have HE := hide (rpuny ao rs.length cap rs wr rfl (by omega) (unhide HCP) (h.below hbr)); clear hpl own; go_wp2_with fail
        refine (unhide HE).mono ?_; rintro e w2 ⟨rfl, hx2⟩; clear HE; have hc := cat_xn (eS rs); have hlen2 : ¬ 9223372036854775807 < 4 + (eS rs).length := by omega
        have F := hide (unhide FIN (xn ++ eS rs) (penI rs).isSome w2 (by rw [unhide HL]; simp) (fun t ht => by
          rw [unhide HL] at ht; obtain ⟨u, hu, rfl⟩ := Option.map_eq_some_iff.1 ht; unfold eS; rw [hu]; rfl) (Ext.trans hbr hx2))
        have hE : (eE rs = 0 ∧ (penI rs).isSome = true) ∨ (eE rs = 1 ∧ (penI rs).isSome = false) := by
          unfold eE
          cases (penI rs).isSome <;> simp
        clear FIN HL hlen; generalize xn ++ eS rs = Y at *; generalize eS rs = q at *; rcases hE with ⟨k1, k2⟩ | ⟨k1, k2⟩
        · rw [k1]; rw [k2] at F; clear k1 k2; go_wp2; go_ret2; exact unhide F
        · rw [k1]; rw [k2] at F; clear k1 k2; go_wp2; go_ret2; exact unhide F
      | true =>
        have hlow : ∀ r ∈ rs, 0 ≤ r ∧ r ≤ 127 := fun r h1 => ⟨(unhide HR r h1).1, by simpa using List.all_eq_true.1 hpl r h1⟩; have HL : Hid (labOf rs = if (lowB rs).take 4 = xn ∧ known ((lowB rs).drop 4) = false then none else some (lowB rs)) := by
          show labOf rs = _; unfold labOf; rw [if_pos hpl]
        have hlen := lowB_len rs; have hup : ∀ b ∈ lowB rs, ¬ (65 ≤ b.toNat ∧ b.toNat ≤ 90) := by
          intro b hb; obtain ⟨r, h1, rfl⟩ := List.mem_map.1 hb; have h2 := unhide HR r h1; have h3 := hlow r h1; rw [UInt8.toNat_ofNat']; omega
        have HUP := hide hup; obtain ⟨a2, c2, rfl, hRd, _⟩ := RdV.of_owned own; have cs := conv_str wr a2 _ c2 (lowB rs) hlen hRd; clear hpl hlow hup hRd own; generalize lowB rs = Z at *; by_cases h4 : Z.length < 4
        · have h4' : (Z.length : Int) < 4 := by omega
          have hsz := size_S Z; have hne : ¬ Z.take 4 = xn := fun e => by
            have := congrArg List.length e; simp [xn] at this; omega
          have F := hide (unhide FIN Z true wr (by rw [unhide HL]; simp [hne]) (fun u hu => by rw [unhide HL] at hu; simpa [hne] using hu) hbr); clear FIN HL hne; go_wp2; go_ret2; exact unhide F
        · have h4' : ¬ (Z.length : Int) < 4 := by omega
          have h4r : ¬ (rs.length : Int) < 4 := by omega
          have hsz := size_S Z; by_cases hpre : Z.take 4 = xn
          · have htk : ∀ v, (Instr.slice 9 (S Z) none (some (.int .i64 4)) none).run Tryz.prog v = .ok (.string ⟨#[120, 110, 45, 45]⟩) v := fun v => by
              have := run_take v Z 4 (by omega); rw [hpre] at this; exact this
            obtain ⟨t, ht⟩ : ∃ t, Z = xn ++ t := ⟨Z.drop 4, by rw [← hpre, List.take_append_drop]⟩; have hd : Z.drop 4 = t := by rw [ht]; rfl
            have HI := hide (rknown_any t wr (by rw [ht] at hlen; simp [xn] at hlen; omega) (fun b hb => unhide HUP b (by rw [ht]; exact List.mem_append_right _ hb))); rw [← ht] at HI; rw [hd] at HL; have HL2 : Hid (labOf rs = if known t = false then none else some Z) := by
              show labOf rs = _; rw [unhide HL]; simp [hpre]
            clear HL hd hpre HUP ht
            cases hkn : known t with
            | true =>
              rw [hkn] at HI HL2; have F := hide (fun w' hx => unhide FIN Z true w' (by rw [unhide HL2]; simp) (fun u hu => by rw [unhide HL2] at hu; simpa using hu) hx); clear HL2 FIN hkn; go_wp2_with fail
              refine (unhide HI).mono ?_; rintro e w2 ⟨rfl, hx2⟩; clear HI; go_wp2; go_ret2; exact unhide F w2 (Ext.trans hbr hx2)
            | false =>
              rw [hkn] at HI HL2; have F := hide (fun w' hx => unhide FIN Z false w' (by rw [unhide HL2]; simp) (fun u hu => by rw [unhide HL2] at hu; simp at hu) hx); clear HL2 FIN hkn; go_wp2_with fail
              refine (unhide HI).mono ?_; rintro e w2 ⟨rfl, hx2⟩; clear HI; go_wp2; go_ret2; exact unhide F w2 (Ext.trans hbr hx2)
          · have htk : ∀ v, (Instr.slice 9 (S Z) none (some (.int .i64 4)) none).run Tryz.prog v = .ok (S (Z.take 4)) v := fun v => run_take v Z 4 (by omega); have hne : ¬ ((⟨(Z.take 4).toArray⟩ : ByteArray) = ⟨#[120, 110, 45, 45]⟩) := fun e => hpre (by simpa [xn] using congrArg (fun z : ByteArray => z.data.toList) e); have F := hide (unhide FIN Z true wr (by rw [unhide HL]; simp [hpre]) (fun u hu => by rw [unhide HL] at hu; simpa [hpre] using hu) hbr); clear FIN HL; generalize Z.take 4 = q at *; go_wp2; go_ret2; exact unhide F
end Go.Proofs.YtenlampiiodkhaaGreatDoor
namespace Go.Proofs.YtenlampiiodkhaaGreatDoor
set_option linter.unusedVariables false
open Go.RowKit
theorem rows_snoc_dot (l : List Int) : rows (l ++ [46]) = rows l ++ [[]] := rows_app2 l []
theorem rows_snoc_ne (x : Int) (hx : x ≠ 46) : ∀ l : List Int, rows (l ++ [x]) = (rows l).dropLast ++ [(rows l).getLastD [] ++ [x]]
  | [] => by simp [rows, hx]
  | y :: l => by
    have ih := rows_snoc_ne x hx l; rw [List.cons_append, rows, rows, ih]
    cases hp : rows l with
    | nil => exact absurd hp (rows_ne l)
    | cons q t =>
      by_cases hy : y = 46
      · rw [if_pos hy, if_pos hy]; simp [List.getLastD_eq_getLast?, List.getLast?_cons_cons]
      · rw [if_neg hy, if_neg hy]
        cases t with
        | nil => simp
        | cons u t' => simp [List.getLastD_eq_getLast?, List.getLast?_cons_cons]
theorem joinD_snoc (ls : List (List UInt8)) (h : ls ≠ []) (s : List UInt8) : joinD (ls ++ [s]) = joinD ls ++ 46 :: s := joinD_app ls [s] h (by simp)
theorem bind_bad {rs : List (List Int)} {k : Nat} {s : List UInt8} {f : List (List UInt8) → Option (List UInt8)} (hk : k < rs.length) (hl : labOf (rs.getD k []) = some s) (hz : szAt rs.length k s = false) :
    ((labAll rs).bind fun ss => if szAll ss = true then f ss else none) = none := by
  cases hla : labAll rs with
  | none => rfl
  | some ss =>
    have hn := labAll_len rs ss hla; have hget : ∀ (rs : List (List Int)) (ss : List (List UInt8)) (k : Nat), labAll rs = some ss → k < rs.length → labOf (rs.getD k []) = some (ss.getD k []) := by
      intro rs
      induction rs with
      | nil => intro ss k _ hk; simp at hk
      | cons r rs ih =>
        intro ss k h hk; rw [labAll] at h; obtain ⟨s0, h0, h1⟩ := Option.bind_eq_some_iff.1 h; obtain ⟨t, h2, rfl⟩ := Option.map_eq_some_iff.1 h1
        cases k with
        | zero => simpa using h0
        | succ k => simpa using ih t k h2 (by simpa using hk)
    have e := hget rs ss k hla hk; rw [hl] at e; have e2 := Option.some.inj e; have : szAll ss = false := by
      rw [Bool.eq_false_iff]; intro hall; unfold szAll at hall; have := List.all_eq_true.1 hall k (List.mem_range.2 (by omega)); rw [← e2, hn, hz] at this
      cases this
    show (if szAll ss = true then f ss else none) = none; rw [this]; rfl
theorem RdV.slot {w : World} {ao : Option Addr} {cap g m : Nat} {l : List Int} (h : RdV w ao cap (l.map R)) {a : Option Addr} {n c : Nat} (hs : w.cell? ⟨g, m, none⟩ = some (.slice a n c)) (v : Value) : RdV (w.setCell ⟨g, m, none⟩ v) ao cap (l.map R) := by
  refine ⟨h.le, h.max, h.nil, fun i hi => ?_⟩; obtain ⟨b, off, e, hc⟩ := h.cell i hi; refine ⟨b, off, e, ?_⟩; rw [← hc]; refine World.cell?_setCell_other w _ _ _ (fun e2 => ?_)
  first
    | (rw [← e2, hs, getR l i (by simpa using hi)] at hc; unfold R at hc; simp at hc)
    | (rw [e2, hc, getR l i (by simpa using hi)] at hs; unfold R at hs; simp at hs)
end Go.Proofs.YtenlampiiodkhaaGreatDoor
