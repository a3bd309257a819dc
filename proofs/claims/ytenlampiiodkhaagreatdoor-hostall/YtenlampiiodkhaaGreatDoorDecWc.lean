/-
  DecW.
-/
import Derived.Test.YtenlampiiodkhaaGreatDoorBIc
import Derived.Test.YtenlampiiodkhaaGreatDoorDecBc
import Derived.Laws.RangeString
import Derived.Laws.IdiomStrings
namespace Go.Proofs.YtenlampiiodkhaaGreatDoor
set_option linter.unusedVariables false
open Go.RowKit Go.Proofs
abbrev rl (l : List Nat) : List Value := l.map fun (x : Nat) => R (x : Int)
theorem one_rl (l : List Nat) : ∀ v ∈ rl l, v.oneCell' = true := by
  intro v hv; obtain ⟨x, _, rfl⟩ := List.mem_map.1 hv; rfl
theorem rl_ins (l : List Nat) (p x : Nat) : (rl l).take p ++ R (x : Int) :: (rl l).drop p = rl (ins l p x) := by
  unfold ins rl; simp [List.map_take, List.map_drop]
theorem runes_ascii (bs : List UInt8) (ha : ∀ b ∈ bs, b.toNat ≤ 127) : ∀ (f i : Nat) (acc : Array Value), i ≤ bs.length → bs.length - i ≤ f → Conv.runesFrom ⟨bs.toArray⟩ f i acc = acc ++ (rl ((bs.drop i).map UInt8.toNat)).toArray := by
  intro f
  induction f with
  | zero =>
    intro i acc hi hf; have e : bs.drop i = [] := List.drop_eq_nil_of_le (by omega); rw [e]; simp [Conv.runesFrom]
  | succ f ih =>
    intro i acc hi hf; unfold Conv.runesFrom; by_cases h : i < bs.length
    · have hs : i < (⟨bs.toArray⟩ : ByteArray).size := by rw [size_S]; exact h
      have hat := at_S bs i hs; have hm : bs.getD i 0 ∈ bs := by simp [List.getD, h]
      have hd := decode_ascii ⟨bs.toArray⟩ i hs (by rw [hat]; have := ha _ hm; omega); rw [if_pos hs, hd, hat]; simp only; rw [ih _ _ (by omega) (by omega), List.drop_eq_getElem_cons h]; generalize bs.drop (i + 1) = tl; simp [rl, List.getD, h]
    · have e : bs.drop i = [] := List.drop_eq_nil_of_le (by omega); rw [if_neg (by rw [size_S]; exact h), e]; simp
theorem conv_runes (bs : List UInt8) (w : World) (ha : ∀ b ∈ bs, b.toNat ≤ 127) (hl : bs.length ≤ 1000) : ∃ c W, (convert 9 45 (S bs)).run Tryz.prog w = .ok (.slice (some ⟨w.heap.size, 0, none⟩) bs.length c) W ∧ W.ownsRow w.heap.size 21 1 (.slice (some ⟨w.heap.size, 0, none⟩) bs.length c) bs.length (rl (bs.map UInt8.toNat)) ∧ Ext w W := by
  have hr := run_runes_of_string (P := Tryz.prog) w 9 45 21 ⟨bs.toArray⟩ Tryz.underlying9 Tryz.underlying45 Tryz.underlying21; rw [size_S, runes_ascii bs ha bs.length 0 #[] (by omega) (by omega)] at hr; simp only [List.drop_zero, Array.empty_append] at hr; have hsz : (rl (bs.map UInt8.toNat)).toArray.size = bs.length := by simp [rl]
  rw [hsz] at hr; have hr := hr (by omega); have hle := grownCap_ge w bs.length 0 21; have hmx := grownCap_le_maxLen w bs.length 0 21 (by unfold maxLen; omega); generalize grownCap w bs.length 0 21 = c at *; refine ⟨c, _, hr, ⟨by simp [rl], .inr ⟨w.heap.size, c, (rl (bs.map UInt8.toNat)).toArray ++ Array.replicate (c - bs.length) (.int .i32 0), rfl, Nat.le_refl _, ?_, hle, hmx, by simp [rl]; omega, ?_⟩⟩, (Ext.drew w).trans (Ext.alloc w.drew _)⟩
  · show (w.heap.push _)[w.heap.size]? = _; rw [Array.getElem?_push, if_pos rfl]
  · rw [Array.toList_append, Nat.mul_one]; simp [rl]
theorem cp_sat {n i V L : Nat} (hL : 1 ≤ L) (hL2 : L ≤ 63) : cp (n + (i + min V 70189056) / L) = cp (n + (i + V) / L) ∧ (cp (n + (i + V) / L) = true → min V 70189056 = V) := by
  by_cases hV : V ≤ 70189056
  · rw [Nat.min_eq_left hV]; exact ⟨rfl, fun _ => rfl⟩
  · rw [Nat.min_eq_right (by omega)]; have key : ∀ T, 70189056 ≤ T → cp (n + (i + T) / L) = false := by
      intro T hT; have h1 : (70189056 : Nat) / 63 ≤ (i + T) / L := Nat.le_trans (Nat.div_le_div_left hL2 (by omega)) (Nat.div_le_div_right (by omega)); have h2 : (1114112 : Nat) = 70189056 / 63 := by decide
      unfold cp; simp; omega
    rw [key _ (Nat.le_refl _), key V (by omega)]; exact ⟨rfl, fun h => by simp at h⟩
theorem own_neR {w : World} {base bw : Nat} {v : Value} {n : Nat} {xs : List Value} (h : w.ownsRow base 21 1 v n xs) (hs : SB w bw) : v.ownBlock ≠ some bw := by
  intro e; obtain ⟨X, t, fz, hb, hne⟩ := hs; rcases h.2 with ⟨rfl, _⟩ | ⟨g, c, cur, rfl, _, h3, _⟩
  · simp [Value.ownBlock] at e
  · simp only [Value.ownBlock, Option.some.injEq] at e; rw [e, hb] at h3; simp at h3; exact hne.2 h3.2.1
def RelD (w : World) (X : Option (List Nat)) (bw : Nat) (vs vo : Value) (wr : World) : Prop :=
  ∃ (f n i bias : Nat) (l : List Nat) (t : List UInt8), vs = S t ∧ t.length ≤ 200 ∧ t.length ≤ f ∧ l.length ≤ 63 ∧ n ≤ 1114111 ∧ i ≤ 63 ∧ bias ≤ 2400 ∧ rdB f n i bias l t = X ∧
    WSt wr bw n i l.length bias (i != 0) ∧ wr.ownsRow w.heap.size 21 1 vo l.length (rl l) ∧ Below w.heap.size w wr
theorem fails {s : List UInt8} (h : pdec s = none) {w w' : World} (hx : Ext w w') : TellsD w s (.returned (.tuple #[.slice none 0 0, .int .i64 2])) w' := by
  have e1 : dL s = [] := by unfold dL; rw [h]; rfl
  have e2 : dE s = 2 := by unfold dE; rw [h]; rfl
  exact ⟨none, 0, by rw [e1, e2]; rfl, by rw [e1]; exact RdV.nothing _, hx⟩
set_option maxHeartbeats 4000000 in
set_option maxRecDepth 100000 in
theorem decode_any : DecOf 133 := by
  intro s w hs; have hsl : (⟨s.toArray⟩ : ByteArray).size = s.length := size_S s; have HFL : Hid (∀ w', pdec s = none → Ext w w' → TellsD w s (.returned (.tuple #[.slice none 0 0, .int .i64 2])) w') := fun w' h hx => fails h hx; go_enter Tryz.func133, Tryz.ntmps133; by_cases h200 : s.length ≤ 200
  · have h200' : ¬ (200 : Int) < (s.length : Int) := by omega
    have hpd := pdec_rdB s h200; have PA := hide (parts_any s w hs); have hpl : (prt s).1.length ≤ 200 ∧ (prt s).2.length ≤ 200 := by
      unfold prt
      cases cutAt s with
      | none => exact ⟨by simp, h200⟩
      | some k =>
        cases k with
        | zero => exact ⟨by simp, h200⟩
        | succ k => exact ⟨by simp; omega, by simp; omega⟩
    have HPD := hide hpd; clear hpd; generalize (prt s).1 = p at *; generalize (prt s).2 = t0 at *; have hpsz : (⟨p.toArray⟩ : ByteArray).size = p.length := size_S p; have htsz : (⟨t0.toArray⟩ : ByteArray).size = t0.length := size_S t0; go_wp2_with fail
    refine (unhide PA).mono ?_; rintro e w1 ⟨rfl, q1, rfl⟩; clear PA; have hex1 := Ext.drewN w q1; generalize w.drewN q1 = w1 at *; by_cases h63 : p.length ≤ 63
    · have h63' : ¬ (63 : Int) < (p.length : Int) := by omega
      have IP := hide (isPlain_any p w1 (by omega)); by_cases hpa : ∀ b ∈ p, b.toNat ≤ 127
      · rw [decide_eq_true hpa] at IP; have hpd := unhide HPD; rw [if_pos ⟨h63, hpa⟩] at hpd; have HPD2 := hide hpd; clear hpd HPD; obtain ⟨cR, wR, hcv, hownR, hexR⟩ := conv_runes p w1 hpa (by omega); have NW := hide (newWalk_any p.length wR); clear hpa; go_wp2_with fail
        refine (unhide IP).mono ?_; rintro e w2 ⟨rfl, hw⟩; have hw' := hw.symm; subst hw'; clear IP hw; go_wp2_with fail
        refine (unhide NW).mono ?_; rintro e w3 ⟨rfl, hex3⟩; clear NW hcv; have hwst : WSt (w3.alloc (.cells #[.int .i64 128, .int .i64 0, .int .i64 (p.length : Int), .int .i64 72, .bool false] 172)) w3.heap.size 128 0 p.length 72 false :=
          ⟨by simp, by simp, by simp, by simp, by simp, by simp, by simp, by simp, by simp, by simp, ⟨_, _, _, (show (w3.heap.push _)[w3.heap.size]? = some _ by rw [Array.getElem?_push, if_pos rfl]), by decide⟩⟩
        have hexA := hex3.trans (Ext.alloc w3 (.cells #[.int .i64 128, .int .i64 0, .int .i64 (p.length : Int), .int .i64 72, .bool false] 172)); have START : Hid (RelD w (pdec s) w3.heap.size (S t0) (.slice (some ⟨w1.heap.size, 0, none⟩) p.length cR) (w3.alloc (.cells #[.int .i64 128, .int .i64 0, .int .i64 (p.length : Int), .int .i64 72, .bool false] 172))) := by
          refine ⟨t0.length, 128, 0, 72, p.map UInt8.toNat, t0, rfl, hpl.2, Nat.le_refl _, by simpa using h63, by omega, by omega, by omega, (unhide HPD2).symm, by rw [List.length_map]; exact hwst, ?_, (hex1.trans hexR).trans hexA⟩; rw [List.length_map]; exact owns_below (owns_mono hownR hex1.size) hexA
        have hsz3 : w.heap.size ≤ w3.heap.size := ((hex1.trans hexR).trans hex3).size; clear hwst hexA hexR hex3 hownR HPD2 hex1; generalize hX : pdec s = X at *; have HX := hide hX; clear hX; go_wp2_with fail
        go_loopw [5, 6] (fun vs vo wr => RelD w X w3.heap.size vs vo wr) (fun vs _ _ => strLen vs)
        case atStart => exact unhide START
        case round =>
          clear START; obtain ⟨f, n, i, bias, l, t, rfl, ht2, htf, hl63, hnm, hi63, hbi, hrd, hws, own, hbr⟩ := hrel; have htz : (⟨t.toArray⟩ : ByteArray).size = t.length := size_S t; obtain ⟨aO, cO, rfl, hRd, _⟩ := RdV.of_owned own; by_cases ht0 : 0 < t.length
          · cases f with
            | zero => omega
            | succ f =>
              have hrd2 : rdB (f + 1) n i bias l t = match cutN bias t 36 with
                  | none => none
                  | some (v, r) => if cp (n + (i + v) / (l.length + 1)) = true ∧ l.length < 63 then rdB f (n + (i + v) / (l.length + 1)) ((i + v) % (l.length + 1) + 1) (adp v (l.length + 1) (i == 0)) (ins l ((i + v) % (l.length + 1)) (n + (i + v) / (l.length + 1))) r else none := by
                cases t with
                | nil => simp at ht0
                | cons b t =>
                  rw [rdB]
                  cases cutN bias (b :: t) 36 with
                  | none => rfl
                  | some p => rfl
              rw [hrd] at hrd2; have HRD := hide hrd2; have hcr := (cut_rel bias t 36).2; have HCR := hide hcr; have CN := hide (cutNumber_any t bias wr ht2 (by omega)); have cb := hws.c3; have HWS := hide hws; have OWN := hide own; clear hrd hrd2 hcr hws own hRd; have ht0' : (0 : Int) < (t.length : Int) := by omega
              go_wp2_with fail
              refine (unhide CN).mono ?_; rintro e w5 (⟨hc, rfl, hw⟩ | ⟨V, r, q, hc, rfl, hw⟩)
              · have hw' := hw.symm; subst hw'; have hXn : X = none := (unhide HRD).trans (by rw [hc]); have FF := hide (unhide HFL wr hXn hbr); clear CN hw hc HRD HCR HWS OWN hXn; go_wp2; go_ret2; exact unhide FF
              · have hrl := ((unhide HCR) V r hc).1; have hXs := unhide HRD; rw [hc] at hXs; simp only at hXs; have HXS := hide hXs; clear hXs HRD HCR hc CN; subst hw; have HWS2 := hide ((unhide HWS).drewN q); have OWN2 := hide (owns_below (unhide OWN) (Ext.drewN wr q)); have hbr2 := Ext.then hbr (Ext.drewN wr q) hbr.size; clear HWS OWN cb; generalize wr.drewN q = wq at *; by_cases hfull : l.length = 63
                · have hXn : X = none := (unhide HXS).trans (if_neg (by omega)); have FF := hide (unhide HFL wq hXn hbr2); clear HXS HWS2 OWN2 hXn hbr; have hf' : (l.length : Int) = 63 := by omega
                  go_wp2; go_ret2; exact unhide FF
                · have hf' : ¬ ((l.length : Int) = 63) := by omega
                  have hf2 : ((l.length : Int) == 63) = false := beq_eq_false_iff_ne.2 hf'; obtain ⟨cs1, cs2⟩ := cp_sat (n := n) (i := i) (V := V) (L := l.length + 1) (by omega) (by omega); have hdl : min V 70189056 ≤ 70189056 := Nat.min_le_right _ _; have MV := hide (move_any wq w3.heap.size n i l.length bias (i != 0) (min V 70189056) (unhide HWS2) (by omega) (by omega) (by omega) (by omega)); have IC := hide (fun w => isCode_any ((n + (i + min V 70189056) / (l.length + 1) : Nat) : Int) w); have hisc : isc ((n + (i + min V 70189056) / (l.length + 1) : Nat) : Int) = cp (n + (i + V) / (l.length + 1)) := by
                    unfold isc; rw [Int.toNat_natCast, cs1, decide_eq_true (Int.natCast_nonneg _), Bool.true_and]
                  rw [hisc] at IC; have HNE := hide (own_neR (unhide OWN2) (unhide HWS2).sb); clear hisc HWS2 cs1; by_cases hcp : cp (n + (i + V) / (l.length + 1)) = true
                  · have hmin := cs2 hcp; rw [hmin] at MV IC hdl ⊢; rw [hcp] at IC; have hXc := unhide HXS; rw [if_pos ⟨hcp, by omega⟩] at hXc; have hcl := cp_le hcp; have hpm : (i + V) % (l.length + 1) < l.length + 1 := Nat.mod_lt _ (by omega); rw [show (!(i != 0)) = (i == 0) by cases i <;> rfl] at MV; have hab := adp_le V (l.length + 1) (i == 0); have HXC := hide hXc; clear hXc HXS cs2 hmin hcp; generalize n + (i + V) / (l.length + 1) = code at *; generalize (i + V) % (l.length + 1) = pl at *; generalize adp V (l.length + 1) (i == 0) = nb at *; go_wp2_with fail
                    refine (unhide MV).mono ?_; rintro e w6 ⟨rfl, ws6, o6⟩; have own6 := owns_oth (unhide OWN2) o6 (unhide HNE); have hbr6 : Below w.heap.size w w6 := o6.below hbr2 hsz3; have hlit := (Ext.alloc w6 (.cells #[R (code : Int)] 21 (0, 0))); have own7 := owns_below own6 hlit; have HWS7 := hide (ws6.kp (Kp.of_ext hlit)); have hbr7 : Below w.heap.size w (w6.alloc (.cells #[R (code : Int)] 21 (0, 0))) := hbr6.trans (Below.mono hlit hbr6.size); have hvb : (w6.alloc (.cells #[R (code : Int)] 21 (0, 0))).heap[w6.heap.size]? = some (.cells #[R (code : Int)] 21 (0, 0)) := (show (w6.heap.push _)[w6.heap.size]? = some _ by rw [Array.getElem?_push, if_pos rfl]); have hnv : (Value.slice aO l.length cO).ownBlock ≠ some w6.heap.size := fun e => by
                      have := (own6.lt _ e).2; omega
                    have INS := hide (insert_any w.heap.size aO l.length cO pl w6.heap.size (rl l) (R (code : Int)) _ own7 hbr7.size (by omega) (by omega) (one_rl l) rfl hvb hnv); rw [rl_ins] at INS; have IC6 := hide (unhide IC w6); have wcode : IntKind.i32.wrap (code : Int) = (code : Int) := by simp [IntKind.wrap, IntKind.bits, IntKind.signed]; omega
                    clear MV IC own6 ws6 o6 own7 hvb hnv hlit hbr6 OWN2 HNE hbr2; go_wp2_with fail
                    refine (unhide IC6).mono ?_; rintro e w7 ⟨rfl, hw⟩; have hw' := hw.symm; subst hw'; clear IC6 hw; go_wp2_with fail
                    refine (unhide INS).mono ?_; rintro e w8 ⟨v8, rfl, own8, b8, k8⟩; have REL : Hid (RelD w X w3.heap.size (S r) v8 w8) := by
                      refine ⟨f, code, pl + 1, nb, ins l pl code, r, rfl, by omega, by omega, by rw [ins_len]; omega, hcl, by omega, by omega, (unhide HXC).symm, ?_, ?_, Below.trans hbr7 b8⟩
                      · rw [ins_len]; exact (unhide HWS7).kp k8
                      · have : (rl (ins l pl code)).length = (ins l pl code).length := by simp [rl]
                        rw [← this]; exact own8
                    clear INS HWS7 hbr7 own8 b8 k8 HXC; go_wp2; exact ⟨unhide REL, (show strLen (S r) < strLen (S t) by simp only [strLen, size_S]; exact hrl)⟩
                  · have hcp' : cp (n + (i + V) / (l.length + 1)) = false := by simpa using hcp
                    rw [hcp'] at IC; have hXn : X = none := (unhide HXS).trans (if_neg (fun h => hcp h.1)); have hbrq := hbr2; clear HXS cs2 hcp hcp'; generalize n + (i + min V 70189056) / (l.length + 1) = code at *; generalize (i + min V 70189056) % (l.length + 1) = pl at *; go_wp2_with fail
                    refine (unhide MV).mono ?_; rintro e w6 ⟨rfl, ws6, o6⟩; have FF := hide (unhide HFL w6 hXn (o6.below hbrq hsz3)); have IC6 := hide (unhide IC w6); clear MV IC ws6 o6 OWN2 HNE hbr2 hbrq hXn; go_wp2_with fail
                    refine (unhide IC6).mono ?_; rintro e w7 ⟨rfl, hw⟩; have hw' := hw.symm; subst hw'; clear IC6 hw; go_wp2; go_ret2; exact unhide FF
          · have ht : t = [] := List.eq_nil_of_length_eq_zero (by omega); subst ht; have hXl : X = some l := by rw [← hrd]; cases f <;> rfl
            have fin : TellsD w s (.returned (.tuple #[.slice aO l.length cO, .int .i64 0])) wr := by
              have e1 : dL s = ints l := by unfold dL; rw [unhide HX, hXl]; rfl
              have e2 : dE s = 0 := by unfold dE; rw [unhide HX, hXl]; rfl
              refine ⟨aO, cO, by rw [e1, e2]; simp [ints], ?_, hbr⟩; rw [e1]; have : (ints l).map R = rl l := by unfold ints rl; rw [List.map_map]; rfl
              rw [this]; exact hRd
            have FIN := hide fin; clear fin hXl hrd hws own hRd; go_wp2; go_ret2; exact unhide FIN
      · rw [decide_eq_false hpa] at IP; have hpd := unhide HPD; rw [if_neg (fun h => hpa h.2)] at hpd; have FF := hide (unhide HFL w1 hpd hex1); clear hpd HPD hpa; go_wp2_with fail
        refine (unhide IP).mono ?_; rintro e w2 ⟨rfl, hw⟩; have hw' := hw.symm; subst hw'; clear IP hw; go_wp2; go_ret2; exact unhide FF
    · have h63' : (63 : Int) < (p.length : Int) := by omega
      have hpd := unhide HPD; rw [if_neg (fun h => h63 h.1)] at hpd; have FF := hide (unhide HFL w1 hpd hex1); clear hpd HPD; go_wp2; go_ret2; exact unhide FF
  · have h200' : (200 : Int) < (s.length : Int) := by omega
    have hpd : pdec s = none := by unfold pdec; rw [if_neg (fun h => h200 h.1)]
    have FF := hide (unhide HFL w hpd (Ext.refl w)); clear hpd; go_wp2; go_ret2; exact unhide FF
end Go.Proofs.YtenlampiiodkhaaGreatDoor
