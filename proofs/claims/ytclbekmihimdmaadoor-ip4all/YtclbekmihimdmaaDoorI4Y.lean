/-
  The document's parts and Ends.
-/
import Derived.Test.YtclbekmihimdmaaDoorI4X
import Derived.Test.YtclbekmihimdmaaDoorCut
namespace Go.Proofs.YtclbekmihimdmaaDoor
set_option linter.unusedVariables false
open Go.RowKit

theorem lastP_mem (c : UInt8) (s : List UInt8) : lastP c s ∈ pcs c s := List.mem_of_getElem? (last_at c s)

set_option maxHeartbeats 2000000 in
set_option maxRecDepth 100000 in
theorem rparts_any (s : List UInt8) (w : World) (hs : s.length ≤ 1000000) : Calls Tryd.prog 23 #[S s] w fun e w' => ∃ g cap, e = .returned (.slice (some ⟨g, 0, none⟩) (pcs 46 (Lib.trimSuffix s [46])).length cap) ∧ RdV w' (some ⟨g, 0, none⟩) cap ((pcs 46 (Lib.trimSuffix s [46])).map S) ∧ Ext w w' := by
  have HC := hide (rcut_any s 46 w hs)
  have hpt := pcs_trim 46 s
  have hla := last_at 46 s
  have hn0 := List.length_pos_iff.2 (pcs_ne 46 s)
  generalize pcs 46 (Lib.trimSuffix s [46]) = qs at *
  generalize lastP 46 s = L at *
  generalize pcs 46 s = ps at *
  go_enter Tryd.func23, Tryd.ntmps23
  go_wp2_with fail
  refine (unhide HC).mono ?_
  rintro e w1 ⟨v, rfl, own, hx⟩
  clear HC
  rcases own.2 with ⟨_, h0⟩ | ⟨g, cap, cur, rfl, _, _, hnc, hcm, _⟩
  · omega
  · have hr := RdV.of_owned_at own
    have c1 : w1.cell? ⟨g, ps.length - 1, none⟩ = some (S L) := by
      rw [own.cellAt (ps.length - 1) (by omega), List.getElem?_map, hla]
      rfl
    have hmx : cap ≤ 9223372036854775807 := by unfold maxLen at hcm; omega
    have ci : ((ps.length : Int) - 1).toNat = ps.length - 1 := by omega
    by_cases h1 : 1 < ps.length
    · have h1' : 1 < (ps.length : Int) := by omega
      by_cases hL : L = []
      · rw [if_pos ⟨h1, hL⟩] at hpt
        have hie : L.isEmpty = true := by rw [hL]; rfl
        have FF : Hid (∃ g' cap', Ending.returned (.slice (some ⟨g, 0, none⟩) (ps.length - 1) cap) = .returned (.slice (some ⟨g', 0, none⟩) qs.length cap') ∧ RdV w1 (some ⟨g', 0, none⟩) cap' (qs.map S) ∧ Ext w w1) := by
          refine ⟨g, cap, ?_, ?_, hx⟩
          · rw [hpt, List.length_dropLast]
          · rw [hpt, List.dropLast_eq_take, List.map_take]
            exact hr.take _
        clear hL hpt hla own hr hx
        go_wp2
        go_ret
        exact unhide FF
      · rw [if_neg (fun h => hL h.2)] at hpt
        have hie : L.isEmpty = false := by simpa using hL
        have hne : ¬ ((⟨L.toArray⟩ : ByteArray) = ⟨#[]⟩) := fun e => hL (by
          have := congrArg (fun b : ByteArray => b.data.toList) e
          simpa using this)
        have FF : Hid (∃ g' cap', Ending.returned (.slice (some ⟨g, 0, none⟩) ps.length cap) = .returned (.slice (some ⟨g', 0, none⟩) qs.length cap') ∧ RdV w1 (some ⟨g', 0, none⟩) cap' (qs.map S) ∧ Ext w w1) := by
          rw [hpt]
          exact ⟨g, cap, rfl, hr, hx⟩
        clear hL hpt hla own hr hx
        go_wp2
        go_ret
        exact unhide FF
    · have h1' : ¬ 1 < (ps.length : Int) := by omega
      rw [if_neg (fun h => h1 h.1)] at hpt
      have FF : Hid (∃ g' cap', Ending.returned (.slice (some ⟨g, 0, none⟩) ps.length cap) = .returned (.slice (some ⟨g', 0, none⟩) qs.length cap') ∧ RdV w1 (some ⟨g', 0, none⟩) cap' (qs.map S) ∧ Ext w w1) := by
        rw [hpt]
        exact ⟨g, cap, rfl, hr, hx⟩
      clear hpt hla own hr hx
      go_wp2
      go_ret
      exact unhide FF

/-- Digits 0 to 9. -/
def isDec (b : UInt8) : Bool := decide (48 ≤ b.toNat) && decide (b.toNat ≤ 57)
theorem isDec_iff : ∀ b : Fin 256, isDec (UInt8.ofNat b.val) = decide (dgV (UInt8.ofNat b.val) < 10) := by decide +kernel
theorem isDec_eq (b : UInt8) : isDec b = decide (dgV b < 10) := by
  have := isDec_iff ⟨b.toNat, b.toNat_lt⟩
  simpa using this
def hasX (x : List UInt8) : Bool := decide (2 ≤ x.length) && (x.getD 1 0 == 120 || x.getD 1 0 == 88)
theorem okD_dec (x : List UInt8) : x.all isDec = okD 10 x := by
  unfold okD
  congr 1
  funext b
  exact isDec_eq b
theorem dec_x : isDec 120 = false ∧ isDec 88 = false := by decide
theorem all_at {x : List UInt8} (h : x.all isDec = true) (i : Nat) (hi : i < x.length) : isDec (x.getD i 0) = true := List.all_eq_true.1 h _ (getD_mem x i hi)
theorem hasX_not {x : List UInt8} (h : hasX x = true) : x.all isDec = false := by
  rw [Bool.eq_false_iff]
  intro ha
  unfold hasX at h
  simp only [Bool.and_eq_true, decide_eq_true_eq, Bool.or_eq_true, beq_iff_eq] at h
  have := all_at ha 1 (by omega)
  rcases h.2 with e | e <;> rw [e] at this
  · rw [dec_x.1] at this
    cases this
  · rw [dec_x.2] at this
    cases this
theorem rends_eq (x : List UInt8) : endB x = ((!x.isEmpty && x.all isDec) || ((rnum x).isSome && hasX x)) := by
  cases hm : mrk x with
  | true =>
    have hX : hasX x = true := by
      unfold mrk at hm
      unfold hasX
      simp only [Bool.and_eq_true] at hm ⊢
      exact ⟨hm.1.1, hm.2⟩
    have hne : x ≠ [] := by
      rintro rfl
      cases hm
    rw [hasX_not hX, hX]
    unfold endB rnum
    have eD : digs x = x.drop 2 := by unfold digs; rw [hm]; rfl
    have eB : bas x = 16 := by unfold bas; rw [hm]; rfl
    rw [hm, eD, eB]
    cases okD 16 (x.drop 2) <;> simp [hne]
  | false =>
    unfold endB
    rw [hm, okD_dec]
    simp only [Bool.false_eq_true, if_false]
    cases hX : hasX x with
    | false => simp
    | true =>
      have h0 := hasX_not hX
      have ho : oct x = false := by
        unfold mrk at hm
        unfold hasX at hX
        unfold oct
        simp only [Bool.and_eq_true] at hX
        rw [hX.1, hX.2] at hm
        simp only [Bool.true_and, Bool.and_true] at hm
        rw [hm, Bool.and_false]
      have eD : digs x = x := by unfold digs; rw [hm, ho]; rfl
      have eB : bas x = 10 := by unfold bas; rw [hm, ho]; rfl
      have hr : rnum x = none := by
        unfold rnum
        rw [eD, eB, if_neg]
        rintro ⟨_, h2⟩
        rw [← okD_dec, h0] at h2
        cases h2
      rw [okD_dec] at h0
      rw [hr, h0]
      simp

set_option maxHeartbeats 2000000 in
set_option maxRecDepth 100000 in
theorem rends_any (s : List UInt8) (w : World) (hs : s.length ≤ 100000) : Calls Tryd.prog 12 #[S s] w fun e w' => e = .returned (.bool (ends s)) ∧ Ext w w' := by
  have HC := hide (rparts_any s w (by omega))
  have htl := trim_len 46 s
  unfold ends
  generalize Lib.trimSuffix s [46] = t at *
  have hla := last_at 46 t
  have hll := pcs_len 46 t _ (lastP_mem 46 t)
  have hn0 := List.length_pos_iff.2 (pcs_ne 46 t)
  rw [rends_eq]
  generalize lastP 46 t = x at *
  generalize pcs 46 t = ps at *
  have fin : ∀ b : Bool, b = ((!x.isEmpty && x.all isDec) || ((rnum x).isSome && hasX x)) → Ending.returned (.bool b) = .returned (.bool ((!x.isEmpty && x.all isDec) || ((rnum x).isSome && hasX x))) := fun b h => by rw [h]
  have FIN := hide fin
  clear fin
  have HN := hide (fun v => rnumber_any x v (by omega))
  have hsz := size_S x
  have HIX := hide (fun (v : World) (k : Nat) (hk : k < x.length) => idx_str v x .i64 k hk)
  generalize hR : ((!x.isEmpty && x.all isDec) || ((rnum x).isSome && hasX x)) = RR at *
  have HR := hide hR
  clear hR
  go_enter Tryd.func12, Tryd.ntmps12
  go_wp2_with fail
  refine (unhide HC).mono ?_
  rintro e w1 ⟨g, cap, rfl, hr, hx⟩
  clear HC
  have hle := hr.le
  have hmx := hr.max
  simp only [List.length_map] at hle
  have c1 : w1.cell? ⟨g, ps.length - 1, none⟩ = some (S x) := by
    obtain ⟨b', off', eb, hc⟩ := hr.cell (ps.length - 1) (by simp; omega)
    simp only [Option.some.injEq, Addr.mk.injEq] at eb
    obtain ⟨rfl, rfl, _⟩ := eb
    rw [Nat.zero_add] at hc
    rw [hc, List.getElem?_map, hla]
    rfl
  have ci : ((ps.length : Int) - 1).toNat = ps.length - 1 := by omega
  clear hr hla
  go_wp2_with fail
  go_loopw [5, 6] (fun b i wr => ∃ (k : Nat) (ok : Bool), k ≤ x.length ∧ i = .int .i64 k ∧ b = .bool ok ∧ Hid (ok = (!x.isEmpty && (x.take k).all isDec)) ∧ wr = w1) (fun _ i _ => x.length - (intOf i).toNat)
  case atStart => exact ⟨0, _, by omega, rfl, rfl, hide (by cases x <;> simp), rfl⟩
  case round =>
    obtain ⟨k, ok, hk, rfl, rfl, HOK, hw⟩ := hrel
    subst hw
    clear c1 ci
    by_cases hkl : k < x.length
    · have hkl' : (k : Int) < (x.length : Int) := by omega
      have hx0 := unhide HIX wr k hkl
      have HT := hide (take_snoc x k 0 hkl)
      have HNX : Hid (∀ q : Bool, q = (ok && isDec (x.getD k 0)) → q = (!x.isEmpty && (x.take (k + 1)).all isDec)) := fun q hq => by
        rw [hq, unhide HOK, unhide HT, List.all_append]
        simp [Bool.and_assoc]
      have hy := (x.getD k 0).toNat_lt
      generalize x.getD k 0 = y at *
      have KK : Hid (∀ q : Bool, q = (ok && isDec y) → ((∃ (k' : Nat) (ok' : Bool), k' ≤ x.length ∧ Value.int .i64 ((k : Int) + 1) = .int .i64 k' ∧ Value.bool q = .bool ok' ∧ Hid (ok' = (!x.isEmpty && (x.take k').all isDec)) ∧ True) ∧ x.length - ((k : Int) + 1).toNat < x.length - k)) := fun q hq =>
        ⟨⟨k + 1, q, by omega, by simp, rfl, unhide HNX q hq, trivial⟩, by omega⟩
      clear HNX HT HOK HIX HN HR FIN
      cases ok with
      | false =>
        have kk := hide (unhide KK false rfl)
        clear KK
        go_wp2
        exact unhide kk
      | true =>
        by_cases h48 : 48 ≤ y.toNat
        · have h48' : (48 : Int) ≤ (y.toNat : Int) := by omega
          by_cases h57 : y.toNat ≤ 57
          · have h57' : (y.toNat : Int) ≤ 57 := by omega
            have kk := hide (unhide KK true (by unfold isDec; simp [h48, h57]))
            clear KK
            go_wp2
            exact unhide kk
          · have h57' : ¬ (y.toNat : Int) ≤ 57 := by omega
            have kk := hide (unhide KK false (by unfold isDec; simp [h57]))
            clear KK
            go_wp2
            exact unhide kk
        · have h48' : ¬ (48 : Int) ≤ (y.toNat : Int) := by omega
          have kk := hide (unhide KK false (by unfold isDec; simp [h48]))
          clear KK
          go_wp2
          exact unhide kk
    · have hkl' : ¬ (k : Int) < (x.length : Int) := by omega
      have e : x.take k = x := List.take_of_length_le (by omega)
      rw [e] at HOK
      cases ok with
      | true =>
        have HF := hide (unhide FIN true (by rw [← unhide HR, ← unhide HOK]; rfl))
        clear HOK HR FIN HN HIX e
        go_wp2
        go_ret
        exact ⟨unhide HF, hx⟩
      | false =>
        have HF : Hid (∀ b, b = ((rnum x).isSome && hasX x) → Ending.returned (.bool b) = .returned (.bool RR)) := fun b hb => unhide FIN b (by rw [← unhide HR, ← unhide HOK, hb]; rfl)
        clear HOK HR FIN e
        have e1 := byte_eq (x.getD 1 0) 120
        have e2 := byte_eq (x.getD 1 0) 88
        simp only [show (((120 : UInt8).toNat : Nat) : Int) = 120 from rfl, show (((88 : UInt8).toNat : Nat) : Int) = 88 from rfl] at e1 e2
        have HN1 := hide (unhide HN wr)
        clear HN
        cases hs : (rnum x).isSome with
        | false =>
          rw [hs] at HF HN1
          have HF2 := hide (unhide HF false rfl)
          clear HF HIX hs e1 e2
          generalize numV (rnum x) = nv at *
          go_wp2_with fail
          refine (unhide HN1).mono ?_
          rintro e w2 ⟨rfl, hw⟩
          subst hw
          clear HN1
          go_wp2
          go_ret
          exact ⟨unhide HF2, hx⟩
        | true =>
          rw [hs] at HF HN1
          generalize numV (rnum x) = nv at *
          by_cases hl : 2 ≤ x.length
          · have hl' : (2 : Int) ≤ (x.length : Int) := by omega
            have i1 : (Instr.index 9 (S x) (.int .i64 1)).run Tryd.prog wr = .ok (B (x.getD 1 0)) wr := unhide HIX wr 1 (by omega)
            have HF3 : Hid (∀ b, b = (x.getD 1 0 == 120 || x.getD 1 0 == 88) → Ending.returned (.bool b) = .returned (.bool RR)) := fun b hb => unhide HF b (by unfold hasX; rw [show decide (2 ≤ x.length) = true from decide_eq_true hl, hb]; rfl)
            clear HF HIX hs
            generalize x.getD 1 0 = y at *
            cases c1 : (y == 120) with
            | true =>
              rw [c1] at e1 HF3
              have HF4 := hide (unhide HF3 true rfl)
              clear HF3 c1
              go_wp2_with fail
              refine (unhide HN1).mono ?_
              rintro e w2 ⟨rfl, hw⟩
              subst hw
              clear HN1
              go_wp2
              go_ret
              exact ⟨unhide HF4, hx⟩
            | false =>
              rw [c1] at e1 HF3
              cases c2 : (y == 88) with
              | true =>
                rw [c2] at e2 HF3
                have HF4 := hide (unhide HF3 true rfl)
                clear HF3 c1 c2
                go_wp2_with fail
                refine (unhide HN1).mono ?_
                rintro e w2 ⟨rfl, hw⟩
                subst hw
                clear HN1
                go_wp2
                go_ret
                exact ⟨unhide HF4, hx⟩
              | false =>
                rw [c2] at e2 HF3
                have HF4 := hide (unhide HF3 false rfl)
                clear HF3 c1 c2
                go_wp2_with fail
                refine (unhide HN1).mono ?_
                rintro e w2 ⟨rfl, hw⟩
                subst hw
                clear HN1
                go_wp2
                go_ret
                exact ⟨unhide HF4, hx⟩
          · have hl' : ¬ (2 : Int) ≤ (x.length : Int) := by omega
            have HF4 := hide (unhide HF false (by unfold hasX; rw [show decide (2 ≤ x.length) = false from decide_eq_false hl]; rfl))
            clear HF HIX hs e1 e2
            go_wp2_with fail
            refine (unhide HN1).mono ?_
            rintro e w2 ⟨rfl, hw⟩
            subst hw
            clear HN1
            go_wp2
            go_ret
            exact ⟨unhide HF4, hx⟩
end Go.Proofs.YtclbekmihimdmaaDoor
