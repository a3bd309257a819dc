/-
  The document's own Hex and number.
-/
import Derived.Test.YtclbekmihimdmaaDoorI4B
namespace Go.Proofs.YtclbekmihimdmaaDoor
set_option linter.unusedVariables false
open Go.RowKit

/-- Hex tells -1 of what is no digit. -/
def hexI (x : UInt8) : Int := if dgV x < 16 then (dgV x : Int) else -1
set_option maxHeartbeats 1000000 in
theorem hex_any (x : UInt8) (w : World) : Calls Tryd.prog 38 #[B x] w fun e w' => e = .returned (.int .i64 (hexI x)) ∧ w' = w := by
  have fin : ∀ z : Int, z = hexI x → Ending.returned (.int .i64 z) = .returned (.int .i64 (hexI x)) := fun z h => by rw [h]
  have FIN := hide fin
  clear fin
  have hx := x.toNat_lt
  have h := dgV_at x
  unfold hexI at FIN ⊢
  obtain ⟨d, hd⟩ : ∃ d, d = dgV x := ⟨_, rfl⟩
  rw [← hd] at h FIN ⊢
  clear hd
  obtain ⟨n, hn⟩ : ∃ n : Int, n = (x.toNat : Int) := ⟨_, rfl⟩
  show Calls Tryd.prog 38 #[.int .u8 (x.toNat : Int)] w _
  rw [← hn]
  rcases h with ⟨a1, a2⟩ | ⟨a1, a2, a3⟩ | ⟨a1, a2, a3⟩ | ⟨a1, a2, a3⟩ | ⟨a1, a2, a3⟩ | ⟨a1, a2, a3⟩ | ⟨a1, a2⟩
  · have b1 : n < 48 := by omega
    have b2 : 0 ≤ n := by omega
    have HD : Hid ((-1 : Int) = if d < 16 then (d : Int) else -1) := by show _ = _; rw [if_neg (by omega)]
    clear a1 a2 hn hx
    generalize (if d < 16 then (d : Int) else -1) = r at *
    go_enter Tryd.func38, Tryd.ntmps38
    go_wp2
    go_ret
    exact ⟨unhide FIN _ (unhide HD), rfl⟩
  · have b1 : 48 ≤ n := by omega
    have b2 : n ≤ 57 := by omega
    have HD : Hid (n - 48 = if d < 16 then (d : Int) else -1) := by show _ = _; rw [if_pos (by omega)]; omega
    clear a1 a2 a3 hn hx
    generalize (if d < 16 then (d : Int) else -1) = r at *
    go_enter Tryd.func38, Tryd.ntmps38
    go_wp2
    go_ret
    exact ⟨unhide FIN _ (unhide HD), rfl⟩
  · have b1 : 57 < n := by omega
    have b2 : n < 65 := by omega
    have HD : Hid ((-1 : Int) = if d < 16 then (d : Int) else -1) := by show _ = _; rw [if_neg (by omega)]
    clear a1 a2 a3 hn hx
    generalize (if d < 16 then (d : Int) else -1) = r at *
    go_enter Tryd.func38, Tryd.ntmps38
    go_wp2
    go_ret
    exact ⟨unhide FIN _ (unhide HD), rfl⟩
  · have b1 : 65 ≤ n := by omega
    have b2 : n ≤ 70 := by omega
    have HD : Hid (n - 65 + 10 = if d < 16 then (d : Int) else -1) := by show _ = _; rw [if_pos (by omega)]; omega
    clear a1 a2 a3 hn hx
    generalize (if d < 16 then (d : Int) else -1) = r at *
    go_enter Tryd.func38, Tryd.ntmps38
    go_wp2
    go_ret
    exact ⟨unhide FIN _ (unhide HD), rfl⟩
  · have b1 : 70 < n := by omega
    have b2 : n < 97 := by omega
    have HD : Hid ((-1 : Int) = if d < 16 then (d : Int) else -1) := by show _ = _; rw [if_neg (by omega)]
    clear a1 a2 a3 hn hx
    generalize (if d < 16 then (d : Int) else -1) = r at *
    go_enter Tryd.func38, Tryd.ntmps38
    go_wp2
    go_ret
    exact ⟨unhide FIN _ (unhide HD), rfl⟩
  · have b1 : 97 ≤ n := by omega
    have b2 : n ≤ 102 := by omega
    have HD : Hid (n - 97 + 10 = if d < 16 then (d : Int) else -1) := by show _ = _; rw [if_pos (by omega)]; omega
    clear a1 a2 a3 hn hx
    generalize (if d < 16 then (d : Int) else -1) = r at *
    go_enter Tryd.func38, Tryd.ntmps38
    go_wp2
    go_ret
    exact ⟨unhide FIN _ (unhide HD), rfl⟩
  · have b1 : 102 < n := by omega
    have b2 : n < 256 := by omega
    have HD : Hid ((-1 : Int) = if d < 16 then (d : Int) else -1) := by show _ = _; rw [if_neg (by omega)]
    clear a1 a2 hn hx
    generalize (if d < 16 then (d : Int) else -1) = r at *
    go_enter Tryd.func38, Tryd.ntmps38
    go_wp2
    go_ret
    exact ⟨unhide FIN _ (unhide HD), rfl⟩

/-- The document's number: greater ones than 2^40 are 2^40. -/
def rnum (p : List UInt8) : Option Nat := if p ≠ [] ∧ okD (bas p) (digs p) = true then some (min (val (bas p) (digs p)) 1099511627776) else none
theorem min_step (b v d : Nat) (hb : 1 ≤ b) : min (min v 1099511627776 * b + d) 1099511627776 = min (v * b + d) 1099511627776 := by
  by_cases h : v ≤ 1099511627776
  · rw [Nat.min_eq_left h]
  · have h1 : v * 1 ≤ v * b := Nat.mul_le_mul_left v hb
    have h2 : 1099511627776 * 1 ≤ 1099511627776 * b := Nat.mul_le_mul_left _ hb
    have e1 : min v 1099511627776 = 1099511627776 := Nat.min_eq_right (by omega)
    have e2 : min (1099511627776 * b + d) 1099511627776 = 1099511627776 := Nat.min_eq_right (by omega)
    have e3 : min (v * b + d) 1099511627776 = 1099511627776 := Nat.min_eq_right (by omega)
    rw [e1, e2, e3]
theorem rnum_bad {p : List UInt8} (h : okD (bas p) (digs p) = false) : rnum p = none := by
  unfold rnum
  rw [if_neg]
  rintro ⟨_, h2⟩
  rw [h] at h2
  cases h2
theorem rnum_yes {p : List UInt8} (h0 : p ≠ []) (h1 : okD (bas p) (digs p) = true) : rnum p = some (min (val (bas p) (digs p)) 1099511627776) := by
  unfold rnum
  rw [if_pos ⟨h0, h1⟩]

set_option maxHeartbeats 4000000 in
set_option maxRecDepth 100000 in
theorem rnumber_any (p : List UInt8) (w : World) (hp : p.length ≤ 1000000) : Calls Tryd.prog 24 #[S p] w fun e w' => e = .returned (.tuple #[.int .u64 (numV (rnum p)), .bool (rnum p).isSome]) ∧ w' = w := by
  have no : rnum p = none → Ending.returned (.tuple #[.int .u64 0, .bool false]) = .returned (.tuple #[.int .u64 (numV (rnum p)), .bool (rnum p).isSome]) := fun h => by rw [h]; rfl
  have yes : ∀ z : Nat, rnum p = some z → Ending.returned (.tuple #[.int .u64 (z : Int), .bool true]) = .returned (.tuple #[.int .u64 (numV (rnum p)), .bool (rnum p).isSome]) := fun z h => by rw [h]; rfl
  have NO := hide no
  have YES := hide yes
  clear no yes
  have hsz := size_S p
  by_cases hp0 : p = []
  · have HN := hide (unhide NO (by rw [hp0]; rfl))
    clear NO YES hsz
    generalize numV (rnum p) = z1 at *
    generalize (rnum p).isSome = b1 at *
    subst hp0
    show Calls Tryd.prog 24 #[.string ⟨#[]⟩] w _
    go_enter Tryd.func24, Tryd.ntmps24
    go_wp2
    go_ret2
    exact ⟨unhide HN, rfl⟩
  · have hl0 : 0 < p.length := List.length_pos_iff.2 hp0
    have HB1 := hide (fun h => unhide NO (rnum_bad (p := p) h))
    have HB3 := hide (fun h1 => unhide YES _ (rnum_yes (p := p) hp0 h1))
    clear NO YES hp0
    generalize numV (rnum p) = z1 at *
    generalize (rnum p).isSome = b1 at *
    cases hm : mrk p with
    | true =>
      have hm2 := hm
      unfold mrk at hm2
      simp only [Bool.and_eq_true, decide_eq_true_eq] at hm2
      obtain ⟨⟨hl, h48⟩, hx⟩ := hm2
      have i0 : (Instr.index 9 (S p) (.int .i64 0)).run Tryd.prog w = .ok (B (p.getD 0 0)) w := idx_str w p .i64 0 (by omega)
      have i1 : (Instr.index 9 (S p) (.int .i64 1)).run Tryd.prog w = .ok (B (p.getD 1 0)) w := idx_str w p .i64 1 (by omega)
      have hdr : (Instr.slice 9 (S p) (some (.int .i64 2)) none none).run Tryd.prog w = .ok (S (p.drop 2)) w := run_drop w p 2 hl
      have eD : digs p = p.drop 2 := by unfold digs; rw [hm]; rfl
      have eB : bas p = 16 := by unfold bas; rw [hm]; rfl
      rw [eD, eB] at HB1 HB3
      have hll : (p.drop 2).length ≤ 1000000 := by simp; omega
      have e0 := byte_eq (p.getD 0 0) 48
      have e1 := byte_eq (p.getD 1 0) 120
      have e2 := byte_eq (p.getD 1 0) 88
      simp only [show (((48 : UInt8).toNat : Nat) : Int) = 48 from rfl, show (((120 : UInt8).toNat : Nat) : Int) = 120 from rfl, show (((88 : UInt8).toNat : Nat) : Int) = 88 from rfl] at e0 e1 e2
      rw [h48] at e0
      have hl' : 2 ≤ (p.length : Int) := by omega
      clear eD eB hm h48
      generalize p.getD 0 0 = x0 at *
      generalize p.getD 1 0 = x1 at *
      generalize p.drop 2 = l at *
      have hszl := size_S l
      have HIX := hide (fun (v : World) (k : Nat) (hk : k < l.length) => idx_str v l .i64 k hk)
      cases c1 : (x1 == 120) with
      | true =>
        rw [c1] at e1
        clear hx c1
        go_enter Tryd.func24, Tryd.ntmps24
        go_wp2_with fail
        go_loopw [5, 6] (fun n i wr => ∃ (k v : Nat), k ≤ l.length ∧ i = .int .i64 k ∧ Hid (∀ x ∈ l.take k, dgV x < 16) ∧ Hid (v = min (val 16 (l.take k)) 1099511627776) ∧ v ≤ 1099511627776 ∧ n = .int .u64 v ∧ wr = w) (fun _ i _ => l.length - (intOf i).toNat)
        case atStart => exact ⟨0, 0, by omega, rfl, hide (by simp), hide (by rfl), by omega, rfl, rfl⟩
        case round =>
          obtain ⟨k, v, hk, rfl, HOK, HV, hv, rfl, hw⟩ := hrel
          subst hw
          by_cases hkl : k < l.length
          · have hkl' : (k : Int) < (l.length : Int) := by omega
            have hx0 := unhide HIX wr k hkl
            have HT := hide (take_snoc l k 0 hkl)
            have HMM := hide (getD_mem l k hkl)
            have CC := hide (hex_any (l.getD k 0) wr)
            have HSN := hide (show min (val 16 (l.take (k + 1))) 1099511627776 = min (v * 16 + dgV (l.getD k 0)) 1099511627776 by rw [unhide HT, val_snoc, unhide HV, min_step 16 _ _ (by decide)])
            unfold hexI at CC
            generalize l.getD k 0 = y at *
            by_cases hyb : dgV y < 16
            · have HOK2 : Hid (∀ z ∈ l.take (k + 1), dgV z < 16) := by
                show ∀ z ∈ l.take (k + 1), dgV z < 16
                rw [unhide HT]
                intro z hz
                rcases List.mem_append.1 hz with hz | hz
                · exact unhide HOK z hz
                · rw [List.mem_singleton] at hz
                  rw [hz]
                  exact hyb
              rw [if_pos (by omega)] at CC
              have KK : Hid (∀ z : Nat, z = min (v * 16 + dgV y) 1099511627776 → ((∃ (k' v' : Nat), k' ≤ l.length ∧ Value.int .i64 ((k : Int) + 1) = .int .i64 k' ∧ Hid (∀ x ∈ l.take k', dgV x < 16) ∧ Hid (v' = min (val 16 (l.take k')) 1099511627776) ∧ v' ≤ 1099511627776 ∧ Value.int .u64 (z : Int) = .int .u64 v' ∧ wr = wr) ∧ l.length - ((k : Int) + 1).toNat < l.length - k)) :=
                fun z hz => ⟨⟨k + 1, z, by omega, by simp, HOK2, by rw [hz]; exact (unhide HSN).symm, by rw [hz]; exact Nat.min_le_right _ _, rfl, rfl⟩, by omega⟩
              clear HOK HT HMM HSN HOK2 HV HB1 HB3 HIX
              generalize dgV y = d at *
              by_cases hbig : 1099511627776 < v * 16 + d
              · have hb' : (1099511627776 : Int) < (v : Int) * 16 + (d : Int) := by omega
                have kk := hide (unhide KK 1099511627776 (by omega))
                clear KK
                go_wp2_with fail
                refine (unhide CC).mono ?_
                rintro e w2 ⟨rfl, hw⟩
                subst hw
                clear CC
                go_wp2
                exact unhide kk
              · have hb' : ¬ (1099511627776 : Int) < (v : Int) * 16 + (d : Int) := by omega
                have kk := hide (unhide KK (v * 16 + d) (by omega))
                rw [show ((v * 16 + d : Nat) : Int) = (v : Int) * 16 + (d : Int) by omega] at kk
                clear KK
                go_wp2_with fail
                refine (unhide CC).mono ?_
                rintro e w2 ⟨rfl, hw⟩
                subst hw
                clear CC
                go_wp2
                exact unhide kk
            · have HN := hide (unhide HB1 (by
                rw [Bool.eq_false_iff]
                intro ha
                have := List.all_eq_true.1 ha y (unhide HMM)
                simp at this
                omega))
              clear HOK HT HMM HSN HV HB1 HB3 HIX
              by_cases h16 : dgV y < 16
              · rw [if_pos h16] at CC
                generalize dgV y = d at *
                first
                | (exfalso; omega)
                | skip
                all_goals
                  go_wp2_with fail
                  refine (unhide CC).mono ?_
                  rintro e w2 ⟨rfl, hw⟩
                  subst hw
                  clear CC
                  go_wp2
                  go_ret2
                  exact ⟨unhide HN, rfl⟩
              · rw [if_neg h16] at CC
                go_wp2_with fail
                refine (unhide CC).mono ?_
                rintro e w2 ⟨rfl, hw⟩
                subst hw
                clear CC
                go_wp2
                go_ret2
                exact ⟨unhide HN, rfl⟩
          · have hkl' : ¬ (k : Int) < (l.length : Int) := by omega
            have e : l.take k = l := List.take_of_length_le (by omega)
            have hok := unhide HOK
            have hvv := unhide HV
            rw [e] at hok hvv
            have HN := hide (unhide HB3 (by
              unfold okD
              rw [List.all_eq_true]
              intro x hx
              simpa using hok x hx))
            rw [← hvv] at HN
            clear HOK HB1 HB3 HV HIX hok hvv e
            go_wp2
            go_ret2
            exact ⟨unhide HN, rfl⟩
      | false =>
        rw [c1] at e1 hx
        simp only [Bool.false_or] at hx
        rw [hx] at e2
        clear hx c1
        go_enter Tryd.func24, Tryd.ntmps24
        go_wp2_with fail
        go_loopw [5, 6] (fun n i wr => ∃ (k v : Nat), k ≤ l.length ∧ i = .int .i64 k ∧ Hid (∀ x ∈ l.take k, dgV x < 16) ∧ Hid (v = min (val 16 (l.take k)) 1099511627776) ∧ v ≤ 1099511627776 ∧ n = .int .u64 v ∧ wr = w) (fun _ i _ => l.length - (intOf i).toNat)
        case atStart => exact ⟨0, 0, by omega, rfl, hide (by simp), hide (by rfl), by omega, rfl, rfl⟩
        case round =>
          obtain ⟨k, v, hk, rfl, HOK, HV, hv, rfl, hw⟩ := hrel
          subst hw
          by_cases hkl : k < l.length
          · have hkl' : (k : Int) < (l.length : Int) := by omega
            have hx0 := unhide HIX wr k hkl
            have HT := hide (take_snoc l k 0 hkl)
            have HMM := hide (getD_mem l k hkl)
            have CC := hide (hex_any (l.getD k 0) wr)
            have HSN := hide (show min (val 16 (l.take (k + 1))) 1099511627776 = min (v * 16 + dgV (l.getD k 0)) 1099511627776 by rw [unhide HT, val_snoc, unhide HV, min_step 16 _ _ (by decide)])
            unfold hexI at CC
            generalize l.getD k 0 = y at *
            by_cases hyb : dgV y < 16
            · have HOK2 : Hid (∀ z ∈ l.take (k + 1), dgV z < 16) := by
                show ∀ z ∈ l.take (k + 1), dgV z < 16
                rw [unhide HT]
                intro z hz
                rcases List.mem_append.1 hz with hz | hz
                · exact unhide HOK z hz
                · rw [List.mem_singleton] at hz
                  rw [hz]
                  exact hyb
              rw [if_pos (by omega)] at CC
              have KK : Hid (∀ z : Nat, z = min (v * 16 + dgV y) 1099511627776 → ((∃ (k' v' : Nat), k' ≤ l.length ∧ Value.int .i64 ((k : Int) + 1) = .int .i64 k' ∧ Hid (∀ x ∈ l.take k', dgV x < 16) ∧ Hid (v' = min (val 16 (l.take k')) 1099511627776) ∧ v' ≤ 1099511627776 ∧ Value.int .u64 (z : Int) = .int .u64 v' ∧ wr = wr) ∧ l.length - ((k : Int) + 1).toNat < l.length - k)) :=
                fun z hz => ⟨⟨k + 1, z, by omega, by simp, HOK2, by rw [hz]; exact (unhide HSN).symm, by rw [hz]; exact Nat.min_le_right _ _, rfl, rfl⟩, by omega⟩
              clear HOK HT HMM HSN HOK2 HV HB1 HB3 HIX
              generalize dgV y = d at *
              by_cases hbig : 1099511627776 < v * 16 + d
              · have hb' : (1099511627776 : Int) < (v : Int) * 16 + (d : Int) := by omega
                have kk := hide (unhide KK 1099511627776 (by omega))
                clear KK
                go_wp2_with fail
                refine (unhide CC).mono ?_
                rintro e w2 ⟨rfl, hw⟩
                subst hw
                clear CC
                go_wp2
                exact unhide kk
              · have hb' : ¬ (1099511627776 : Int) < (v : Int) * 16 + (d : Int) := by omega
                have kk := hide (unhide KK (v * 16 + d) (by omega))
                rw [show ((v * 16 + d : Nat) : Int) = (v : Int) * 16 + (d : Int) by omega] at kk
                clear KK
                go_wp2_with fail
                refine (unhide CC).mono ?_
                rintro e w2 ⟨rfl, hw⟩
                subst hw
                clear CC
                go_wp2
                exact unhide kk
            · have HN := hide (unhide HB1 (by
                rw [Bool.eq_false_iff]
                intro ha
                have := List.all_eq_true.1 ha y (unhide HMM)
                simp at this
                omega))
              clear HOK HT HMM HSN HV HB1 HB3 HIX
              by_cases h16 : dgV y < 16
              · rw [if_pos h16] at CC
                generalize dgV y = d at *
                first
                | (exfalso; omega)
                | skip
                all_goals
                  go_wp2_with fail
                  refine (unhide CC).mono ?_
                  rintro e w2 ⟨rfl, hw⟩
                  subst hw
                  clear CC
                  go_wp2
                  go_ret2
                  exact ⟨unhide HN, rfl⟩
              · rw [if_neg h16] at CC
                go_wp2_with fail
                refine (unhide CC).mono ?_
                rintro e w2 ⟨rfl, hw⟩
                subst hw
                clear CC
                go_wp2
                go_ret2
                exact ⟨unhide HN, rfl⟩
          · have hkl' : ¬ (k : Int) < (l.length : Int) := by omega
            have e : l.take k = l := List.take_of_length_le (by omega)
            have hok := unhide HOK
            have hvv := unhide HV
            rw [e] at hok hvv
            have HN := hide (unhide HB3 (by
              unfold okD
              rw [List.all_eq_true]
              intro x hx
              simpa using hok x hx))
            rw [← hvv] at HN
            clear HOK HB1 HB3 HV HIX hok hvv e
            go_wp2
            go_ret2
            exact ⟨unhide HN, rfl⟩
    | false =>
      have e1 := byte_eq (p.getD 1 0) 120
      have e2 := byte_eq (p.getD 1 0) 88
      have e0 := byte_eq (p.getD 0 0) 48
      simp only [show (((48 : UInt8).toNat : Nat) : Int) = 48 from rfl, show (((120 : UInt8).toNat : Nat) : Int) = 120 from rfl, show (((88 : UInt8).toNat : Nat) : Int) = 88 from rfl] at e0 e1 e2
      have hm2 := hm
      unfold mrk at hm2
      cases ho : oct p with
      | true =>
        have ho2 := ho
        unfold oct at ho2
        simp only [Bool.and_eq_true, decide_eq_true_eq] at ho2
        obtain ⟨hl, h48⟩ := ho2
        rw [show decide (2 ≤ p.length) = true from decide_eq_true (by omega), h48] at hm2
        simp only [Bool.true_and, Bool.or_eq_false_iff] at hm2
        rw [hm2.1] at e1
        rw [hm2.2] at e2
        rw [h48] at e0
        have i0 : (Instr.index 9 (S p) (.int .i64 0)).run Tryd.prog w = .ok (B (p.getD 0 0)) w := idx_str w p .i64 0 (by omega)
        have i1 : (Instr.index 9 (S p) (.int .i64 1)).run Tryd.prog w = .ok (B (p.getD 1 0)) w := idx_str w p .i64 1 (by omega)
        have hdr : (Instr.slice 9 (S p) (some (.int .i64 1)) none none).run Tryd.prog w = .ok (S (p.drop 1)) w := run_drop w p 1 (by omega)
        have eD : digs p = p.drop 1 := by unfold digs; rw [hm, ho]; rfl
        have eB : bas p = 8 := by unfold bas; rw [hm, ho]; rfl
        rw [eD, eB] at HB1 HB3
        have hll : (p.drop 1).length ≤ 1000000 := by simp; omega
        have hl' : 2 ≤ (p.length : Int) := by omega
        clear eD eB hm ho h48 hm2
        generalize p.getD 0 0 = x0 at *
        generalize p.getD 1 0 = x1 at *
        generalize p.drop 1 = l at *
        have hszl := size_S l
        have HIX := hide (fun (v : World) (k : Nat) (hk : k < l.length) => idx_str v l .i64 k hk)
        go_enter Tryd.func24, Tryd.ntmps24
        go_wp2_with fail
        go_loopw [5, 6] (fun n i wr => ∃ (k v : Nat), k ≤ l.length ∧ i = .int .i64 k ∧ Hid (∀ x ∈ l.take k, dgV x < 8) ∧ Hid (v = min (val 8 (l.take k)) 1099511627776) ∧ v ≤ 1099511627776 ∧ n = .int .u64 v ∧ wr = w) (fun _ i _ => l.length - (intOf i).toNat)
        case atStart => exact ⟨0, 0, by omega, rfl, hide (by simp), hide (by rfl), by omega, rfl, rfl⟩
        case round =>
          obtain ⟨k, v, hk, rfl, HOK, HV, hv, rfl, hw⟩ := hrel
          subst hw
          by_cases hkl : k < l.length
          · have hkl' : (k : Int) < (l.length : Int) := by omega
            have hx0 := unhide HIX wr k hkl
            have HT := hide (take_snoc l k 0 hkl)
            have HMM := hide (getD_mem l k hkl)
            have CC := hide (hex_any (l.getD k 0) wr)
            have HSN := hide (show min (val 8 (l.take (k + 1))) 1099511627776 = min (v * 8 + dgV (l.getD k 0)) 1099511627776 by rw [unhide HT, val_snoc, unhide HV, min_step 8 _ _ (by decide)])
            unfold hexI at CC
            generalize l.getD k 0 = y at *
            by_cases hyb : dgV y < 8
            · have HOK2 : Hid (∀ z ∈ l.take (k + 1), dgV z < 8) := by
                show ∀ z ∈ l.take (k + 1), dgV z < 8
                rw [unhide HT]
                intro z hz
                rcases List.mem_append.1 hz with hz | hz
                · exact unhide HOK z hz
                · rw [List.mem_singleton] at hz
                  rw [hz]
                  exact hyb
              rw [if_pos (by omega)] at CC
              have KK : Hid (∀ z : Nat, z = min (v * 8 + dgV y) 1099511627776 → ((∃ (k' v' : Nat), k' ≤ l.length ∧ Value.int .i64 ((k : Int) + 1) = .int .i64 k' ∧ Hid (∀ x ∈ l.take k', dgV x < 8) ∧ Hid (v' = min (val 8 (l.take k')) 1099511627776) ∧ v' ≤ 1099511627776 ∧ Value.int .u64 (z : Int) = .int .u64 v' ∧ wr = wr) ∧ l.length - ((k : Int) + 1).toNat < l.length - k)) :=
                fun z hz => ⟨⟨k + 1, z, by omega, by simp, HOK2, by rw [hz]; exact (unhide HSN).symm, by rw [hz]; exact Nat.min_le_right _ _, rfl, rfl⟩, by omega⟩
              clear HOK HT HMM HSN HOK2 HV HB1 HB3 HIX
              generalize dgV y = d at *
              by_cases hbig : 1099511627776 < v * 8 + d
              · have hb' : (1099511627776 : Int) < (v : Int) * 8 + (d : Int) := by omega
                have kk := hide (unhide KK 1099511627776 (by omega))
                clear KK
                go_wp2_with fail
                refine (unhide CC).mono ?_
                rintro e w2 ⟨rfl, hw⟩
                subst hw
                clear CC
                go_wp2
                exact unhide kk
              · have hb' : ¬ (1099511627776 : Int) < (v : Int) * 8 + (d : Int) := by omega
                have kk := hide (unhide KK (v * 8 + d) (by omega))
                rw [show ((v * 8 + d : Nat) : Int) = (v : Int) * 8 + (d : Int) by omega] at kk
                clear KK
                go_wp2_with fail
                refine (unhide CC).mono ?_
                rintro e w2 ⟨rfl, hw⟩
                subst hw
                clear CC
                go_wp2
                exact unhide kk
            · have HN := hide (unhide HB1 (by
                rw [Bool.eq_false_iff]
                intro ha
                have := List.all_eq_true.1 ha y (unhide HMM)
                simp at this
                omega))
              clear HOK HT HMM HSN HV HB1 HB3 HIX
              by_cases h16 : dgV y < 16
              · rw [if_pos h16] at CC
                generalize dgV y = d at *
                first
                | (exfalso; omega)
                | skip
                all_goals
                  go_wp2_with fail
                  refine (unhide CC).mono ?_
                  rintro e w2 ⟨rfl, hw⟩
                  subst hw
                  clear CC
                  go_wp2
                  go_ret2
                  exact ⟨unhide HN, rfl⟩
              · rw [if_neg h16] at CC
                go_wp2_with fail
                refine (unhide CC).mono ?_
                rintro e w2 ⟨rfl, hw⟩
                subst hw
                clear CC
                go_wp2
                go_ret2
                exact ⟨unhide HN, rfl⟩
          · have hkl' : ¬ (k : Int) < (l.length : Int) := by omega
            have e : l.take k = l := List.take_of_length_le (by omega)
            have hok := unhide HOK
            have hvv := unhide HV
            rw [e] at hok hvv
            have HN := hide (unhide HB3 (by
              unfold okD
              rw [List.all_eq_true]
              intro x hx
              simpa using hok x hx))
            rw [← hvv] at HN
            clear HOK HB1 HB3 HV HIX hok hvv e
            go_wp2
            go_ret2
            exact ⟨unhide HN, rfl⟩
      | false =>
        have eD : digs p = p := by unfold digs; rw [hm, ho]; rfl
        have eB : bas p = 10 := by unfold bas; rw [hm, ho]; rfl
        rw [eD, eB] at HB1 HB3
        clear eD eB
        have HIX := hide (fun (v : World) (k : Nat) (hk : k < p.length) => idx_str v p .i64 k hk)
        by_cases hl : 2 ≤ p.length
        · have h48 : (p.getD 0 0 == 48) = false := by
            unfold oct at ho
            rw [show decide (1 < p.length) = true from decide_eq_true (by omega), Bool.true_and] at ho
            exact ho
          rw [h48] at e0
          have i0 : (Instr.index 9 (S p) (.int .i64 0)).run Tryd.prog w = .ok (B (p.getD 0 0)) w := idx_str w p .i64 0 (by omega)
          have hl' : 2 ≤ (p.length : Int) := by omega
          have hl3 : ¬ (p.length : Int) = 0 := by omega
          have hl4 : ((p.length : Int) == 0) = false := by simpa using hl3
          clear hm ho h48 hm2 e1 e2
          generalize p.getD 0 0 = x0 at *
          go_enter Tryd.func24, Tryd.ntmps24
          go_wp2_with fail
          go_loopw [5, 6] (fun n i wr => ∃ (k v : Nat), k ≤ p.length ∧ i = .int .i64 k ∧ Hid (∀ x ∈ p.take k, dgV x < 10) ∧ Hid (v = min (val 10 (p.take k)) 1099511627776) ∧ v ≤ 1099511627776 ∧ n = .int .u64 v ∧ wr = w) (fun _ i _ => p.length - (intOf i).toNat)
          case atStart => exact ⟨0, 0, by omega, rfl, hide (by simp), hide (by rfl), by omega, rfl, rfl⟩
          case round =>
            obtain ⟨k, v, hk, rfl, HOK, HV, hv, rfl, hw⟩ := hrel
            subst hw
            by_cases hkl : k < p.length
            · have hkl' : (k : Int) < (p.length : Int) := by omega
              have hx0 := unhide HIX wr k hkl
              have HT := hide (take_snoc p k 0 hkl)
              have HMM := hide (getD_mem p k hkl)
              have CC := hide (hex_any (p.getD k 0) wr)
              have HSN := hide (show min (val 10 (p.take (k + 1))) 1099511627776 = min (v * 10 + dgV (p.getD k 0)) 1099511627776 by rw [unhide HT, val_snoc, unhide HV, min_step 10 _ _ (by decide)])
              unfold hexI at CC
              generalize p.getD k 0 = y at *
              by_cases hyb : dgV y < 10
              · have HOK2 : Hid (∀ z ∈ p.take (k + 1), dgV z < 10) := by
                  show ∀ z ∈ p.take (k + 1), dgV z < 10
                  rw [unhide HT]
                  intro z hz
                  rcases List.mem_append.1 hz with hz | hz
                  · exact unhide HOK z hz
                  · rw [List.mem_singleton] at hz
                    rw [hz]
                    exact hyb
                rw [if_pos (by omega)] at CC
                have KK : Hid (∀ z : Nat, z = min (v * 10 + dgV y) 1099511627776 → ((∃ (k' v' : Nat), k' ≤ p.length ∧ Value.int .i64 ((k : Int) + 1) = .int .i64 k' ∧ Hid (∀ x ∈ p.take k', dgV x < 10) ∧ Hid (v' = min (val 10 (p.take k')) 1099511627776) ∧ v' ≤ 1099511627776 ∧ Value.int .u64 (z : Int) = .int .u64 v' ∧ wr = wr) ∧ p.length - ((k : Int) + 1).toNat < p.length - k)) :=
                  fun z hz => ⟨⟨k + 1, z, by omega, by simp, HOK2, by rw [hz]; exact (unhide HSN).symm, by rw [hz]; exact Nat.min_le_right _ _, rfl, rfl⟩, by omega⟩
                clear HOK HT HMM HSN HOK2 HV HB1 HB3 HIX
                generalize dgV y = d at *
                by_cases hbig : 1099511627776 < v * 10 + d
                · have hb' : (1099511627776 : Int) < (v : Int) * 10 + (d : Int) := by omega
                  have kk := hide (unhide KK 1099511627776 (by omega))
                  clear KK
                  go_wp2_with fail
                  refine (unhide CC).mono ?_
                  rintro e w2 ⟨rfl, hw⟩
                  subst hw
                  clear CC
                  go_wp2
                  exact unhide kk
                · have hb' : ¬ (1099511627776 : Int) < (v : Int) * 10 + (d : Int) := by omega
                  have kk := hide (unhide KK (v * 10 + d) (by omega))
                  rw [show ((v * 10 + d : Nat) : Int) = (v : Int) * 10 + (d : Int) by omega] at kk
                  clear KK
                  go_wp2_with fail
                  refine (unhide CC).mono ?_
                  rintro e w2 ⟨rfl, hw⟩
                  subst hw
                  clear CC
                  go_wp2
                  exact unhide kk
              · have HN := hide (unhide HB1 (by
                  rw [Bool.eq_false_iff]
                  intro ha
                  have := List.all_eq_true.1 ha y (unhide HMM)
                  simp at this
                  omega))
                clear HOK HT HMM HSN HV HB1 HB3 HIX
                by_cases h16 : dgV y < 16
                · rw [if_pos h16] at CC
                  generalize dgV y = d at *
                  first
                  | (exfalso; omega)
                  | skip
                  all_goals
                    go_wp2_with fail
                    refine (unhide CC).mono ?_
                    rintro e w2 ⟨rfl, hw⟩
                    subst hw
                    clear CC
                    go_wp2
                    go_ret2
                    exact ⟨unhide HN, rfl⟩
                · rw [if_neg h16] at CC
                  go_wp2_with fail
                  refine (unhide CC).mono ?_
                  rintro e w2 ⟨rfl, hw⟩
                  subst hw
                  clear CC
                  go_wp2
                  go_ret2
                  exact ⟨unhide HN, rfl⟩
            · have hkl' : ¬ (k : Int) < (p.length : Int) := by omega
              have e : p.take k = p := List.take_of_length_le (by omega)
              have hok := unhide HOK
              have hvv := unhide HV
              rw [e] at hok hvv
              have HN := hide (unhide HB3 (by
                unfold okD
                rw [List.all_eq_true]
                intro x hx
                simpa using hok x hx))
              rw [← hvv] at HN
              clear HOK HB1 HB3 HV HIX hok hvv e
              go_wp2
              go_ret2
              exact ⟨unhide HN, rfl⟩
        · have hl' : ¬ 2 ≤ (p.length : Int) := by omega
          have hl3 : ¬ (p.length : Int) = 0 := by omega
          have hl4 : ((p.length : Int) == 0) = false := by simpa using hl3
          clear hm ho hm2 e0 e1 e2
          go_enter Tryd.func24, Tryd.ntmps24
          go_wp2_with fail
          go_loopw [5, 6] (fun n i wr => ∃ (k v : Nat), k ≤ p.length ∧ i = .int .i64 k ∧ Hid (∀ x ∈ p.take k, dgV x < 10) ∧ Hid (v = min (val 10 (p.take k)) 1099511627776) ∧ v ≤ 1099511627776 ∧ n = .int .u64 v ∧ wr = w) (fun _ i _ => p.length - (intOf i).toNat)
          case atStart => exact ⟨0, 0, by omega, rfl, hide (by simp), hide (by rfl), by omega, rfl, rfl⟩
          case round =>
            obtain ⟨k, v, hk, rfl, HOK, HV, hv, rfl, hw⟩ := hrel
            subst hw
            by_cases hkl : k < p.length
            · have hkl' : (k : Int) < (p.length : Int) := by omega
              have hx0 := unhide HIX wr k hkl
              have HT := hide (take_snoc p k 0 hkl)
              have HMM := hide (getD_mem p k hkl)
              have CC := hide (hex_any (p.getD k 0) wr)
              have HSN := hide (show min (val 10 (p.take (k + 1))) 1099511627776 = min (v * 10 + dgV (p.getD k 0)) 1099511627776 by rw [unhide HT, val_snoc, unhide HV, min_step 10 _ _ (by decide)])
              unfold hexI at CC
              generalize p.getD k 0 = y at *
              by_cases hyb : dgV y < 10
              · have HOK2 : Hid (∀ z ∈ p.take (k + 1), dgV z < 10) := by
                  show ∀ z ∈ p.take (k + 1), dgV z < 10
                  rw [unhide HT]
                  intro z hz
                  rcases List.mem_append.1 hz with hz | hz
                  · exact unhide HOK z hz
                  · rw [List.mem_singleton] at hz
                    rw [hz]
                    exact hyb
                rw [if_pos (by omega)] at CC
                have KK : Hid (∀ z : Nat, z = min (v * 10 + dgV y) 1099511627776 → ((∃ (k' v' : Nat), k' ≤ p.length ∧ Value.int .i64 ((k : Int) + 1) = .int .i64 k' ∧ Hid (∀ x ∈ p.take k', dgV x < 10) ∧ Hid (v' = min (val 10 (p.take k')) 1099511627776) ∧ v' ≤ 1099511627776 ∧ Value.int .u64 (z : Int) = .int .u64 v' ∧ wr = wr) ∧ p.length - ((k : Int) + 1).toNat < p.length - k)) :=
                  fun z hz => ⟨⟨k + 1, z, by omega, by simp, HOK2, by rw [hz]; exact (unhide HSN).symm, by rw [hz]; exact Nat.min_le_right _ _, rfl, rfl⟩, by omega⟩
                clear HOK HT HMM HSN HOK2 HV HB1 HB3 HIX
                generalize dgV y = d at *
                by_cases hbig : 1099511627776 < v * 10 + d
                · have hb' : (1099511627776 : Int) < (v : Int) * 10 + (d : Int) := by omega
                  have kk := hide (unhide KK 1099511627776 (by omega))
                  clear KK
                  go_wp2_with fail
                  refine (unhide CC).mono ?_
                  rintro e w2 ⟨rfl, hw⟩
                  subst hw
                  clear CC
                  go_wp2
                  exact unhide kk
                · have hb' : ¬ (1099511627776 : Int) < (v : Int) * 10 + (d : Int) := by omega
                  have kk := hide (unhide KK (v * 10 + d) (by omega))
                  rw [show ((v * 10 + d : Nat) : Int) = (v : Int) * 10 + (d : Int) by omega] at kk
                  clear KK
                  go_wp2_with fail
                  refine (unhide CC).mono ?_
                  rintro e w2 ⟨rfl, hw⟩
                  subst hw
                  clear CC
                  go_wp2
                  exact unhide kk
              · have HN := hide (unhide HB1 (by
                  rw [Bool.eq_false_iff]
                  intro ha
                  have := List.all_eq_true.1 ha y (unhide HMM)
                  simp at this
                  omega))
                clear HOK HT HMM HSN HV HB1 HB3 HIX
                by_cases h16 : dgV y < 16
                · rw [if_pos h16] at CC
                  generalize dgV y = d at *
                  first
                  | (exfalso; omega)
                  | skip
                  all_goals
                    go_wp2_with fail
                    refine (unhide CC).mono ?_
                    rintro e w2 ⟨rfl, hw⟩
                    subst hw
                    clear CC
                    go_wp2
                    go_ret2
                    exact ⟨unhide HN, rfl⟩
                · rw [if_neg h16] at CC
                  go_wp2_with fail
                  refine (unhide CC).mono ?_
                  rintro e w2 ⟨rfl, hw⟩
                  subst hw
                  clear CC
                  go_wp2
                  go_ret2
                  exact ⟨unhide HN, rfl⟩
            · have hkl' : ¬ (k : Int) < (p.length : Int) := by omega
              have e : p.take k = p := List.take_of_length_le (by omega)
              have hok := unhide HOK
              have hvv := unhide HV
              rw [e] at hok hvv
              have HN := hide (unhide HB3 (by
                unfold okD
                rw [List.all_eq_true]
                intro x hx
                simpa using hok x hx))
              rw [← hvv] at HN
              clear HOK HB1 HB3 HV HIX hok hvv e
              go_wp2
              go_ret2
              exact ⟨unhide HN, rfl⟩
end Go.Proofs.YtclbekmihimdmaaDoor
