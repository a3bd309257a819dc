/-
  The small functions of package ip4: digits, marks, a part's number.
-/
import Derived.Test.YtfaobhaogenijaaDoorI4P
namespace Go.Proofs.YtfaobhaogenijaaDoor
set_option linter.unusedVariables false
open Go.RowKit

theorem dgV_at (x : UInt8) :
    (x.toNat < 48 ∧ dgV x = 16) ∨ (48 ≤ x.toNat ∧ x.toNat ≤ 57 ∧ dgV x = x.toNat - 48) ∨ (57 < x.toNat ∧ x.toNat < 65 ∧ dgV x = 16) ∨ (65 ≤ x.toNat ∧ x.toNat ≤ 70 ∧ dgV x = x.toNat - 55) ∨ (70 < x.toNat ∧ x.toNat < 97 ∧ dgV x = 16) ∨ (97 ≤ x.toNat ∧ x.toNat ≤ 102 ∧ dgV x = x.toNat - 87) ∨ (102 < x.toNat ∧ dgV x = 16) := by
  unfold dgV
  by_cases h1 : 48 ≤ x.toNat ∧ x.toNat ≤ 57
  · rw [if_pos h1]
    omega
  · rw [if_neg h1]
    by_cases h2 : 97 ≤ x.toNat ∧ x.toNat ≤ 102
    · rw [if_pos h2]
      omega
    · rw [if_neg h2]
      by_cases h3 : 65 ≤ x.toNat ∧ x.toNat ≤ 70
      · rw [if_pos h3]
        omega
      · rw [if_neg h3]
        omega

set_option maxHeartbeats 1000000 in
set_option maxRecDepth 100000 in
theorem digit_any (x : UInt8) (w : World) : Calls Tryd.prog 65 #[B x] w fun e w' => e = .returned (.int .u32 (dgV x : Int)) ∧ w' = w := by
  have fin : ∀ z : Int, z = (dgV x : Int) → Ending.returned (.int .u32 z) = .returned (.int .u32 (dgV x : Int)) := fun z h => by rw [h]
  have FIN := hide fin
  clear fin
  have hx := x.toNat_lt
  have h := dgV_at x
  obtain ⟨d, hd⟩ : ∃ d, d = dgV x := ⟨_, rfl⟩
  rw [← hd] at h FIN ⊢
  clear hd
  obtain ⟨n, hn⟩ : ∃ n : Int, n = (x.toNat : Int) := ⟨_, rfl⟩
  show Calls Tryd.prog 65 #[.int .u8 (x.toNat : Int)] w _
  rw [← hn]
  rcases h with ⟨a1, a2⟩ | ⟨a1, a2, a3⟩ | ⟨a1, a2, a3⟩ | ⟨a1, a2, a3⟩ | ⟨a1, a2, a3⟩ | ⟨a1, a2, a3⟩ | ⟨a1, a2⟩
  · have b1 : n < 48 := by omega
    have b2 : 0 ≤ n := by omega
    have HD : Hid ((16 : Int) = d) := by show (16 : Int) = d; omega
    clear a1 a2 hn hx
    go_enter Tryd.func65, Tryd.ntmps65
    go_wp2
    go_ret
    exact ⟨unhide FIN _ (unhide HD), rfl⟩
  · have b1 : 48 ≤ n := by omega
    have b2 : n ≤ 57 := by omega
    have HD : Hid (n - 48 = d) := by show n - 48 = d; omega
    clear a1 a2 a3 hn hx
    go_enter Tryd.func65, Tryd.ntmps65
    go_wp2
    go_ret
    exact ⟨unhide FIN _ (unhide HD), rfl⟩
  · have b1 : 57 < n := by omega
    have b2 : n < 65 := by omega
    have HD : Hid ((16 : Int) = d) := by show (16 : Int) = d; omega
    clear a1 a2 a3 hn hx
    go_enter Tryd.func65, Tryd.ntmps65
    go_wp2
    go_ret
    exact ⟨unhide FIN _ (unhide HD), rfl⟩
  · have b1 : 65 ≤ n := by omega
    have b2 : n ≤ 70 := by omega
    have HD : Hid (n - 65 + 10 = d) := by show n - 65 + 10 = d; omega
    clear a1 a2 a3 hn hx
    go_enter Tryd.func65, Tryd.ntmps65
    go_wp2
    go_ret
    exact ⟨unhide FIN _ (unhide HD), rfl⟩
  · have b1 : 70 < n := by omega
    have b2 : n < 97 := by omega
    have HD : Hid ((16 : Int) = d) := by show (16 : Int) = d; omega
    clear a1 a2 a3 hn hx
    go_enter Tryd.func65, Tryd.ntmps65
    go_wp2
    go_ret
    exact ⟨unhide FIN _ (unhide HD), rfl⟩
  · have b1 : 97 ≤ n := by omega
    have b2 : n ≤ 102 := by omega
    have HD : Hid (n - 97 + 10 = d) := by show n - 97 + 10 = d; omega
    clear a1 a2 a3 hn hx
    go_enter Tryd.func65, Tryd.ntmps65
    go_wp2
    go_ret
    exact ⟨unhide FIN _ (unhide HD), rfl⟩
  · have b1 : 102 < n := by omega
    have b2 : n < 256 := by omega
    have HD : Hid ((16 : Int) = d) := by show (16 : Int) = d; omega
    clear a1 a2 hn hx
    go_enter Tryd.func65, Tryd.ntmps65
    go_wp2
    go_ret
    exact ⟨unhide FIN _ (unhide HD), rfl⟩

theorem byte_eq (a c : UInt8) : ((a.toNat : Int) == (c.toNat : Int)) = (a == c) := by
  rw [Bool.eq_iff_iff]
  simp only [beq_iff_eq]
  constructor
  · intro h
    exact UInt8.toNat_inj.1 (by omega)
  · rintro rfl
    rfl

set_option maxHeartbeats 1000000 in
set_option maxRecDepth 100000 in
theorem marked_any (p : List UInt8) (w : World) (hp : p.length ≤ 1000000) : Calls Tryd.prog 78 #[S p] w fun e w' => e = .returned (.bool (mrk p)) ∧ w' = w := by
  have fin : ∀ b : Bool, b = mrk p → Ending.returned (.bool b) = .returned (.bool (mrk p)) := fun b h => by rw [h]
  have FIN := hide fin
  clear fin
  have hsz := size_S p
  by_cases h2 : 2 ≤ p.length
  · have i0 : (Instr.index 9 (S p) (.int .i64 0)).run Tryd.prog w = .ok (B (p.getD 0 0)) w := idx_str w p .i64 0 (by omega)
    have i1 : (Instr.index 9 (S p) (.int .i64 1)).run Tryd.prog w = .ok (B (p.getD 1 0)) w := idx_str w p .i64 1 (by omega)
    have HM : Hid (mrk p = ((p.getD 0 0 == 48) && (p.getD 1 0 == 120 || p.getD 1 0 == 88))) := by
      show mrk p = _
      unfold mrk
      rw [show decide (2 ≤ p.length) = true by simpa using h2, Bool.true_and]
    generalize p.getD 0 0 = a at *
    generalize p.getD 1 0 = b at *
    have h2' : 2 ≤ (p.length : Int) := by omega
    have e0 := byte_eq a 48
    have e1 := byte_eq b 120
    have e2 := byte_eq b 88
    simp only [show (((48 : UInt8).toNat : Nat) : Int) = 48 from rfl, show (((120 : UInt8).toNat : Nat) : Int) = 120 from rfl, show (((88 : UInt8).toNat : Nat) : Int) = 88 from rfl] at e0 e1 e2
    cases c0 : (a == 48) with
    | false =>
      rw [c0] at e0 HM
      go_enter Tryd.func78, Tryd.ntmps78
      go_wp2
      go_ret
      exact ⟨unhide FIN _ (by rw [unhide HM]; rfl), rfl⟩
    | true =>
      rw [c0] at e0 HM
      cases c1 : (b == 120) with
      | true =>
        rw [c1] at e1 HM
        go_enter Tryd.func78, Tryd.ntmps78
        go_wp2
        go_ret
        exact ⟨unhide FIN _ (by rw [unhide HM]; rfl), rfl⟩
      | false =>
        rw [c1] at e1 HM
        cases c2 : (b == 88) with
        | true =>
          rw [c2] at e2 HM
          go_enter Tryd.func78, Tryd.ntmps78
          go_wp2
          go_ret
          exact ⟨unhide FIN _ (by rw [unhide HM]; rfl), rfl⟩
        | false =>
          rw [c2] at e2 HM
          go_enter Tryd.func78, Tryd.ntmps78
          go_wp2
          go_ret
          exact ⟨unhide FIN _ (by rw [unhide HM]; rfl), rfl⟩
  · have HM : Hid (mrk p = false) := by
      show mrk p = _
      unfold mrk
      rw [show decide (2 ≤ p.length) = false by simpa using h2]
      rfl
    have h2' : ¬ 2 ≤ (p.length : Int) := by omega
    go_enter Tryd.func78, Tryd.ntmps78
    go_wp2
    go_ret
    exact ⟨unhide FIN _ (by rw [unhide HM]), rfl⟩

set_option maxHeartbeats 1000000 in
set_option maxRecDepth 100000 in
theorem digitsOf_any (p : List UInt8) (w : World) (hp : p.length ≤ 1000000) : Calls Tryd.prog 64 #[S p] w fun e w' => e = .returned (.tuple #[S (digs p), .int .u32 (bas p : Int)]) ∧ w' = w := by
  have fin : ∀ (u : List UInt8) (z : Int), u = digs p → z = (bas p : Int) → Ending.returned (.tuple #[S u, .int .u32 z]) = .returned (.tuple #[S (digs p), .int .u32 (bas p : Int)]) := fun u z h1 h2 => by rw [h1, h2]
  have FIN := hide fin
  clear fin
  have hsz := size_S p
  have CC := hide (marked_any p w hp)
  cases hm : mrk p with
  | true =>
    rw [hm] at CC
    have hl : 2 ≤ p.length := by
      unfold mrk at hm
      simp only [Bool.and_eq_true, decide_eq_true_eq] at hm
      exact hm.1.1
    have hdr : (Instr.slice 9 (S p) (some (.int .i64 2)) none none).run Tryd.prog w = .ok (S (p.drop 2)) w := run_drop w p 2 hl
    have HD : Hid (p.drop 2 = digs p) := by show _ = digs p; unfold digs; rw [hm]; rfl
    have HB : Hid ((16 : Int) = (bas p : Int)) := by show _ = (bas p : Int); unfold bas; rw [hm]; rfl
    clear hm
    generalize p.drop 2 = u at *
    go_enter Tryd.func64, Tryd.ntmps64
    go_wp2_with fail
    refine (unhide CC).mono ?_
    rintro e w2 ⟨rfl, hw⟩
    subst hw
    clear CC
    go_wp2
    go_ret2
    exact ⟨unhide FIN _ _ (unhide HD) (unhide HB), rfl⟩
  | false =>
    rw [hm] at CC
    cases ho : oct p with
    | true =>
      have ho2 := ho
      unfold oct at ho2
      simp only [Bool.and_eq_true, decide_eq_true_eq] at ho2
      obtain ⟨hl, h48⟩ := ho2
      have i0 : (Instr.index 9 (S p) (.int .i64 0)).run Tryd.prog w = .ok (B (p.getD 0 0)) w := idx_str w p .i64 0 (by omega)
      have hdr : (Instr.slice 9 (S p) (some (.int .i64 1)) none none).run Tryd.prog w = .ok (S (p.drop 1)) w := run_drop w p 1 (by omega)
      have HD : Hid (p.drop 1 = digs p) := by show _ = digs p; unfold digs; rw [hm, ho]; rfl
      have HB : Hid ((8 : Int) = (bas p : Int)) := by show _ = (bas p : Int); unfold bas; rw [hm, ho]; rfl
      have e0 := byte_eq (p.getD 0 0) 48
      simp only [show (((48 : UInt8).toNat : Nat) : Int) = 48 from rfl] at e0
      rw [h48] at e0
      have hl2 : 1 < (p.length : Int) := by omega
      clear hm ho h48
      generalize p.getD 0 0 = a at *
      generalize p.drop 1 = u at *
      go_enter Tryd.func64, Tryd.ntmps64
      go_wp2_with fail
      refine (unhide CC).mono ?_
      rintro e w2 ⟨rfl, hw⟩
      subst hw
      clear CC
      go_wp2
      go_ret2
      exact ⟨unhide FIN _ _ (unhide HD) (unhide HB), rfl⟩
    | false =>
      have HD : Hid (p = digs p) := by show _ = digs p; unfold digs; rw [hm, ho]; rfl
      have HB : Hid ((10 : Int) = (bas p : Int)) := by show _ = (bas p : Int); unfold bas; rw [hm, ho]; rfl
      clear hm
      by_cases hl : 1 < p.length
      · have hl2 : 1 < (p.length : Int) := by omega
        have i0 : (Instr.index 9 (S p) (.int .i64 0)).run Tryd.prog w = .ok (B (p.getD 0 0)) w := idx_str w p .i64 0 (by omega)
        have h48 : (p.getD 0 0 == 48) = false := by
          unfold oct at ho
          rw [show decide (1 < p.length) = true by simpa using hl, Bool.true_and] at ho
          exact ho
        have e0 := byte_eq (p.getD 0 0) 48
        simp only [show (((48 : UInt8).toNat : Nat) : Int) = 48 from rfl] at e0
        rw [h48] at e0
        clear ho h48
        generalize p.getD 0 0 = a at *
        go_enter Tryd.func64, Tryd.ntmps64
        go_wp2_with fail
        refine (unhide CC).mono ?_
        rintro e w2 ⟨rfl, hw⟩
        subst hw
        clear CC
        go_wp2
        go_ret2
        exact ⟨unhide FIN _ _ (unhide HD) (unhide HB), rfl⟩
      · have hl2 : ¬ 1 < (p.length : Int) := by omega
        clear ho
        go_enter Tryd.func64, Tryd.ntmps64
        go_wp2_with fail
        refine (unhide CC).mono ?_
        rintro e w2 ⟨rfl, hw⟩
        subst hw
        clear CC
        go_wp2
        go_ret2
        exact ⟨unhide FIN _ _ (unhide HD) (unhide HB), rfl⟩

end Go.Proofs.YtfaobhaogenijaaDoor
