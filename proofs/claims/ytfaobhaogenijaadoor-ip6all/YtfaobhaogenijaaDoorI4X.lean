/-
  The document's own Hex and number.
-/
import Derived.Test.YtfaobhaogenijaaDoorI4B
namespace Go.Proofs.YtfaobhaogenijaaDoor
set_option linter.unusedVariables false
open Go.RowKit

/-- Hex tells -1 of what is no digit. -/
def hexI (x : UInt8) : Int := if dgV x < 16 then (dgV x : Int) else -1
set_option maxHeartbeats 1000000 in
set_option maxRecDepth 100000 in
theorem hex_any (x : UInt8) (w : World) : Calls Tryd.prog 22 #[B x] w fun e w' => e = .returned (.int .i64 (hexI x)) ∧ w' = w := by
  have fin : ∀ z : Int, z = hexI x → Ending.returned (.int .i64 z) = .returned (.int .i64 (hexI x)) := fun z h => by rw [h]
  have FIN := hide fin
  clear fin
  have hx := x.toNat_lt
  have h := dgV_at x
  unfold hexI at FIN ⊢
  obtain ⟨d, hd⟩ : ∃ d, d = dgV x := ⟨_, rfl⟩
  rw [← hd] at h FIN ⊢
  clear hd
  obtain ⟨n, hn⟩ : ∃ n : Int, n = (x.toNat : Int) := ⟨_, rfl⟩
  show Calls Tryd.prog 22 #[.int .u8 (x.toNat : Int)] w _
  rw [← hn]
  rcases h with ⟨a1, a2⟩ | ⟨a1, a2, a3⟩ | ⟨a1, a2, a3⟩ | ⟨a1, a2, a3⟩ | ⟨a1, a2, a3⟩ | ⟨a1, a2, a3⟩ | ⟨a1, a2⟩
  · have b1 : n < 48 := by omega
    have b2 : 0 ≤ n := by omega
    have HD : Hid ((-1 : Int) = if d < 16 then (d : Int) else -1) := by show _ = _; rw [if_neg (by omega)]
    clear a1 a2 hn hx
    generalize (if d < 16 then (d : Int) else -1) = r at *
    go_enter Tryd.func22, Tryd.ntmps22
    go_wp2
    go_ret
    exact ⟨unhide FIN _ (unhide HD), rfl⟩
  · have b1 : 48 ≤ n := by omega
    have b2 : n ≤ 57 := by omega
    have HD : Hid (n - 48 = if d < 16 then (d : Int) else -1) := by show _ = _; rw [if_pos (by omega)]; omega
    clear a1 a2 a3 hn hx
    generalize (if d < 16 then (d : Int) else -1) = r at *
    go_enter Tryd.func22, Tryd.ntmps22
    go_wp2
    go_ret
    exact ⟨unhide FIN _ (unhide HD), rfl⟩
  · have b1 : 57 < n := by omega
    have b2 : n < 65 := by omega
    have HD : Hid ((-1 : Int) = if d < 16 then (d : Int) else -1) := by show _ = _; rw [if_neg (by omega)]
    clear a1 a2 a3 hn hx
    generalize (if d < 16 then (d : Int) else -1) = r at *
    go_enter Tryd.func22, Tryd.ntmps22
    go_wp2
    go_ret
    exact ⟨unhide FIN _ (unhide HD), rfl⟩
  · have b1 : 65 ≤ n := by omega
    have b2 : n ≤ 70 := by omega
    have HD : Hid (n - 65 + 10 = if d < 16 then (d : Int) else -1) := by show _ = _; rw [if_pos (by omega)]; omega
    clear a1 a2 a3 hn hx
    generalize (if d < 16 then (d : Int) else -1) = r at *
    go_enter Tryd.func22, Tryd.ntmps22
    go_wp2
    go_ret
    exact ⟨unhide FIN _ (unhide HD), rfl⟩
  · have b1 : 70 < n := by omega
    have b2 : n < 97 := by omega
    have HD : Hid ((-1 : Int) = if d < 16 then (d : Int) else -1) := by show _ = _; rw [if_neg (by omega)]
    clear a1 a2 a3 hn hx
    generalize (if d < 16 then (d : Int) else -1) = r at *
    go_enter Tryd.func22, Tryd.ntmps22
    go_wp2
    go_ret
    exact ⟨unhide FIN _ (unhide HD), rfl⟩
  · have b1 : 97 ≤ n := by omega
    have b2 : n ≤ 102 := by omega
    have HD : Hid (n - 97 + 10 = if d < 16 then (d : Int) else -1) := by show _ = _; rw [if_pos (by omega)]; omega
    clear a1 a2 a3 hn hx
    generalize (if d < 16 then (d : Int) else -1) = r at *
    go_enter Tryd.func22, Tryd.ntmps22
    go_wp2
    go_ret
    exact ⟨unhide FIN _ (unhide HD), rfl⟩
  · have b1 : 102 < n := by omega
    have b2 : n < 256 := by omega
    have HD : Hid ((-1 : Int) = if d < 16 then (d : Int) else -1) := by show _ = _; rw [if_neg (by omega)]
    clear a1 a2 hn hx
    generalize (if d < 16 then (d : Int) else -1) = r at *
    go_enter Tryd.func22, Tryd.ntmps22
    go_wp2
    go_ret
    exact ⟨unhide FIN _ (unhide HD), rfl⟩

/-- The document's number: greater ones than 2^40 are 2^40. -/
def rnum (p : List UInt8) : Option Nat := if p ≠ [] ∧ okD (bas p) (digs p) = true then some (min (val (bas p) (digs p)) 1099511627776) else none
theorem min_step (b v d : Nat) (hb : 1 ≤ b) : min (min v 1099511627776 * b + d) 1099511627776 = min (v * b + d) 1099511627776 := by
  by_cases h : v ≤ 1099511627776
  · rw [Nat.min_eq_left h]
  · have h1 : v * 1 ≤ v * b := Nat.mul_le_mul_left v hb
    have h2 : 1099511627776 * 1 ≤ 1099511627776 * b := Nat.mul_le_mul_left _ hb
    have e1 : min v 1099511627776 = 1099511627776 := Nat.min_eq_right (by omega)
    have e2 : min (1099511627776 * b + d) 1099511627776 = 1099511627776 := Nat.min_eq_right (by omega)
    have e3 : min (v * b + d) 1099511627776 = 1099511627776 := Nat.min_eq_right (by omega)
    rw [e1, e2, e3]
theorem rnum_bad {p : List UInt8} (h : okD (bas p) (digs p) = false) : rnum p = none := by
  unfold rnum
  rw [if_neg]
  rintro ⟨_, h2⟩
  rw [h] at h2
  cases h2
theorem rnum_yes {p : List UInt8} (h0 : p ≠ []) (h1 : okD (bas p) (digs p) = true) : rnum p = some (min (val (bas p) (digs p)) 1099511627776) := by
  unfold rnum
  rw [if_pos ⟨h0, h1⟩]

end Go.Proofs.YtfaobhaogenijaaDoor
