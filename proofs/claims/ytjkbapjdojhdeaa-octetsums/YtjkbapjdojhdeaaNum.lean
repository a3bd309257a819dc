/-
  What octet.number tells: the number that the bytes are, for at most eight of them; and octet.isNumberSize.
-/
import Derived.Test.YtjkbapjdojhdeaaBase
namespace Go.Proofs.Ytjkbapjdojhdeaa
set_option linter.unusedVariables false
open Go.RowKit

theorem ret_int {k : IntKind} {a b : Int} (h : a = b) : Ending.returned (.int k a) = .returned (.int k b) := by rw [h]

theorem or_byte (n : Nat) (x : UInt8) (h : n < 72057594037927936) : bits .or .u64 ((n : Int) * 256) (IntKind.u64.wrap (x.toNat : Int)) = ((n * 256 + x.toNat : Nat) : Int) := by
  have hx := x.toNat_lt
  rw [IntKind.wrap_u64, show ((x.toNat : Int) % 18446744073709551616) = ((x.toNat : Nat) : Int) by omega, show ((n : Int) * 256) = ((n * 256 : Nat) : Int) by omega, u64_or_nat _ _ (by omega) (by omega), nat_join 8 _ _ (by omega) (by omega)]

theorem num_step (bs : List UInt8) (k : Nat) (hlt : k < bs.length) (h8 : k < 8) :
    Value.int .u64 (bits .or .u64 ((num (bs.take k) : Int) * 256) (IntKind.u64.wrap ((bs[k]'hlt).toNat : Int))) = .int .u64 (num (bs.take (k + 1)) : Int) := by
  rw [or_byte _ _ (num_take_lt bs k h8), take_snoc bs k hlt, num_snoc]
  simp [List.getD, hlt]

set_option maxHeartbeats 400000 in
theorem number_some (b off cap : Nat) (bs : List UInt8) (w : World) (hn : bs.length ≤ 8) (hlc : bs.length ≤ cap)
    (hc : ∀ i, i < bs.length → w.cell? ⟨b, off + i, none⟩ = some (B (bs.getD i 0))) :
    Calls Try.prog 30 #[.slice (some ⟨b, off, none⟩) bs.length cap] w fun e w' => e = .returned (.int .u64 (num bs : Int)) ∧ w' = w := by
  go_enter Try.func30, Try.ntmps30
  go_wp2
  go_loop [3, 8] (fun v i => ∃ k : Nat, k ≤ bs.length ∧ i = .int .i64 k ∧ v = .int .u64 (num (bs.take k) : Int)) (fun _ i => bs.length - (intOf i).toNat)
  case atStart => exact ⟨0, Nat.zero_le _, rfl, rfl⟩
  case round =>
    obtain ⟨k, hk, rfl, rfl⟩ := hrel
    by_cases hlt : k < bs.length
    · have hcell := hc k hlt
      have hb := num_take_lt bs k (by omega)
      go_wp2
      go_round
      case rel => exact ⟨k + 1, by omega, by go_num, num_step bs k hlt (by omega)⟩
      case measure => simp [intOf]; omega
    · go_wp2
      go_ret
      exact ⟨ret_int (by rw [List.take_of_length_le (by omega)]), rfl⟩

theorem number_none (ao : Option Addr) (cap : Nat) (w : World) :
    Calls Try.prog 30 #[.slice ao 0 cap] w fun e w' => e = .returned (.int .u64 0) ∧ w' = w := by
  go_enter Try.func30, Try.ntmps30
  go_wp2
  refine wp_loop_rounds 1 ?_
  rw [rounds_succ]
  go_wp2
  go_ret
  exact ⟨rfl, rfl⟩

theorem number_any (ao : Option Addr) (n cap : Nat) (bs : List UInt8) (w : World) (hl : bs.length = n) (hn : n ≤ 8) (h : Rd w ao cap bs) :
    Calls Try.prog 30 #[.slice ao n cap] w fun e w' => e = .returned (.int .u64 (num bs : Int)) ∧ w' = w := by
  subst hl
  by_cases h0 : bs.length = 0
  · have : bs = [] := List.eq_nil_of_length_eq_zero h0
    subst this
    exact number_none ao cap w
  · obtain ⟨b, off, rfl, _⟩ := h.cell 0 (by omega)
    refine number_some b off cap bs w hn h.le fun i hi => ?_
    obtain ⟨b', off', e, hc⟩ := h.cell i hi
    simp only [Option.some.injEq, Addr.mk.injEq] at e
    obtain ⟨rfl, rfl, _⟩ := e
    exact hc

/-- Is it a size of a number? -/
theorem size_any (n : Int) (w : World) : Calls Try.prog 27 #[.int .i64 n] w fun e w' => e = .returned (.bool (decide (0 ≤ n ∧ n ≤ 8))) ∧ w' = w := by
  by_cases h : 0 ≤ n
  · by_cases h8 : n ≤ 8
    · go_enter Try.func27, Try.ntmps27
      go_wp2
      go_ret
      exact ⟨by simp [h, h8], rfl⟩
    · go_enter Try.func27, Try.ntmps27
      go_wp2
      go_ret
      exact ⟨by simp; omega, rfl⟩
  · go_enter Try.func27, Try.ntmps27
    go_wp2
    go_ret
    exact ⟨by simp; omega, rfl⟩
end Go.Proofs.Ytjkbapjdojhdeaa
