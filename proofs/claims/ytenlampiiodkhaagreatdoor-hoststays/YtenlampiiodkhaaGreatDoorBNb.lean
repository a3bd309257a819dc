/-
  I4X, Cut, I4Y, I4G, I4T, I4U, I4V, I4Z.
-/
import Derived.Test.YtenlampiiodkhaaGreatDoorBLb
import Derived.Test.YtenlampiiodkhaaGreatDoorPcsb
import Derived.BigRegion
import Derived.Laws.OwnMore
import Derived.Test.YtenlampiiodkhaaGreatDoorBMb
namespace Go.Proofs.YtenlampiiodkhaaGreatDoor
set_option linter.unusedVariables false
open Go.RowKit

end Go.Proofs.YtenlampiiodkhaaGreatDoor
namespace Go.Proofs.YtenlampiiodkhaaGreatDoor
set_option linter.unusedVariables false
open Go.RowKit

theorem cat_to (x y : List UInt8) : (⟨x.toArray⟩ : ByteArray) ++ (⟨y.toArray⟩ : ByteArray) = ⟨(x ++ y).toArray⟩ := by
  apply ByteArray.ext
  rw [ByteArray.data_append]
  simp
end Go.Proofs.YtenlampiiodkhaaGreatDoor
namespace Go.Proofs.YtenlampiiodkhaaGreatDoor
set_option linter.unusedVariables false
open Go.RowKit

end Go.Proofs.YtenlampiiodkhaaGreatDoor
namespace Go.Proofs.YtenlampiiodkhaaGreatDoor
set_option linter.unusedVariables false
open Go.RowKit

end Go.Proofs.YtenlampiiodkhaaGreatDoor
namespace Go.Proofs.YtenlampiiodkhaaGreatDoor
set_option linter.unusedVariables false
open Go.RowKit

/-- The number that is left, and the digits that are written. -/
structure Wrt (b n m : Nat) (acc : List UInt8) : Prop where
  eq : bdg b n = bdg b m ++ acc
  le : m ≤ n / 2 ^ acc.length
  pos : acc = [] ∨ 0 < m
theorem Wrt.start (b n : Nat) : Wrt b n n [] := ⟨by simp, by simp, .inl rfl⟩
theorem Wrt.len {b n m : Nat} {acc : List UInt8} (h : Wrt b n m acc) (hn : n < 18446744073709551616) : acc.length ≤ 64 := by
  rcases h.pos with h0 | h0
  · rw [h0]
    simp
  · have h1 : 1 ≤ n / 2 ^ acc.length := Nat.le_trans h0 h.le
    have h2 := (Nat.le_div_iff_mul_le (Nat.two_pow_pos acc.length)).1 h1
    rw [Nat.one_mul] at h2
    have h3 : 2 ^ acc.length < 2 ^ 64 := Nat.lt_of_le_of_lt h2 hn
    have := (Nat.pow_lt_pow_iff_right (show 1 < 2 by decide)).1 h3
    omega
theorem Wrt.next {b n m : Nat} {acc : List UInt8} (h : Wrt b n m acc) (hb : 2 ≤ b) (hm : ¬ m < b) : Wrt b n (m / b) (hexd (m % b) :: acc) := by
  refine ⟨?_, ?_, .inr (Nat.div_pos (by omega) (by omega))⟩
  · rw [h.eq, bdg_great hm hb]
    simp
  · rw [List.length_cons, Nat.pow_succ, ← Nat.div_div_eq_div_mul]
    exact Nat.le_trans (Nat.div_le_div_left hb (by decide)) (Nat.div_le_div_right h.le)
theorem Wrt.last {b n m : Nat} {acc : List UInt8} (h : Wrt b n m acc) (hb : b ≤ 16) (hm : m < b) : bdg b n = hexd (m % b) :: acc := by
  rw [h.eq, bdg_small hm hb, Nat.mod_eq_of_lt hm]
  rfl
theorem cat_one (x : UInt8) (acc : List UInt8) : (⟨[x].toArray⟩ : ByteArray) ++ (⟨acc.toArray⟩ : ByteArray) = ⟨(x :: acc).toArray⟩ := by
  apply ByteArray.ext
  rw [ByteArray.data_append]
  simp
theorem hexd_ten : ∀ d : Fin 10, (((hexd d.val).toNat : Nat) : Int) = 48 + (d.val : Int) := by decide +kernel

set_option maxHeartbeats 2000000 in
set_option maxRecDepth 100000 in
theorem ten_any (n : Nat) (w : World) (hn : n < 18446744073709551616) : Calls Tryz.prog 53 #[.int .u64 (n : Int)] w fun e w' => e = .returned (S (bdg 10 n)) ∧ Ext w w' := by
  have fin : ∀ s, s = bdg 10 n → Ending.returned (S s) = .returned (S (bdg 10 n)) := fun s h => by rw [h]
  have FIN := hide fin
  clear fin
  go_enter Tryz.func53, Tryz.ntmps53
  go_wp2_with fail
  go_loopw [0, 3] (fun x s wr => ∃ (m : Nat) (acc : List UInt8), x = .int .u64 (m : Int) ∧ s = S acc ∧ Hid (Wrt 10 n m acc) ∧ m < 18446744073709551616 ∧ Ext w wr) (fun x _ _ => (intOf x).toNat)
  case atStart => exact ⟨n, [], rfl, rfl, Wrt.start 10 n, hn, Ext.refl _⟩
  case round =>
    obtain ⟨m, acc, rfl, rfl, HW, hm, hx⟩ := hrel
    have hlen := (unhide HW).len hn
    obtain ⟨d, hd⟩ : ∃ d, d = m % 10 := ⟨_, rfl⟩
    have hd9 : d ≤ 9 := by omega
    have hrem : (m : Int) % 10 = (d : Int) := by omega
    have hdv := hexd_ten ⟨d, by omega⟩
    simp only at hdv
    have hcv : (convert 22 9 (.slice (some ⟨wr.heap.size, 0, none⟩) 1 1)).run Tryz.prog (wr.alloc (.cells #[.int .u8 (48 + (d : Int))] 5 (0, 0))) = .ok (S [hexd d]) (wr.alloc (.cells #[.int .u8 (48 + (d : Int))] 5 (0, 0))) := by
      have h := oconv_str (wr.alloc (.cells #[B (hexd d)] 5 (0, 0))) (some ⟨wr.heap.size, 0, none⟩) 1 1 [hexd d] rfl (RdV.lit wr [B (hexd d)] 5 (0, 0) (by simp))
      rw [show B (hexd d) = .int .u8 (48 + (d : Int)) by rw [← hdv]] at h
      exact h
    have hcat := cat_one (hexd d) acc
    have hl2 : ¬ 9223372036854775807 < 1 + acc.length := by omega
    have hx2 := hx.trans (Ext.alloc wr (.cells #[.int .u8 (48 + (d : Int))] 5 (0, 0)))
    by_cases hm10 : m < 10
    · have hq : (m : Int) / 10 = 0 := by omega
      have HF := hide (unhide FIN (hexd d :: acc) (by rw [(unhide HW).last (by decide) hm10, ← hd]))
      clear HW hd hdv hx FIN
      generalize hexd d :: acc = Z at *
      generalize hexd d = xd at *
      go_wp2
      go_ret
      exact ⟨unhide HF, hx2⟩
    · obtain ⟨q, hq⟩ : ∃ q, q = m / 10 := ⟨_, rfl⟩
      have hqi : (m : Int) / 10 = (q : Int) := by omega
      have hq0 : ((q : Int) == 0) = false := by simp; omega
      have hq0' : ¬ (q : Int) = 0 := by omega
      have KK : Hid ((∃ (m' : Nat) (acc' : List UInt8), Value.int .u64 (q : Int) = .int .u64 (m' : Int) ∧ S (hexd d :: acc) = S acc' ∧ Hid (Wrt 10 n m' acc') ∧ m' < 18446744073709551616 ∧ Ext w (wr.alloc (.cells #[.int .u8 (48 + (d : Int))] 5 (0, 0)))) ∧ ((q : Int)).toNat < ((m : Int)).toNat) :=
        ⟨⟨q, hexd d :: acc, rfl, rfl, by rw [hq, hd]; exact (unhide HW).next (by decide) hm10, by omega, hx2⟩, by omega⟩
      clear HW hd hdv hx FIN hq hx2
      generalize hexd d :: acc = Z at *
      generalize hexd d = xd at *
      go_wp2
      exact unhide KK
end Go.Proofs.YtenlampiiodkhaaGreatDoor
namespace Go.Proofs.YtenlampiiodkhaaGreatDoor
set_option linter.unusedVariables false
open Go.RowKit

def hexs : List UInt8 := [48, 49, 50, 51, 52, 53, 54, 55, 56, 57, 97, 98, 99, 100, 101, 102]
theorem hexs_at : ∀ d : Fin 16, (⟨hexs.toArray⟩ : ByteArray).extract d.val (d.val + 1) = ⟨[hexd d.val].toArray⟩ := by decide +kernel
theorem Ten_any (n : Nat) (w : World) (hn : n < 18446744073709551616) : Calls Tryz.prog 23 #[.int .u64 (n : Int)] w fun e w' => e = .returned (S (bdg 10 n)) ∧ Ext w w' := by
  have HC := hide (ten_any n w hn)
  generalize bdg 10 n = Z at *
  go_enter Tryz.func23, Tryz.ntmps23
  go_wp2_with fail
  refine (unhide HC).mono ?_
  rintro e w2 ⟨rfl, hx⟩
  clear HC
  go_wp2
  go_ret
  exact ⟨rfl, hx⟩

end Go.Proofs.YtenlampiiodkhaaGreatDoor
namespace Go.Proofs.YtenlampiiodkhaaGreatDoor
set_option linter.unusedVariables false
open Go.RowKit

theorem cat_two (x y : List UInt8) : (⟨x.toArray⟩ : ByteArray) ++ (⟨y.toArray⟩ : ByteArray) = ⟨(x ++ y).toArray⟩ := by
  apply ByteArray.ext
  rw [ByteArray.data_append]
  simp
theorem ten_len (n : Nat) (h : n ≤ 255) : (bdg 10 n).length ≤ 3 := by
  by_cases h1 : n < 10
  · rw [bdg_small h1 (by decide)]
    simp
  · rw [bdg_great h1 (by decide)]
    by_cases h2 : n / 10 < 10
    · rw [bdg_small h2 (by decide)]
      simp
    · rw [bdg_great h2 (by decide), bdg_small (by omega) (by decide)]
      simp
end Go.Proofs.YtenlampiiodkhaaGreatDoor
namespace Go.Proofs.YtenlampiiodkhaaGreatDoor
set_option linter.unusedVariables false
open Go.RowKit

theorem accO_lt (n : Nat) : ∀ (t : List (List UInt8)) (a i r : Nat), i + t.length + 1 ≤ n → n ≤ 4 → a < bd n i → accO a i t = some r → r < 4294967296
  | [], a, i, r, h1, h2, ha, h => by
    simp only [accO, Option.some.injEq] at h
    have := bd_max (n := n) (k := i) (by simpa using h1) h2
    omega
  | p :: t, a, i, r, h1, h2, ha, h => by
    rw [accO] at h
    cases hp : numO p 255 with
    | none =>
      rw [hp] at h
      cases h
    | some x =>
      rw [hp] at h
      simp only [Option.bind_some] at h
      simp only [List.length_cons] at h1
      exact accO_lt n t _ _ r (by omega) h2 (bd_step (by omega) h2 ha (numO_le hp)).1 h
theorem parO_lt {ps : List (List UInt8)} {r : Nat} (h1 : 1 ≤ ps.length) (h : parO ps = some r) : r < 4294967296 := by
  unfold parO at h
  split at h
  · cases h
  · rename_i h4
    cases hp : numO (ps.getLastD []) (mostL ps.length) with
    | none =>
      rw [hp] at h
      cases h
    | some a =>
      rw [hp] at h
      exact accO_lt ps.length ps.dropLast a 0 r (by rw [List.length_dropLast]; omega) (by omega) (bd_start h1 (by omega) (numO_le hp)) h
end Go.Proofs.YtenlampiiodkhaaGreatDoor
