/-
  Numbers in digits, as the document and the statements write them.
-/
import Derived.Test.YtmohdhffoilndaaDoorI4E
namespace Go.Proofs.YtmohdhffoilndaaDoor
set_option linter.unusedVariables false
open Go.RowKit

/-- The number that is left, and the digits that are written. -/
structure Wrt (b n m : Nat) (acc : List UInt8) : Prop where
  eq : bdg b n = bdg b m ++ acc
  le : m ≤ n / 2 ^ acc.length
  pos : acc = [] ∨ 0 < m
theorem Wrt.start (b n : Nat) : Wrt b n n [] := ⟨by simp, by simp, .inl rfl⟩
theorem Wrt.len {b n m : Nat} {acc : List UInt8} (h : Wrt b n m acc) (hn : n < 18446744073709551616) : acc.length ≤ 64 := by
  rcases h.pos with h0 | h0
  · rw [h0]
    simp
  · have h1 : 1 ≤ n / 2 ^ acc.length := Nat.le_trans h0 h.le
    have h2 := (Nat.le_div_iff_mul_le (Nat.two_pow_pos acc.length)).1 h1
    rw [Nat.one_mul] at h2
    have h3 : 2 ^ acc.length < 2 ^ 64 := Nat.lt_of_le_of_lt h2 hn
    have := (Nat.pow_lt_pow_iff_right (show 1 < 2 by decide)).1 h3
    omega
theorem Wrt.next {b n m : Nat} {acc : List UInt8} (h : Wrt b n m acc) (hb : 2 ≤ b) (hm : ¬ m < b) : Wrt b n (m / b) (hexd (m % b) :: acc) := by
  refine ⟨?_, ?_, .inr (Nat.div_pos (by omega) (by omega))⟩
  · rw [h.eq, bdg_great hm hb]
    simp
  · rw [List.length_cons, Nat.pow_succ, ← Nat.div_div_eq_div_mul]
    exact Nat.le_trans (Nat.div_le_div_left hb (by decide)) (Nat.div_le_div_right h.le)
theorem Wrt.last {b n m : Nat} {acc : List UInt8} (h : Wrt b n m acc) (hb : b ≤ 16) (hm : m < b) : bdg b n = hexd (m % b) :: acc := by
  rw [h.eq, bdg_small hm hb, Nat.mod_eq_of_lt hm]
  rfl
theorem cat_one (x : UInt8) (acc : List UInt8) : (⟨[x].toArray⟩ : ByteArray) ++ (⟨acc.toArray⟩ : ByteArray) = ⟨(x :: acc).toArray⟩ := by
  apply ByteArray.ext
  rw [ByteArray.data_append]
  simp
theorem hexd_ten : ∀ d : Fin 10, (((hexd d.val).toNat : Nat) : Int) = 48 + (d.val : Int) := by decide +kernel

set_option maxHeartbeats 2000000 in
set_option maxRecDepth 100000 in
theorem ten_any (n : Nat) (w : World) (hn : n < 18446744073709551616) : Calls Tryd.prog 21 #[.int .u64 (n : Int)] w fun e w' => e = .returned (S (bdg 10 n)) ∧ Ext w w' := by
  have fin : ∀ s, s = bdg 10 n → Ending.returned (S s) = .returned (S (bdg 10 n)) := fun s h => by rw [h]
  have FIN := hide fin
  clear fin
  go_enter Tryd.func21, Tryd.ntmps21
  go_wp2_with fail
  go_loopw [0, 3] (fun x s wr => ∃ (m : Nat) (acc : List UInt8), x = .int .u64 (m : Int) ∧ s = S acc ∧ Hid (Wrt 10 n m acc) ∧ m < 18446744073709551616 ∧ Ext w wr) (fun x _ _ => (intOf x).toNat)
  case atStart => exact ⟨n, [], rfl, rfl, Wrt.start 10 n, hn, Ext.refl _⟩
  case round =>
    obtain ⟨m, acc, rfl, rfl, HW, hm, hx⟩ := hrel
    have hlen := (unhide HW).len hn
    obtain ⟨d, hd⟩ : ∃ d, d = m % 10 := ⟨_, rfl⟩
    have hd9 : d ≤ 9 := by omega
    have hrem : (m : Int) % 10 = (d : Int) := by omega
    have hdv := hexd_ten ⟨d, by omega⟩
    simp only at hdv
    have hcv : (convert 30 9 (.slice (some ⟨wr.heap.size, 0, none⟩) 1 1)).run Tryd.prog (wr.alloc (.cells #[.int .u8 (48 + (d : Int))] 5 (0, 0))) = .ok (S [hexd d]) (wr.alloc (.cells #[.int .u8 (48 + (d : Int))] 5 (0, 0))) := by
      have h := oconv_str (wr.alloc (.cells #[B (hexd d)] 5 (0, 0))) (some ⟨wr.heap.size, 0, none⟩) 1 1 [hexd d] rfl (RdV.lit wr [B (hexd d)] 5 (0, 0) (by simp))
      rw [show B (hexd d) = .int .u8 (48 + (d : Int)) by rw [← hdv]] at h
      exact h
    have hcat := cat_one (hexd d) acc
    have hl2 : ¬ 9223372036854775807 < 1 + acc.length := by omega
    have hx2 := hx.trans (Ext.alloc wr (.cells #[.int .u8 (48 + (d : Int))] 5 (0, 0)))
    by_cases hm10 : m < 10
    · have hq : (m : Int) / 10 = 0 := by omega
      have HF := hide (unhide FIN (hexd d :: acc) (by rw [(unhide HW).last (by decide) hm10, ← hd]))
      clear HW hd hdv hx FIN
      generalize hexd d :: acc = Z at *
      generalize hexd d = xd at *
      go_wp2
      go_ret
      exact ⟨unhide HF, hx2⟩
    · obtain ⟨q, hq⟩ : ∃ q, q = m / 10 := ⟨_, rfl⟩
      have hqi : (m : Int) / 10 = (q : Int) := by omega
      have hq0 : ((q : Int) == 0) = false := by simp; omega
      have hq0' : ¬ (q : Int) = 0 := by omega
      have KK : Hid ((∃ (m' : Nat) (acc' : List UInt8), Value.int .u64 (q : Int) = .int .u64 (m' : Int) ∧ S (hexd d :: acc) = S acc' ∧ Hid (Wrt 10 n m' acc') ∧ m' < 18446744073709551616 ∧ Ext w (wr.alloc (.cells #[.int .u8 (48 + (d : Int))] 5 (0, 0)))) ∧ ((q : Int)).toNat < ((m : Int)).toNat) :=
        ⟨⟨q, hexd d :: acc, rfl, rfl, by rw [hq, hd]; exact (unhide HW).next (by decide) hm10, by omega, hx2⟩, by omega⟩
      clear HW hd hdv hx FIN hq hx2
      generalize hexd d :: acc = Z at *
      generalize hexd d = xd at *
      go_wp2
      exact unhide KK
end Go.Proofs.YtmohdhffoilndaaDoor
