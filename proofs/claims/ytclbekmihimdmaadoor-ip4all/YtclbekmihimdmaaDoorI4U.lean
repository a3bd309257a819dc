/-
  Numbers in eights and sixteens, as the statements write them; Ten.
-/
import Derived.Test.YtclbekmihimdmaaDoorI4T
namespace Go.Proofs.YtclbekmihimdmaaDoor
set_option linter.unusedVariables false
open Go.RowKit

def hexs : List UInt8 := [48, 49, 50, 51, 52, 53, 54, 55, 56, 57, 97, 98, 99, 100, 101, 102]
theorem hexs_at : ∀ d : Fin 16, (⟨hexs.toArray⟩ : ByteArray).extract d.val (d.val + 1) = ⟨[hexd d.val].toArray⟩ := by decide +kernel
theorem hex_slice (d : Nat) (hd : d < 16) (v : World) : (Instr.slice 9 (.string ⟨#[48, 49, 50, 51, 52, 53, 54, 55, 56, 57, 97, 98, 99, 100, 101, 102]⟩) (some (.int .u64 (d : Int))) (some (.int .u64 ((d : Int) + 1))) none).run Tryd.prog v = .ok (S [hexd d]) v := by
  have h := run_slice_string v 9 ⟨hexs.toArray⟩ .u64 .u64 (d : Int) ((d : Int) + 1) Tryd.underlying9 (by omega) (by omega) (by show (d : Int) + 1 ≤ 16; omega)
  rw [show ((d : Int)).toNat = d by omega, show ((d : Int) + 1).toNat = d + 1 by omega, hexs_at ⟨d, hd⟩] at h
  exact h

theorem Ten_any (n : Nat) (w : World) (hn : n < 18446744073709551616) : Calls Tryd.prog 15 #[.int .u64 (n : Int)] w fun e w' => e = .returned (S (bdg 10 n)) ∧ Ext w w' := by
  have HC := hide (ten_any n w hn)
  generalize bdg 10 n = Z at *
  go_enter Tryd.func15, Tryd.ntmps15
  go_wp2_with fail
  refine (unhide HC).mono ?_
  rintro e w2 ⟨rfl, hx⟩
  clear HC
  go_wp2
  go_ret
  exact ⟨rfl, hx⟩

set_option maxHeartbeats 2000000 in
set_option maxRecDepth 100000 in
theorem base_any (n b : Nat) (f : List UInt8) (w : World) (hn : n < 18446744073709551616) (hb : 2 ≤ b) (hb2 : b ≤ 16) (hf : f.length ≤ 100) : Calls Tryd.prog 16 #[.int .u64 (n : Int), .int .u64 (b : Int), S f] w fun e w' => e = .returned (S (f ++ bdg b n)) ∧ Ext w w' := by
  have fin : ∀ s, s = bdg b n → Ending.returned (S (f ++ s)) = .returned (S (f ++ bdg b n)) := fun s h => by rw [h]
  have FIN := hide fin
  clear fin
  have hfs := size_S f
  go_enter Tryd.func16, Tryd.ntmps16
  go_wp2_with fail
  go_loopw [0, 7] (fun x s wr => ∃ (m : Nat) (acc : List UInt8), x = .int .u64 (m : Int) ∧ s = S acc ∧ Hid (Wrt b n m acc) ∧ m < 18446744073709551616 ∧ Ext w wr) (fun x _ _ => (intOf x).toNat)
  case atStart => exact ⟨n, [], rfl, rfl, Wrt.start b n, hn, Ext.refl _⟩
  case round =>
    obtain ⟨m, acc, rfl, rfl, HW, hm, hx⟩ := hrel
    have hlen := (unhide HW).len hn
    obtain ⟨d, hd⟩ : ∃ d, d = m % b := ⟨_, rfl⟩
    have hd16 : d < b := by rw [hd]; exact Nat.mod_lt _ (by omega)
    have hrem : (m : Int) % (b : Int) = (d : Int) := by rw [hd]; exact (Int.natCast_emod m b).symm
    have hsl := fun v => hex_slice d (by omega) v
    have hcat := cat_one (hexd d) acc
    have hl2 : ¬ 9223372036854775807 < 1 + acc.length := by omega
    have hb0 : ¬ (b : Int) = 0 := by omega
    by_cases hmb : m < b
    · have hq : (m : Int) / (b : Int) = 0 := by
        have h := Int.natCast_ediv m b
        rw [Nat.div_eq_of_lt hmb] at h
        exact h.symm
      have HF := hide (unhide FIN (hexd d :: acc) (by rw [(unhide HW).last hb2 hmb, ← hd]))
      have hcat2 : (⟨f.toArray⟩ : ByteArray) ++ (⟨(hexd d :: acc).toArray⟩ : ByteArray) = ⟨(f ++ hexd d :: acc).toArray⟩ := by
        apply ByteArray.ext
        rw [ByteArray.data_append]
        simp
      have hl3 : ¬ 9223372036854775807 < f.length + (hexd d :: acc).length := by simp; omega
      clear HW hd FIN
      generalize f ++ hexd d :: acc = Y at *
      generalize hexd d :: acc = Z at *
      generalize hexd d = xd at *
      go_wp2_with fail
      go_quiet (fail)
      go_wp2
      go_ret
      exact ⟨unhide HF, hx.trans (Ext.drewN _ _)⟩
    · obtain ⟨q, hq⟩ : ∃ q, q = m / b := ⟨_, rfl⟩
      have hqi : (m : Int) / (b : Int) = (q : Int) := by rw [hq]; exact (Int.natCast_ediv m b).symm
      have hq1 : 0 < q := by rw [hq]; exact Nat.div_pos (by omega) (by omega)
      have hqm : q < m := by rw [hq]; exact Nat.div_lt_self (by omega) (by omega)
      have hq0 : ((q : Int) == 0) = false := by simp; omega
      have hq0' : ¬ (q : Int) = 0 := by omega
      have KK : Hid (∀ nq, (∃ (m' : Nat) (acc' : List UInt8), Value.int .u64 (q : Int) = .int .u64 (m' : Int) ∧ S (hexd d :: acc) = S acc' ∧ Hid (Wrt b n m' acc') ∧ m' < 18446744073709551616 ∧ Ext w (wr.drewN nq)) ∧ ((q : Int)).toNat < ((m : Int)).toNat) := fun nq =>
        ⟨⟨q, hexd d :: acc, rfl, rfl, by rw [hq, hd]; exact (unhide HW).next hb hmb, by omega, hx.trans (Ext.drewN _ _)⟩, by omega⟩
      clear HW hd FIN hq
      generalize hexd d :: acc = Z at *
      generalize hexd d = xd at *
      go_wp2_with fail
      go_quiet (fail)
      go_wp2
      exact unhide KK _
end Go.Proofs.YtclbekmihimdmaaDoor
