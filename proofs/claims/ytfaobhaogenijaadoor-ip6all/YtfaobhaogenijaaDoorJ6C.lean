/-
  Of the document's own side: has.
-/
import Derived.Test.YtfaobhaogenijaaDoorJ6A
namespace Go.Proofs.YtfaobhaogenijaaDoor
set_option linter.unusedVariables false
open Go.RowKit

set_option maxHeartbeats 1000000 in
theorem rhas_any (s : List UInt8) (c : UInt8) (w : World) (hs : s.length ≤ 1000000) : Calls Tryd.prog 20 #[S s, B c] w fun e w' => e = .returned (.bool (s.contains c)) ∧ w' = w := by
  have fin : ∀ b : Bool, b = s.contains c → Ending.returned (.bool b) = .returned (.bool (s.contains c)) := fun b h => by rw [h]
  have FIN := hide fin
  clear fin
  have hsz := size_S s
  have HIX := hide (fun (v : World) (k : Nat) (hk : k < s.length) => idx_str v s .i64 k hk)
  go_enter Tryd.func20, Tryd.ntmps20
  go_wp2_with fail
  go_loopw [5] (fun i wr => ∃ k : Nat, k ≤ s.length ∧ i = .int .i64 k ∧ Hid (∀ b ∈ s.take k, b ≠ c) ∧ wr = w) (fun i _ => s.length - (intOf i).toNat)
  case atStart => exact ⟨0, by omega, rfl, hide (by simp), rfl⟩
  case round =>
    obtain ⟨k, hk, rfl, HOK, hw⟩ := hrel
    subst hw
    by_cases hkl : k < s.length
    · have hx0 := unhide HIX wr k hkl
      have HT := hide (take_snoc s k 0 hkl)
      have HMM := hide (show s.getD k 0 ∈ s by simp [List.getD, hkl])
      generalize s.getD k 0 = x at *
      by_cases hx : x = c
      · have e1 : ((x.toNat : Int) == (c.toNat : Int)) = true := by rw [hx]; simp
        have HF : Hid (true = s.contains c) := by
          show true = s.contains c
          symm
          rw [List.contains_iff_mem]
          rw [← hx]
          exact unhide HMM
        clear hx HOK HT HMM
        go_wp2
        go_ret
        exact ⟨unhide FIN _ (unhide HF), rfl⟩
      · have e1 : ((x.toNat : Int) == (c.toNat : Int)) = false := by
          rw [beq_eq_false_iff_ne]
          intro h
          exact hx (UInt8.toNat_inj.1 (by omega))
        have HOK2 : Hid (∀ b ∈ s.take (k + 1), b ≠ c) := by
          show ∀ b ∈ s.take (k + 1), b ≠ c
          rw [unhide HT]
          intro b hb
          rcases List.mem_append.1 hb with hb | hb
          · exact unhide HOK b hb
          · rw [List.mem_singleton] at hb
            rw [hb]
            exact hx
        clear hx HOK HT HMM
        go_wp2
        exact ⟨⟨k + 1, by omega, by simp, HOK2, by first | rfl | trivial⟩, (show s.length - ((k : Int) + 1).toNat < s.length - ((k : Int)).toNat by omega)⟩
    · have hok := unhide HOK
      rw [List.take_of_length_le (by omega)] at hok
      have HF : Hid (false = s.contains c) := by
        show false = s.contains c
        symm
        rw [Bool.eq_false_iff]
        intro ha
        exact hok c (List.contains_iff_mem.1 ha) rfl
      clear hok HOK
      go_wp2
      go_ret
      exact ⟨unhide FIN _ (unhide HF), rfl⟩

end Go.Proofs.YtfaobhaogenijaaDoor
