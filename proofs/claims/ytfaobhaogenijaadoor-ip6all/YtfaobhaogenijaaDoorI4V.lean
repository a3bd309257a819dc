/-
  The address is its four numbers.
-/
import Derived.Test.YtfaobhaogenijaaDoorI4G
import Derived.Test.YtfaobhaogenijaaDoorI4U
namespace Go.Proofs.YtfaobhaogenijaaDoor
set_option linter.unusedVariables false
open Go.RowKit

theorem cat_two (x y : List UInt8) : (⟨x.toArray⟩ : ByteArray) ++ (⟨y.toArray⟩ : ByteArray) = ⟨(x ++ y).toArray⟩ := by
  apply ByteArray.ext
  rw [ByteArray.data_append]
  simp
theorem or_low (k x y : Nat) (hy : y < 2 ^ k) (hx : 2 ^ k * x + y < 4294967296) : bits .or .u32 ((2 ^ k * x : Nat) : Int) (y : Int) = ((2 ^ k * x + y : Nat) : Int) := by
  rw [u32_or_nat _ _ (by omega) (by omega), ← Nat.two_pow_add_eq_or_of_lt hy]
theorem ors (a b c d : Nat) (ha : a ≤ 255) (hb : b ≤ 255) (hc : c ≤ 255) (hd : d ≤ 255) : ∃ n1 n2 : Int, bits .or .u32 ((a : Int) * 16777216) ((b : Int) * 65536) = n1 ∧ bits .or .u32 n1 ((c : Int) * 256) = n2 ∧ bits .or .u32 n2 (d : Int) = ((a * 16777216 + b * 65536 + c * 256 + d : Nat) : Int) := by
  have h1 := or_low 24 a (b * 65536) (by omega) (by omega)
  have h2 := or_low 16 (a * 256 + b) (c * 256) (by omega) (by omega)
  have h3 := or_low 8 (a * 65536 + b * 256 + c) d (by omega) (by omega)
  refine ⟨((2 ^ 24 * a + b * 65536 : Nat) : Int), ((2 ^ 16 * (a * 256 + b) + c * 256 : Nat) : Int), ?_, ?_, ?_⟩
  · rw [← h1]
    congr 1
    · omega
  · rw [← h2]
    congr 1
    · omega
  · rw [show ((a * 16777216 + b * 65536 + c * 256 + d : Nat) : Int) = ((2 ^ 8 * (a * 65536 + b * 256 + c) + d : Nat) : Int) by omega, ← h3]
    congr 1
    omega
theorem ten_len (n : Nat) (h : n ≤ 255) : (bdg 10 n).length ≤ 3 := by
  by_cases h1 : n < 10
  · rw [bdg_small h1 (by decide)]
    simp
  · rw [bdg_great h1 (by decide)]
    by_cases h2 : n / 10 < 10
    · rw [bdg_small h2 (by decide)]
      simp
    · rw [bdg_great h2 (by decide), bdg_small (by omega) (by decide)]
      simp
theorem shw_four (a b c d : Nat) (ha : a ≤ 255) (hb : b ≤ 255) (hc : c ≤ 255) (hd : d ≤ 255) : shw (a * 16777216 + b * 65536 + c * 256 + d) = jn [bdg 10 a, bdg 10 b, bdg 10 c, bdg 10 d] := by
  rw [shw_jn, show (a * 16777216 + b * 65536 + c * 256 + d) / 16777216 = a by omega, show (a * 16777216 + b * 65536 + c * 256 + d) / 65536 % 256 = b by omega, show (a * 16777216 + b * 65536 + c * 256 + d) / 256 % 256 = c by omega, show (a * 16777216 + b * 65536 + c * 256 + d) % 256 = d by omega]
theorem prs_five (a b c d : Nat) : prs (jn [bdg 10 a, bdg 10 b, bdg 10 c, bdg 10 d] ++ [46, 48]) = none := by
  have e : jn [bdg 10 a, bdg 10 b, bdg 10 c, bdg 10 d] ++ [46, 48] = jn [bdg 10 a, bdg 10 b, bdg 10 c, bdg 10 d, [48]] := by simp [jn]
  rw [e, (prs_jn _ (by simp) ?_).1]
  · rfl
  · intro p hp
    rw [show [bdg 10 a, bdg 10 b, bdg 10 c, bdg 10 d, [48]] = [bdg 10 a, bdg 10 b, bdg 10 c, bdg 10 d] ++ [[48]] from rfl] at hp
    rcases List.mem_append.1 hp with hp | hp
    · exact nod4 a b c d p hp
    · rw [List.mem_singleton] at hp
      subst hp
      exact ⟨by decide, by decide⟩
theorem prs_256 (b c : Nat) (hc : c ≤ 255) : prs (jn [[50, 53, 54], bdg 10 b, bdg 10 c]) = none := by
  rw [(prs_jn _ (by simp) ?_).1]
  · unfold parO
    rw [if_neg (by simp)]
    show (numO (bdg 10 c) (mostL 3)).bind (fun x => accO x 0 [[50, 53, 54], bdg 10 b]) = none
    cases numO (bdg 10 c) (mostL 3) with
    | none => rfl
    | some x =>
      show accO x 0 [[50, 53, 54], bdg 10 b] = none
      rw [accO, show numO [50, 53, 54] 255 = none by decide +kernel]
      rfl
  · intro p hp
    simp only [List.mem_cons, List.not_mem_nil, or_false] at hp
    rcases hp with rfl | rfl | rfl
    · exact ⟨by decide, by decide⟩
    · exact nod_bdg 10 (by decide) (by decide) _
    · exact nod_bdg 10 (by decide) (by decide) _

end Go.Proofs.YtfaobhaogenijaaDoor
