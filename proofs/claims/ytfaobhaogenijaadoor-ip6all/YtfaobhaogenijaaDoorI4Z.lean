/-
  The document's Parse4 and Show4; that ip4 tells what the document tells.
-/
import Derived.Test.YtfaobhaogenijaaDoorI4Y
import Derived.Test.YtfaobhaogenijaaDoorI4V
namespace Go.Proofs.YtfaobhaogenijaaDoor
set_option linter.unusedVariables false
open Go.RowKit

/-- The document's sum, from the first part on. -/
def rsum (n : Nat) : Nat → Nat → List (List UInt8) → Option Nat
  | v, _, [] => some v
  | v, i, p :: t => (rnum p).bind fun x => if i + 1 = n then (if x < 256 ^ (5 - n) then rsum n (v + x) (i + 1) t else none) else (if x ≤ 255 then rsum n (v + x * 256 ^ (3 - i)) (i + 1) t else none)
theorem rnum_small (p : List UInt8) (most : Nat) (h : most < 1099511627776) : (rnum p).bind (fun x => if x ≤ most then some x else none) = numO p most := by
  unfold rnum numO
  by_cases h1 : p ≠ [] ∧ okD (bas p) (digs p) = true
  · rw [if_pos h1]
    simp only [Option.bind_some]
    by_cases h2 : val (bas p) (digs p) ≤ most
    · rw [if_pos (by omega), if_pos ⟨h1.1, h1.2, h2⟩, Nat.min_eq_left (by omega)]
    · rw [if_neg (by omega), if_neg (fun h3 => h2 h3.2.2)]
  · rw [if_neg h1, if_neg (fun h3 => h1 ⟨h3.1, h3.2.1⟩)]
    rfl
theorem rsum_mid (n v i : Nat) (p : List UInt8) (t : List (List UInt8)) (hi : i + 1 ≠ n) : rsum n v i (p :: t) = (numO p 255).bind fun x => rsum n (v + x * 256 ^ (3 - i)) (i + 1) t := by
  rw [← rnum_small p 255 (by decide), rsum]
  cases rnum p with
  | none => rfl
  | some x =>
    simp only [Option.bind_some, if_neg hi]
    by_cases hx : x ≤ 255
    · simp [hx]
    · simp [hx]
theorem rsum_end (n v i : Nat) (p : List UInt8) (hi : i + 1 = n) (hn : 1 ≤ n) : rsum n v i [p] = (numO p (mostL n)).map fun x => v + x := by
  have hm : mostL n < 1099511627776 := by
    unfold mostL
    have : 256 ^ (5 - n) ≤ 256 ^ 4 := Nat.pow_le_pow_right (by decide) (by omega)
    omega
  have hp := Nat.pow_pos (n := 5 - n) (show 0 < 256 by decide)
  rw [← rnum_small p (mostL n) hm, rsum]
  cases rnum p with
  | none => rfl
  | some x =>
    simp only [Option.bind_some, if_pos hi]
    by_cases hx : x < 256 ^ (5 - n)
    · rw [if_pos hx, if_pos (by unfold mostL; omega)]
      rfl
    · rw [if_neg hx, if_neg (by unfold mostL; omega)]
      rfl
theorem add3 (a b c : Nat) : 0 + a + b + c = c + a + b := by omega
theorem add4 (a b c d : Nat) : 0 + a + b + c + d = d + a + b + c := by omega
theorem rsum_par (ps : List (List UInt8)) (h1 : 1 ≤ ps.length) (h4 : ps.length ≤ 4) : rsum ps.length 0 0 ps = parO ps := by
  unfold parO
  rw [if_neg (by omega)]
  match ps, h1, h4 with
  | [p], _, _ =>
    show rsum 1 0 0 [p] = (numO p (mostL 1)).bind fun a => accO a 0 []
    rw [rsum_end 1 0 0 p rfl (by decide)]
    cases numO p (mostL 1) with
    | none => rfl
    | some x => simp [accO]
  | [q, p], _, _ =>
    show rsum 2 0 0 [q, p] = (numO p (mostL 2)).bind fun a => accO a 0 [q]
    rw [rsum_mid 2 0 0 q [p] (by decide)]
    cases hq : numO q 255 with
    | none =>
      cases numO p (mostL 2) with
      | none => rfl
      | some x =>
        show none = accO x 0 [q]
        rw [accO, hq]
        rfl
    | some y =>
      show rsum 2 (0 + y * 256 ^ (3 - 0)) 1 [p] = _
      rw [rsum_end 2 _ 1 p rfl (by decide)]
      cases numO p (mostL 2) with
      | none => rfl
      | some x =>
        show some (0 + y * 256 ^ (3 - 0) + x) = accO x 0 [q]
        rw [accO, hq]
        show _ = some (x + y * 256 ^ (3 - 0))
        generalize y * 256 ^ (3 - 0) = A
        congr 1
        omega
  | [q, r, p], _, _ =>
    show rsum 3 0 0 [q, r, p] = (numO p (mostL 3)).bind fun a => accO a 0 [q, r]
    rw [rsum_mid 3 0 0 q [r, p] (by decide)]
    cases hq : numO q 255 with
    | none =>
      cases numO p (mostL 3) with
      | none => rfl
      | some x =>
        show none = accO x 0 [q, r]
        rw [accO, hq]
        rfl
    | some y =>
      show rsum 3 (0 + y * 256 ^ (3 - 0)) 1 [r, p] = _
      rw [rsum_mid 3 _ 1 r [p] (by decide)]
      cases hr : numO r 255 with
      | none =>
        cases numO p (mostL 3) with
        | none => rfl
        | some x =>
          show none = accO x 0 [q, r]
          rw [accO, hq]
          show none = accO (x + y * 256 ^ (3 - 0)) 1 [r]
          rw [accO, hr]
          rfl
      | some z =>
        show rsum 3 (0 + y * 256 ^ (3 - 0) + z * 256 ^ (3 - 1)) 2 [p] = _
        rw [rsum_end 3 _ 2 p rfl (by decide)]
        cases numO p (mostL 3) with
        | none => rfl
        | some x =>
          show some (0 + y * 256 ^ (3 - 0) + z * 256 ^ (3 - 1) + x) = accO x 0 [q, r]
          rw [accO, hq]
          show _ = accO (x + y * 256 ^ (3 - 0)) 1 [r]
          rw [accO, hr]
          simp only [Option.bind_some, accO]
          exact congrArg some (add3 _ _ _)
  | [q, r, t, p], _, _ =>
    show rsum 4 0 0 [q, r, t, p] = (numO p (mostL 4)).bind fun a => accO a 0 [q, r, t]
    rw [rsum_mid 4 0 0 q [r, t, p] (by decide)]
    cases hq : numO q 255 with
    | none =>
      cases numO p (mostL 4) with
      | none => rfl
      | some x =>
        show none = accO x 0 [q, r, t]
        rw [accO, hq]
        rfl
    | some y =>
      show rsum 4 (0 + y * 256 ^ (3 - 0)) 1 [r, t, p] = _
      rw [rsum_mid 4 _ 1 r [t, p] (by decide)]
      cases hr : numO r 255 with
      | none =>
        cases numO p (mostL 4) with
        | none => rfl
        | some x =>
          show none = accO x 0 [q, r, t]
          rw [accO, hq]
          show none = accO (x + y * 256 ^ (3 - 0)) 1 [r, t]
          rw [accO, hr]
          rfl
      | some z =>
        show rsum 4 (0 + y * 256 ^ (3 - 0) + z * 256 ^ (3 - 1)) 2 [t, p] = _
        rw [rsum_mid 4 _ 2 t [p] (by decide)]
        cases ht : numO t 255 with
        | none =>
          cases numO p (mostL 4) with
          | none => rfl
          | some x =>
            show none = accO x 0 [q, r, t]
            rw [accO, hq]
            show none = accO (x + y * 256 ^ (3 - 0)) 1 [r, t]
            rw [accO, hr]
            show none = accO (x + y * 256 ^ (3 - 0) + z * 256 ^ (3 - 1)) 2 [t]
            rw [accO, ht]
            rfl
        | some u =>
          show rsum 4 (0 + y * 256 ^ (3 - 0) + z * 256 ^ (3 - 1) + u * 256 ^ (3 - 2)) 3 [p] = _
          rw [rsum_end 4 _ 3 p rfl (by decide)]
          cases numO p (mostL 4) with
          | none => rfl
          | some x =>
            show some (0 + y * 256 ^ (3 - 0) + z * 256 ^ (3 - 1) + u * 256 ^ (3 - 2) + x) = accO x 0 [q, r, t]
            rw [accO, hq]
            show _ = accO (x + y * 256 ^ (3 - 0)) 1 [r, t]
            rw [accO, hr]
            show _ = accO (x + y * 256 ^ (3 - 0) + z * 256 ^ (3 - 1)) 2 [t]
            rw [accO, ht]
            simp only [Option.bind_some, accO]
            exact congrArg some (add4 _ _ _ _)
theorem accO_lt (n : Nat) : ∀ (t : List (List UInt8)) (a i r : Nat), i + t.length + 1 ≤ n → n ≤ 4 → a < bd n i → accO a i t = some r → r < 4294967296
  | [], a, i, r, h1, h2, ha, h => by
    simp only [accO, Option.some.injEq] at h
    have := bd_max (n := n) (k := i) (by simpa using h1) h2
    omega
  | p :: t, a, i, r, h1, h2, ha, h => by
    rw [accO] at h
    cases hp : numO p 255 with
    | none =>
      rw [hp] at h
      cases h
    | some x =>
      rw [hp] at h
      simp only [Option.bind_some] at h
      simp only [List.length_cons] at h1
      exact accO_lt n t _ _ r (by omega) h2 (bd_step (by omega) h2 ha (numO_le hp)).1 h
theorem parO_lt {ps : List (List UInt8)} {r : Nat} (h1 : 1 ≤ ps.length) (h : parO ps = some r) : r < 4294967296 := by
  unfold parO at h
  split at h
  · cases h
  · rename_i h4
    cases hp : numO (ps.getLastD []) (mostL ps.length) with
    | none =>
      rw [hp] at h
      cases h
    | some a =>
      rw [hp] at h
      exact accO_lt ps.length ps.dropLast a 0 r (by rw [List.length_dropLast]; omega) (by omega) (bd_start h1 (by omega) (numO_le hp)) h
end Go.Proofs.YtfaobhaogenijaaDoor
