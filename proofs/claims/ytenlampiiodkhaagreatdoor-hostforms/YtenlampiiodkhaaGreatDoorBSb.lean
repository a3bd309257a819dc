/-
  PunyW, PunyL, Short.
-/
import Derived.Test.YtenlampiiodkhaaGreatDoorBPb
import Derived.Test.YtenlampiiodkhaaGreatDoorBAb
namespace Go.Proofs.YtenlampiiodkhaaGreatDoor
set_option linter.unusedVariables false
open Go.RowKit

def ints (ns : List Nat) : List Int := ns.map fun (n : Nat) => (n : Int)
/-- The document's Encode of any numbers: none is ErrArg. -/
def penI (rs : List Int) : Option (List UInt8) := if rs.all (fun r => decide (0 ≤ r)) = true then penc (rs.map Int.toNat) else none
def eS (rs : List Int) : List UInt8 := (penI rs).getD []
def eE (rs : List Int) : Int := if (penI rs).isSome then 0 else 1
def dL (s : List UInt8) : List Int := ints ((pdec s).getD [])
def dE (s : List UInt8) : Int := if (pdec s).isSome then 0 else 2

def TellsD (w : World) (s : List UInt8) (e : Ending) (w' : World) : Prop := ∃ ao cap, e = .returned (.tuple #[.slice ao (dL s).length cap, .int .i64 (dE s)]) ∧ RdV w' ao cap ((dL s).map R) ∧ Ext w w'
def DecOf (f : FuncId) : Prop := ∀ (s : List UInt8) (w : World), s.length ≤ 1000 → Calls Tryz.prog f #[S s] w (TellsD w s)

theorem ints_back (ns : List Nat) : (ints ns).map Int.toNat = ns := by
  unfold ints
  rw [List.map_map]
  conv => rhs; rw [← List.map_id ns]
  exact List.map_congr_left fun x _ => by simp
theorem ints_all (ns : List Nat) : (ints ns).all (fun r => decide (0 ≤ r)) = true := by
  rw [List.all_eq_true]
  intro x hx
  unfold ints at hx
  obtain ⟨n, _, rfl⟩ := List.mem_map.1 hx
  simp
theorem ints_fwd {rs : List Int} (h : rs.all (fun r => decide (0 ≤ r)) = true) : ints (rs.map Int.toNat) = rs := by
  unfold ints
  rw [List.map_map]
  conv => rhs; rw [← List.map_id rs]
  apply List.map_congr_left
  intro x hx
  have := List.all_eq_true.1 h x hx
  simp only [decide_eq_true_eq] at this
  simp only [Function.comp, id]
  omega
theorem penI_ints (ns : List Nat) : penI (ints ns) = penc ns := by
  unfold penI
  rw [if_pos (ints_all ns), ints_back]

/-- What is encoded is decoded as it was. -/
theorem back_of {rs : List Int} {s : List UInt8} (h : penI rs = some s) (hs : s.length ≤ 200) : pdec s = some (rs.map Int.toNat) ∧ ints (rs.map Int.toNat) = rs := by
  unfold penI at h
  split at h
  · rename_i hc
    exact ⟨pdec_penc h hs, ints_fwd hc⟩
  · simp at h

theorem pdec_range {s : List UInt8} {l : List Nat} (h : pdec s = some l) : l.length ≤ 63 := by
  unfold pdec at h
  split at h
  · simp only [Option.bind_eq_some_iff] at h
    obtain ⟨p, _, ds, _, l2, _, h3⟩ := h
    split at h3
    · simp only [Option.some.injEq] at h3
      rw [← h3]
      assumption
    · simp at h3
  · simp at h

theorem penc_cp {l : List Nat} {s : List UInt8} (h : penc l = some s) : ∀ x ∈ l, x ≤ 1114111 := by
  unfold penc at h
  split at h
  · rename_i hc
    intro x hx
    have := List.all_eq_true.1 hc.2 x hx
    unfold cp at this
    simp at this
    omega
  · simp at h

end Go.Proofs.YtenlampiiodkhaaGreatDoor
namespace Go.Proofs.YtenlampiiodkhaaGreatDoor
set_option linter.unusedVariables false
open Go.RowKit

theorem thr_int (k bias : Nat) : ((thr k bias : Nat) : Int) = min (max ((k : Int) - (bias : Int)) 1) 26 := by unfold thr; omega

theorem adLoop_more (f d k : Nat) (h : 455 < d) : adLoop (f + 1) d k = adLoop f (d / 35) (k + 36) := by rw [adLoop, if_pos h]
theorem adLoop_end (f d k : Nat) (h : ¬ 455 < d) : adLoop f d k = k + 36 * d / (d + 38) := by
  cases f with
  | zero => rfl
  | succ f => rw [adLoop, if_neg h]

theorem letter_get : ∀ k : Fin 36, ([97, 98, 99, 100, 101, 102, 103, 104, 105, 106, 107, 108, 109, 110, 111, 112, 113, 114, 115, 116, 117, 118, 119, 120, 121, 122, 48, 49, 50, 51, 52, 53, 54, 55, 56, 57] : List UInt8).getD k.val 0 = letter k.val := by decide +kernel
theorem idx_letter (w : World) (kd : IntKind) (k : Nat) (hk : k < 36) : (Instr.index 9 (.string ⟨#[97, 98, 99, 100, 101, 102, 103, 104, 105, 106, 107, 108, 109, 110, 111, 112, 113, 114, 115, 116, 117, 118, 119, 120, 121, 122, 48, 49, 50, 51, 52, 53, 54, 55, 56, 57]⟩) (.int kd (k : Int))).run Tryz.prog w = .ok (B (letter k)) w := by
  have := idx_str w [97, 98, 99, 100, 101, 102, 103, 104, 105, 106, 107, 108, 109, 110, 111, 112, 113, 114, 115, 116, 117, 118, 119, 120, 121, 122, 48, 49, 50, 51, 52, 53, 54, 55, 56, 57] kd k (by simpa using hk)
  rw [letter_get ⟨k, hk⟩] at this
  exact this

end Go.Proofs.YtenlampiiodkhaaGreatDoor
namespace Go.Proofs.YtenlampiiodkhaaGreatDoor
set_option linter.unusedVariables false
open Go.RowKit

/-- How many bytes a code point has; 0: it is none. -/
def sh (r : Int) : Nat :=
  if r < 0 ∨ 1114111 < r ∨ (55296 ≤ r ∧ r ≤ 57343) then 0 else if r < 128 then 1 else if r < 2048 then 2 else if r < 65536 then 3 else 4

end Go.Proofs.YtenlampiiodkhaaGreatDoor
