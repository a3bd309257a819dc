/-
  The walks of the laws of puny, over what Encode and Decode of package puny tell (PEnc, PDec), and the document's own (REnc, RDec).
-/
import Derived.Test.YtenlampiiodkhaaGreatDoorMPu
import Derived.Test.YtenlampiiodkhaaGreatDoorStr
import Derived.Test.YtenlampiiodkhaaGreatDoorSame
namespace Go.Proofs.YtenlampiiodkhaaGreatDoor
set_option linter.unusedVariables false
open Go.RowKit

def ints (ns : List Nat) : List Int := ns.map fun (n : Nat) => (n : Int)
/-- The document's Encode of any numbers: none is ErrArg. -/
def penI (rs : List Int) : Option (List UInt8) := if rs.all (fun r => decide (0 ≤ r)) = true then penc (rs.map Int.toNat) else none
def eS (rs : List Int) : List UInt8 := (penI rs).getD []
def eE (rs : List Int) : Int := if (penI rs).isSome then 0 else 1
def dL (s : List UInt8) : List Int := ints ((pdec s).getD [])
def dE (s : List UInt8) : Int := if (pdec s).isSome then 0 else 2

def TellsE (w : World) (rs : List Int) (e : Ending) (w' : World) : Prop := e = .returned (.tuple #[S (eS rs), .int .i64 (eE rs)]) ∧ Ext w w'
def TellsD (w : World) (s : List UInt8) (e : Ending) (w' : World) : Prop := ∃ ao cap, e = .returned (.tuple #[.slice ao (dL s).length cap, .int .i64 (dE s)]) ∧ RdV w' ao cap ((dL s).map R) ∧ Ext w w'
def EncOf (f : FuncId) : Prop := ∀ (ao : Option Addr) (l cap : Nat) (rs : List Int) (w : World), rs.length = l → l ≤ 1000 → (∀ r ∈ rs, -2147483648 ≤ r ∧ r ≤ 2147483647) → RdV w ao cap (rs.map R) → Calls Tryz.prog f #[.slice ao l cap] w (TellsE w rs)
def DecOf (f : FuncId) : Prop := ∀ (s : List UInt8) (w : World), s.length ≤ 1000 → Calls Tryz.prog f #[S s] w (TellsD w s)

theorem ints_back (ns : List Nat) : (ints ns).map Int.toNat = ns := by
  unfold ints
  rw [List.map_map]
  conv => rhs; rw [← List.map_id ns]
  exact List.map_congr_left fun x _ => by simp
theorem ints_all (ns : List Nat) : (ints ns).all (fun r => decide (0 ≤ r)) = true := by
  rw [List.all_eq_true]
  intro x hx
  unfold ints at hx
  obtain ⟨n, _, rfl⟩ := List.mem_map.1 hx
  simp
theorem ints_fwd {rs : List Int} (h : rs.all (fun r => decide (0 ≤ r)) = true) : ints (rs.map Int.toNat) = rs := by
  unfold ints
  rw [List.map_map]
  conv => rhs; rw [← List.map_id rs]
  apply List.map_congr_left
  intro x hx
  have := List.all_eq_true.1 h x hx
  simp only [decide_eq_true_eq] at this
  simp only [Function.comp, id]
  omega
theorem penI_ints (ns : List Nat) : penI (ints ns) = penc ns := by
  unfold penI
  rw [if_pos (ints_all ns), ints_back]

/-- What is encoded is decoded as it was. -/
theorem back_of {rs : List Int} {s : List UInt8} (h : penI rs = some s) (hs : s.length ≤ 200) : pdec s = some (rs.map Int.toNat) ∧ ints (rs.map Int.toNat) = rs := by
  unfold penI at h
  split at h
  · rename_i hc
    exact ⟨pdec_penc h hs, ints_fwd hc⟩
  · simp at h

theorem pdec_range {s : List UInt8} {l : List Nat} (h : pdec s = some l) : l.length ≤ 63 := by
  unfold pdec at h
  split at h
  · simp only [Option.bind_eq_some_iff] at h
    obtain ⟨p, _, ds, _, l2, _, h3⟩ := h
    split at h3
    · simp only [Option.some.injEq] at h3
      rw [← h3]
      assumption
    · simp at h3
  · simp at h

theorem penc_cp {l : List Nat} {s : List UInt8} (h : penc l = some s) : ∀ x ∈ l, x ≤ 1114111 := by
  unfold penc at h
  split at h
  · rename_i hc
    intro x hx
    have := List.all_eq_true.1 hc.2 x hx
    unfold cp at this
    simp at this
    omega
  · simp at h

theorem enc_b : penc [98, 252, 99, 104, 101, 114] = some [98, 99, 104, 101, 114, 45, 107, 118, 97] := by decide +kernel
theorem dec_b : pdec [98, 99, 104, 101, 114, 45, 107, 118, 97] = some [98, 252, 99, 104, 101, 114] := by decide +kernel

end Go.Proofs.YtenlampiiodkhaaGreatDoor
