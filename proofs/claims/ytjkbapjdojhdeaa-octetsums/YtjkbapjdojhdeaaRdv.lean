/-
  The contracts of octet once more, each answer written as a slice that reads as its bytes; and what string(b) is.
-/
import Derived.Test.YtjkbapjdojhdeaaUnf
import Derived.Lib.SlBytesConst
namespace Go.Proofs.Ytjkbapjdojhdeaa
set_option linter.unusedVariables false
open Go.RowKit

theorem Rd.of_owned {w : World} {base n : Nat} {v : Value} {bs : List UInt8} (h : w.ownsRow base 5 1 v n (bs.map B)) : ∃ ao cap, v = .slice ao n cap ∧ Rd w ao cap bs ∧ bs.length = n := by
  have hl := append_some_own h
  subst hl
  obtain ⟨ao, cap, e, hr⟩ := Rd.owned h
  exact ⟨ao, cap, e, hr, rfl⟩

theorem conv_str (w : World) (ao : Option Addr) (n cap : Nat) (bs : List UInt8) (hl : bs.length = n) (h : Rd w ao cap bs) :
    (convert 22 9 (.slice ao n cap)).run Try.prog w = .ok (.string ⟨bs.toArray⟩) w := by
  subst hl
  cases ao with
  | none =>
    have h0 := h.nil rfl
    have hle := h.le
    have hy : bs = [] := List.eq_nil_of_length_eq_zero (by omega)
    subst hy
    rw [run_convert_bytes_string w 22 9 5 none _ cap Try.underlying22 Try.underlying5 Try.underlying9]
    simp [Conv.bytesToString, Sem.run_pure]
    rfl
  | some a =>
    refine run_convert_bytes_back w 22 9 5 a cap bs Try.underlying22 Try.underlying5 Try.underlying9 fun j hj => ?_
    have := h.news a rfl j (B bs[j]) (by simp [hj])
    exact this

/-- An answer of bytes: new memory that reads as them; what was there stays. -/
def Gives (w : World) (bs : List UInt8) (n : Nat) (e : Ending) (w' : World) : Prop :=
  ∃ ao cap, e = .returned (.slice ao n cap) ∧ Rd w' ao cap bs ∧ bs.length = n ∧ Below w.heap.size w w'

theorem put_rd (ao : Option Addr) (l cap : Nat) (v : Nat) (n : Int) (bs : List UInt8) (w : World) (hl : bs.length = l) (h : Rd w ao cap bs) (hm : l ≤ 140737488350000) :
    Calls Try.prog 11 #[.slice ao l cap, .int .u64 (v : Int), .int .i64 n] w (Gives w (bs ++ be (psz n) v) (l + psz n)) :=
  (put_any ao l cap v n bs w hl h hm).mono fun e w' hh => by
    obtain ⟨v', rfl, ho, hb⟩ := hh
    obtain ⟨a, c, rfl, hr, hn⟩ := Rd.of_owned ho
    exact ⟨a, c, rfl, hr, hn, hb⟩

theorem putBytes_rd (ao so : Option Addr) (l cap m scap : Nat) (bs ss : List UInt8) (w : World) (hl : bs.length = l) (h : Rd w ao cap bs) (hsl : ss.length = m) (hs : Rd w so scap ss) (hm : l + m ≤ 140737488350000) :
    Calls Try.prog 18 #[.slice ao l cap, .slice so m scap] w (Gives w (bs ++ be 4 m ++ ss) (l + 4 + m)) :=
  (putBytes_any ao so l cap m scap bs ss w hl h hsl hs hm).mono fun e w' hh => by
    obtain ⟨v', rfl, ho, hb⟩ := hh
    obtain ⟨a, c, rfl, hr, hn⟩ := Rd.of_owned ho
    exact ⟨a, c, rfl, hr, hn, hb⟩

theorem frame_rd (ao : Option Addr) (l cap : Nat) (bs : List UInt8) (w : World) (hl : bs.length = l) (h : Rd w ao cap bs) (hm : l ≤ 140737488350000) :
    Calls Try.prog 24 #[.slice ao l cap] w (Gives w (fr bs) (8 + l)) :=
  (frame_any ao l cap bs w hl h hm).mono fun e w' hh => by
    obtain ⟨v', rfl, ho, hb⟩ := hh
    obtain ⟨a, c, rfl, hr, hn⟩ := Rd.of_owned ho
    exact ⟨a, c, rfl, hr, hn, hb⟩

/-- What a reading of bytes tells: how many, which, and how it went. -/
structure Tells where
  bytes : List UInt8
  read : Nat
  err : Nat

def GivesT (w : World) (t : Tells) (e : Ending) (w' : World) : Prop :=
  ∃ ao cap, e = .returned (.tuple #[.slice ao t.bytes.length cap, .int .i64 (t.read : Int), .int .i64 (t.err : Int)]) ∧ Rd w' ao cap t.bytes ∧ Below w.heap.size w w'

/-- What TakeBytes tells. -/
def tkb (bs : List UInt8) : Tells :=
  if bs.length < 4 ∨ bs.length - 4 < num (bs.take 4) then ⟨[], 0, 3⟩ else ⟨(bs.drop 4).take (num (bs.take 4)), 4 + num (bs.take 4), 0⟩

/-- What Unframe tells. -/
def unf (bs : List UInt8) : Tells :=
  if bs.length < 8 ∨ bs.length - 8 < num (bs.take 4) then ⟨[], 0, 3⟩
  else if num ((bs.drop 4).take 4) = crc (bdy bs) then ⟨bdy bs, 8 + num (bs.take 4), 0⟩ else ⟨[], 0, 2⟩

theorem takeBytes_rd (ao : Option Addr) (l cap : Nat) (bs : List UInt8) (w : World) (hl : bs.length = l) (h : Rd w ao cap bs) (hm : l ≤ 140737488350000) :
    Calls Try.prog 16 #[.slice ao l cap] w (GivesT w (tkb bs)) := by
  subst hl
  unfold tkb
  by_cases hs : bs.length < 4 ∨ bs.length - 4 < num (bs.take 4)
  · rw [if_pos hs]
    exact (takeBytes_short ao _ cap bs w rfl h hm hs).mono fun e w' hh => ⟨none, 0, by rw [hh.1]; rfl, Rd.nothing _, hh.2⟩
  · rw [if_neg hs]
    refine (takeBytes_ok ao _ cap bs w rfl h hm (by omega) (by omega)).mono fun e w' hh => ?_
    obtain ⟨v', rfl, ho, hb⟩ := hh
    obtain ⟨a, c, rfl, hr, hn⟩ := Rd.of_owned ho
    exact ⟨a, c, by simp only [hn]; congr 4, hr, hb⟩

theorem unframe_rd (ao : Option Addr) (l cap : Nat) (bs : List UInt8) (w : World) (hl : bs.length = l) (h : Rd w ao cap bs) (hm : l ≤ 140737488350000) :
    Calls Try.prog 20 #[.slice ao l cap] w (GivesT w (unf bs)) := by
  subst hl
  unfold unf
  by_cases hs : bs.length < 8 ∨ bs.length - 8 < num (bs.take 4)
  · rw [if_pos hs]
    exact (unframe_short ao _ cap bs w rfl h hm hs).mono fun e w' hh => ⟨none, 0, by rw [hh.1]; rfl, Rd.nothing _, hh.2⟩
  · rw [if_neg hs]
    by_cases hc : num ((bs.drop 4).take 4) = crc (bdy bs)
    · rw [if_pos hc]
      refine (unframe_ok ao _ cap bs w rfl h hm (by omega) (by omega) hc).mono fun e w' hh => ?_
      obtain ⟨v', rfl, ho, hb⟩ := hh
      obtain ⟨a, c, rfl, hr, hn⟩ := Rd.of_owned ho
      exact ⟨a, c, by simp only [hn]; congr 4, hr, hb⟩
    · rw [if_neg hc]
      exact (unframe_form ao _ cap bs w rfl h hm (by omega) (by omega) hc).mono fun e w' hh => ⟨none, 0, by rw [hh.1]; rfl, Rd.nothing _, hh.2⟩

/-- A block of bytes that a literal has laid. -/
theorem Rd.lit (w : World) (bs : List UInt8) (fz : Nat × Nat) (hm : bs.length ≤ 9223372036854775807) : Rd (w.alloc (.cells (bs.map B).toArray 5 fz)) (some ⟨w.heap.size, 0, none⟩) bs.length bs :=
  ⟨Nat.le_refl _, hm, fun e => (by cases e), fun i hi => ⟨w.heap.size, 0, rfl, by rw [Nat.zero_add, World.cell?_alloc_mark]; simp [List.getD, hi]⟩⟩

end Go.Proofs.Ytjkbapjdojhdeaa
