/-
  The walks of the laws of puny, over what Encode and Decode of package puny tell (PEnc, PDec), and the document's own (REnc, RDec).
-/
import Derived.Test.YtpjlihohpggnlaaPunyB
import Derived.Test.YtpjlihohpggnlaaStr
import Derived.Test.YtpjlihohpggnlaaSame
namespace Go.Proofs.Ytpjlihohpggnlaa
set_option linter.unusedVariables false
open Go.RowKit

def ints (ns : List Nat) : List Int := ns.map fun (n : Nat) => (n : Int)
/-- The document's Encode of any numbers: none is ErrArg. -/
def penI (rs : List Int) : Option (List UInt8) := if rs.all (fun r => decide (0 ≤ r)) = true then penc (rs.map Int.toNat) else none
def eS (rs : List Int) : List UInt8 := (penI rs).getD []
def eE (rs : List Int) : Int := if (penI rs).isSome then 0 else 1
def dL (s : List UInt8) : List Int := ints ((pdec s).getD [])
def dE (s : List UInt8) : Int := if (pdec s).isSome then 0 else 2

def TellsE (w : World) (rs : List Int) (e : Ending) (w' : World) : Prop := e = .returned (.tuple #[S (eS rs), .int .i64 (eE rs)]) ∧ Ext w w'
def TellsD (w : World) (s : List UInt8) (e : Ending) (w' : World) : Prop := ∃ ao cap, e = .returned (.tuple #[.slice ao (dL s).length cap, .int .i64 (dE s)]) ∧ RdV w' ao cap ((dL s).map R) ∧ Ext w w'
def EncOf (f : FuncId) : Prop := ∀ (ao : Option Addr) (l cap : Nat) (rs : List Int) (w : World), rs.length = l → l ≤ 1000 → (∀ r ∈ rs, -2147483648 ≤ r ∧ r ≤ 2147483647) → RdV w ao cap (rs.map R) → Calls Try.prog f #[.slice ao l cap] w (TellsE w rs)
def DecOf (f : FuncId) : Prop := ∀ (s : List UInt8) (w : World), s.length ≤ 1000 → Calls Try.prog f #[S s] w (TellsD w s)

theorem ints_back (ns : List Nat) : (ints ns).map Int.toNat = ns := by
  unfold ints
  rw [List.map_map]
  conv => rhs; rw [← List.map_id ns]
  exact List.map_congr_left fun x _ => by simp
theorem ints_all (ns : List Nat) : (ints ns).all (fun r => decide (0 ≤ r)) = true := by
  rw [List.all_eq_true]
  intro x hx
  unfold ints at hx
  obtain ⟨n, _, rfl⟩ := List.mem_map.1 hx
  simp
theorem ints_fwd {rs : List Int} (h : rs.all (fun r => decide (0 ≤ r)) = true) : ints (rs.map Int.toNat) = rs := by
  unfold ints
  rw [List.map_map]
  conv => rhs; rw [← List.map_id rs]
  apply List.map_congr_left
  intro x hx
  have := List.all_eq_true.1 h x hx
  simp only [decide_eq_true_eq] at this
  simp only [Function.comp, id]
  omega
theorem penI_ints (ns : List Nat) : penI (ints ns) = penc ns := by
  unfold penI
  rw [if_pos (ints_all ns), ints_back]

/-- What is encoded is decoded as it was. -/
theorem back_of {rs : List Int} {s : List UInt8} (h : penI rs = some s) (hs : s.length ≤ 200) : pdec s = some (rs.map Int.toNat) ∧ ints (rs.map Int.toNat) = rs := by
  unfold penI at h
  split at h
  · rename_i hc
    exact ⟨pdec_penc h hs, ints_fwd hc⟩
  · simp at h

theorem pdec_range {s : List UInt8} {l : List Nat} (h : pdec s = some l) : l.length ≤ 63 := by
  unfold pdec at h
  split at h
  · simp only [Option.bind_eq_some_iff] at h
    obtain ⟨p, _, ds, _, l2, _, h3⟩ := h
    split at h3
    · simp only [Option.some.injEq] at h3
      rw [← h3]
      assumption
    · simp at h3
  · simp at h

theorem penc_cp {l : List Nat} {s : List UInt8} (h : penc l = some s) : ∀ x ∈ l, x ≤ 1114111 := by
  unfold penc at h
  split at h
  · rename_i hc
    intro x hx
    have := List.all_eq_true.1 hc.2 x hx
    unfold cp at this
    simp at this
    omega
  · simp at h

theorem enc_b : penc [98, 252, 99, 104, 101, 114] = some [98, 99, 104, 101, 114, 45, 107, 118, 97] := by decide +kernel
theorem dec_b : pdec [98, 99, 104, 101, 114, 45, 107, 118, 97] = some [98, 252, 99, 104, 101, 114] := by decide +kernel

set_option maxHeartbeats 800000 in
theorem begun_yes (PE : EncOf 9) (PD : DecOf 11) (w : World) : Calls Try.prog 8 #[] w fun e w' => e = .returned (.bool true) ∧ Ext w w' := by
  have R1 : RdV (w.alloc (.cells #[.int .i32 98, .int .i32 252, .int .i32 99, .int .i32 104, .int .i32 101, .int .i32 114] 21)) (some ⟨w.heap.size, 0, none⟩) 6 (([98, 252, 99, 104, 101, 114] : List Int).map R) := RdV.lit w (([98, 252, 99, 104, 101, 114] : List Int).map R) 21 (0, 0) (show 6 ≤ 9223372036854775807 by omega)
  have HE := hide (PE _ 6 6 [98, 252, 99, 104, 101, 114] _ rfl (by omega) (by decide) R1)
  have e1 : eS [98, 252, 99, 104, 101, 114] = [98, 99, 104, 101, 114, 45, 107, 118, 97] ∧ eE [98, 252, 99, 104, 101, 114] = 0 := by
    have := penI_ints [98, 252, 99, 104, 101, 114]
    rw [enc_b] at this
    have h2 : penI [98, 252, 99, 104, 101, 114] = some [98, 99, 104, 101, 114, 45, 107, 118, 97] := this
    unfold eS eE
    rw [h2]
    exact ⟨rfl, rfl⟩
  unfold TellsE at HE
  rw [e1.1, e1.2] at HE
  have HD := hide (fun w => PD [98, 99, 104, 101, 114, 45, 107, 118, 97] w (by simp))
  unfold TellsD at HD
  have e2 : dL [98, 99, 104, 101, 114, 45, 107, 118, 97] = [98, 252, 99, 104, 101, 114] ∧ dE [98, 99, 104, 101, 114, 45, 107, 118, 97] = 0 := by
    unfold dL dE
    rw [dec_b]
    exact ⟨rfl, rfl⟩
  rw [e2.1, e2.2] at HD
  clear PE PD R1 e1 e2
  go_enter Try.func8, Try.ntmps8
  go_wp2_with fail
  refine (unhide HE).mono ?_
  rintro e w1 ⟨rfl, hx1⟩
  have hx1 := (Ext.alloc w _).trans hx1
  clear HE
  go_wp2_with fail
  refine (unhide HD _).mono ?_
  rintro e w2 ⟨ao, cap, rfl, hr2, hx2⟩
  have hx2 := hx1.trans hx2
  clear HD hx1
  have hle := hr2.le
  have hmx := hr2.max
  obtain ⟨b, off, rfl, hc⟩ := hr2.cells (by simp)
  have c1 : w2.cell? ⟨b, off + 1, none⟩ = some (.int .i32 252) := by simpa using hc 1 (by simp)
  simp only [List.length_map, List.length_cons, List.length_nil] at hle
  clear hc hr2
  go_wp2
  go_ret
  exact ⟨by simp, hx2⟩

set_option maxHeartbeats 400000 in
theorem encodes_walk (PE : EncOf 9) (PD : DecOf 11) (RE : EncOf 10) (ao : Option Addr) (l cap : Nat) (rs : List Int) (w : World) (hl : rs.length = l) (hr : ∀ r ∈ rs, -2147483648 ≤ r ∧ r ≤ 2147483647) (h : RdV w ao cap (rs.map R)) :
    Calls Try.prog 3 #[.slice ao l cap] w fun e w' => e = .returned (.bool true) ∧ Below w.heap.size w w' := by
  have HB := hide (begun_yes PE PD)
  have HE := hide PE
  have HR := hide RE
  clear PE PD RE
  go_enter Try.func3, Try.ntmps3
  go_wp2_with fail
  refine (unhide HB _).mono ?_
  rintro e w1 ⟨rfl, hx1⟩
  clear HB
  by_cases g1 : 70 < l
  · go_wp2
    go_ret
    exact ⟨rfl, hx1⟩
  · have h1 := h.below hx1
    go_wp2_with fail
    refine (unhide HE ao l cap rs w1 hl (by omega) hr h1).mono ?_
    rintro e w2 ⟨rfl, hx2⟩
    have h2 := h1.below hx2
    have hx2 := hx1.trans hx2
    go_wp2_with fail
    refine (unhide HR ao l cap rs w2 hl (by omega) hr h2).mono ?_
    rintro e w3 ⟨rfl, hx3⟩
    have hx3 := hx2.trans hx3
    clear HE HR h1 h2 hx1 hx2
    generalize eS rs = s
    generalize eE rs = k
    go_wp2
    go_ret
    exact ⟨by simp, hx3⟩

set_option maxHeartbeats 400000 in
theorem decodes_walk (PE : EncOf 9) (PD : DecOf 11) (RD : DecOf 12) (s : List UInt8) (w : World) :
    Calls Try.prog 4 #[S s] w fun e w' => e = .returned (.bool true) ∧ Below w.heap.size w w' := by
  have HB := hide (begun_yes PE PD)
  have HD := hide PD
  have HR := hide RD
  clear PE PD RD
  have hsz := size_S s
  go_enter Try.func4, Try.ntmps4
  go_wp2_with fail
  refine (unhide HB _).mono ?_
  rintro e w1 ⟨rfl, hx1⟩
  clear HB
  by_cases g1 : 210 < s.length
  · go_wp2
    go_ret
    exact ⟨rfl, hx1⟩
  · go_wp2_with fail
    refine (unhide HD s w1 (by omega)).mono ?_
    rintro e w2 ⟨a2, c2, rfl, hr2, hx2⟩
    have hx2 := hx1.trans hx2
    go_wp2_with fail
    refine (unhide HR s w2 (by omega)).mono ?_
    rintro e w3 ⟨a3, c3, rfl, hr3, hx3⟩
    have hr2 := hr2.below hx3
    have hx3 := hx2.trans hx3
    clear HD HR hx1 hx2
    generalize dL s = l at *
    generalize dE s = k at *
    go_wp2_with fail
    refine (same_any a2 a3 _ c2 c3 l w3 rfl hr2 hr3).mono ?_
    rintro e w4 ⟨rfl, hx4⟩
    have hx4 := hx3.trans hx4
    go_wp2
    go_ret
    exact ⟨by simp, hx4⟩

set_option maxHeartbeats 400000 in
theorem back_walk (PE : EncOf 9) (PD : DecOf 11) (ao : Option Addr) (l cap : Nat) (rs : List Int) (w : World) (hl : rs.length = l) (hr : ∀ r ∈ rs, -2147483648 ≤ r ∧ r ≤ 2147483647) (h : RdV w ao cap (rs.map R)) :
    Calls Try.prog 5 #[.slice ao l cap] w fun e w' => e = .returned (.bool true) ∧ Below w.heap.size w w' := by
  have HB := hide (begun_yes PE PD)
  have HE := hide PE
  have HD := hide PD
  clear PE PD
  go_enter Try.func5, Try.ntmps5
  go_wp2_with fail
  refine (unhide HB _).mono ?_
  rintro e w1 ⟨rfl, hx1⟩
  clear HB
  by_cases g1 : 30 < l
  · go_wp2
    go_ret
    exact ⟨rfl, hx1⟩
  · have h1 := h.below hx1
    go_wp2_with fail
    refine (unhide HE ao l cap rs w1 hl (by omega) hr h1).mono ?_
    rintro e w2 ⟨rfl, hx2⟩
    have h2 := h1.below hx2
    have hx2 := hx1.trans hx2
    clear HE h1 hx1
    cases hp : penI rs with
    | none =>
      have e1 : eS rs = [] ∧ eE rs = 1 := by unfold eS eE; rw [hp]; exact ⟨rfl, rfl⟩
      rw [e1.1, e1.2]
      clear e1
      go_wp2
      go_ret
      exact ⟨by simp, hx2⟩
    | some s =>
      have e1 : eS rs = s ∧ eE rs = 0 := by unfold eS eE; rw [hp]; exact ⟨rfl, rfl⟩
      rw [e1.1, e1.2]
      clear e1
      have hsz := size_S s
      by_cases g2 : 200 < s.length
      · go_wp2
        go_ret
        exact ⟨rfl, hx2⟩
      · obtain ⟨b1, b2⟩ := back_of hp (by omega)
        have HX := hide (unhide HD s w2 (by omega))
        have e2 : dL s = rs ∧ dE s = 0 := by unfold dL dE; rw [b1]; exact ⟨b2, rfl⟩
        unfold TellsD at HX
        rw [e2.1, e2.2] at HX
        clear e2 b1 b2 HD hp
        go_wp2_with fail
        refine (unhide HX).mono ?_
        rintro e w3 ⟨a3, c3, rfl, hr3, hx3⟩
        have h3 := h2.below hx3
        have hx3 := hx2.trans hx3
        clear HX h2 hx2
        rw [hl]
        go_wp2_with fail
        refine (same_any a3 ao l c3 cap rs w3 hl hr3 h3).mono ?_
        rintro e w4 ⟨rfl, hx4⟩
        have hx4 := hx3.trans hx4
        go_wp2
        go_ret
        exact ⟨by simp, hx4⟩
end Go.Proofs.Ytpjlihohpggnlaa
