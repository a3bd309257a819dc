/-
  What the document's own Valid and Decode tell.
-/
import Derived.Test.YtilmkmplaehcaaaDoorUtfA
namespace Go.Proofs.YtilmkmplaehcaaaDoor
set_option linter.unusedVariables false
open Go.RowKit

theorem at_rd (ao : Option Addr) (l cap : Nat) (bs : List UInt8) (w : World) (hl : bs.length = l) (h0 : 0 < l) (hm : l ≤ 1000000) (h : RdV w ao cap (bs.map B)) :
    Calls Tryd.prog 33 #[.slice ao l cap] w fun e w' => e = .returned (.tuple #[.int .i32 (atR bs : Int), .int .i64 (atN bs : Int)]) ∧ Ext w w' := by
  subst hl
  have hle := h.le
  obtain ⟨b, off, rfl, hc⟩ := h.cells (by simpa using h0)
  obtain ⟨b', off', e, hlt⟩ := h.lt (by simpa using h0)
  simp only [Option.some.injEq, Addr.mk.injEq] at e
  obtain ⟨rfl, rfl, _⟩ := e
  exact at_some b off cap bs w (by simpa using hle) h.max h0 hm hlt fun i hi => by rw [hc i (by simpa using hi), getB bs i hi]

theorem at_none' {bs : List UInt8} (h : at1 bs = none) : atR bs = 65533 ∧ atN bs = 0 := by unfold atR atN; rw [h]; exact ⟨rfl, rfl⟩
theorem at_some' {bs : List UInt8} {r n : Nat} (h : at1 bs = some (r, n)) : atR bs = r ∧ atN bs = n := by unfold atR atN; rw [h]; exact ⟨rfl, rfl⟩

/-- What one round of the document's Decode takes: x, of m bytes. -/
theorem rdec_step (rest : List UInt8) (h0 : 0 < rest.length) : ∃ m : Nat, 1 ≤ m ∧ m ≤ rest.length ∧ (atR rest : Int) :: dec (rest.drop m) = dec rest ∧ ((atN rest = 0 ∧ m = 1) ∨ atN rest = m) := by
  cases ha : at1 rest with
  | none => exact ⟨1, by omega, by omega, by rw [(at_none' ha).1]; exact (dec_none ha (by intro e; rw [e] at h0; simp at h0)).symm, .inl ⟨(at_none' ha).2, rfl⟩⟩
  | some p =>
    obtain ⟨r, m⟩ := p
    obtain ⟨_, _, m1, _, m2, _⟩ := at1_len ha
    exact ⟨m, m1, m2, by rw [(at_some' ha).1]; exact (dec_some ha).symm, .inr (at_some' ha).2⟩

set_option maxHeartbeats 1000000 in
set_option maxRecDepth 100000 in
theorem rdecode_own (ao : Option Addr) (l cap : Nat) (bs : List UInt8) (w : World) (hl : bs.length = l) (hm : l ≤ 1000000) (h : RdV w ao cap (bs.map B)) :
    Calls Tryd.prog 25 #[.slice ao l cap] w fun e w' => ∃ v, e = .returned v ∧ w'.ownsRow w.heap.size 21 1 v (dec bs).length ((dec bs).map R) ∧ Below w.heap.size w w' := by
  subst hl
  go_enter Tryd.func25, Tryd.ntmps25
  go_wp2
  go_loopw [0, 3] (fun v o wr => ∃ (a : Option Addr) (c : Nat) (rest : List UInt8) (out : List Int), v = .slice a rest.length c ∧ RdV w a c (rest.map B) ∧ out ++ dec rest = dec bs ∧ out.length + rest.length ≤ bs.length ∧ wr.ownsRow w.heap.size 21 1 o out.length (out.map R) ∧ Below w.heap.size w wr) (fun v _ _ => sliceLen v)
  case atStart => exact ⟨ao, cap, bs, [], rfl, h, rfl, by simp, World.ownsRow_nil _ _ _ _, Below.refl _ _⟩
  case round =>
    obtain ⟨a, c, rest, out, rfl, hr, hv, hlen, own, hbr⟩ := hrel
    have HV := hide hv
    clear hv h
    by_cases h0 : 0 < rest.length
    · have HF := hide (at_rd a _ c rest _ rfl h0 (by omega) (hr.below hbr))
      have hle := hr.le
      have hmx := hr.max
      simp only [List.length_map] at hle
      go_wp2_with fail
      refine (unhide HF).mono ?_
      rintro e wz ⟨rfl, hxz⟩
      clear HF
      have own1 := owns_below own hxz
      have hb1 : Below w.heap.size w wz := hbr.trans (Below.mono hxz hbr.size)
      clear own hbr hxz
      obtain ⟨m, m1, m2, hdec, hcase⟩ := rdec_step rest h0
      have HD := hide hdec
      clear hdec
      generalize (atR rest : Int) = x at *
      have ownd := owns_below own1 (Ext.drew wz)
      have own2 := owns_below ownd (Ext.alloc wz.drew (.cells #[R x] 21 (0, 0)))
      have hb2 : Below w.heap.size w (wz.drew.alloc (.cells #[R x] 21 (0, 0))) := (hb1.drew).alloc hb1.size _
      have hbase := hb2.size
      have key : ∀ v' w', w'.ownsRow w.heap.size 21 1 v' (out.length + 1) (out.map R ++ [R x]) → Below w.heap.size (wz.drew.alloc (.cells #[R x] 21 (0, 0))) w' →
          (∃ (a' : Option Addr) (c' : Nat) (rest' : List UInt8) (out' : List Int), Value.slice (if c = m then a else a.map (·.add m)) (rest.length - m) (c - m) = .slice a' rest'.length c' ∧ RdV w a' c' (rest'.map B) ∧ out' ++ dec rest' = dec bs ∧ out'.length + rest'.length ≤ bs.length ∧ w'.ownsRow w.heap.size 21 1 v' out'.length (out'.map R) ∧ Below w.heap.size w w') ∧ rest.length - m < rest.length := by
        intro v' w' o' b'
        refine ⟨⟨(if c = m then a else a.map (·.add m)), c - m, rest.drop m, out ++ [x], by simp, ?_, ?_, by simp; omega, by simpa using o', hb2.trans b'⟩, by omega⟩
        · have := hr.drop m (by omega)
          rwa [← List.map_drop] at this
        · rw [List.append_assoc, ← unhide HV, ← unhide HD]
          rfl
      have KEY := hide key
      clear key hb2 own1 hb1 hr HV HD ownd
      rcases hcase with ⟨e2, rfl⟩ | e2
      · rw [e2]
        have i1 : (1 : Int) ≤ (rest.length : Int) := by omega
        have i2 : (rest.length : Int) ≤ (c : Int) := by omega
        go_wp2_with fail
        go_region_law (
          (refine step_app rfl (.tmp 14) (.tmp 16) 51 21 (.int .i32 0) 4 Tryd.underlying51 uinfoR rfl rfl w.heap.size _ out.length (out.map R) ?_ own2 ⟨wz.heap.size, 0, none⟩ 1 1 [R x] ?_ rfl ?_ ?_ ?_ hbase ?_
           · simp [Act.eval, Act.put]
           · simp [Act.eval, Act.put]
           · exact RdV.lit wz.drew _ _ _ (show 1 ≤ 9223372036854775807 by omega)
           · simp [R, Value.oneCell']
           · omega
           intro v2 w2 own3 hb3))
        all_goals go_wp2
        all_goals
          obtain ⟨⟨a', c', rest', out', he, hR, ho, hl', own', hb'⟩, hlt'⟩ := unhide KEY v2 w2 own3 hb3
          refine ⟨⟨a', c', rest', by simpa [*, Addr.add] using he, hR, out', ho, hl', own', hb'⟩, by simp only [sliceLen]; omega⟩
      · rw [e2]
        clear e2
        have i1 : (m : Int) ≤ (rest.length : Int) := by omega
        have i2 : (rest.length : Int) ≤ (c : Int) := by omega
        have i3 : ¬ ((m : Int) < 1) := by omega
        have i4 : (0 : Int) ≤ (m : Int) := by omega
        have i5 : (if (m : Int) < 1 then (1 : Int) else (m : Int)) = (m : Int) := by rw [if_neg i3]
        go_wp2_with fail
        go_region_law (
          (refine step_app rfl (.tmp 14) (.tmp 16) 51 21 (.int .i32 0) 4 Tryd.underlying51 uinfoR rfl rfl w.heap.size _ out.length (out.map R) ?_ own2 ⟨wz.heap.size, 0, none⟩ 1 1 [R x] ?_ rfl ?_ ?_ ?_ hbase ?_
           · simp [Act.eval, Act.put]
           · simp [Act.eval, Act.put]
           · exact RdV.lit wz.drew _ _ _ (show 1 ≤ 9223372036854775807 by omega)
           · simp [R, Value.oneCell']
           · omega
           intro v2 w2 own3 hb3))
        all_goals go_wp2
        all_goals
          obtain ⟨⟨a', c', rest', out', he, hR, ho, hl', own', hb'⟩, hlt'⟩ := unhide KEY v2 w2 own3 hb3
          refine ⟨⟨a', c', rest', by simpa [*, Addr.add] using he, hR, out', ho, hl', own', hb'⟩, by simp only [sliceLen]; omega⟩
    · have e : rest = [] := List.eq_nil_of_length_eq_zero (by omega)
      subst e
      have hb := unhide HV
      go_wp2
      go_ret
      rw [← hb]
      exact ⟨_, rfl, by simpa [dec_nil] using own, hbr⟩

/-- The code points of bytes, in new memory. -/
theorem rdecode_any (ao : Option Addr) (l cap : Nat) (bs : List UInt8) (w : World) (hl : bs.length = l) (hm : l ≤ 1000000) (h : RdV w ao cap (bs.map B)) :
    Calls Tryd.prog 25 #[.slice ao l cap] w (Gives w ((dec bs).map R)) :=
  (rdecode_own ao l cap bs w hl hm h).mono fun e w' ⟨v, he, h1, h2⟩ => by subst he; exact gives_of_owned h1 h2
end Go.Proofs.YtilmkmplaehcaaaDoor
