/-
  What Valid and Decode of package utf tell of any bytes.
-/
import Derived.Test.YtilmkmplaehcaaaDoorU4
namespace Go.Proofs.YtilmkmplaehcaaaDoor
set_option linter.unusedVariables false
open Go.RowKit

def sliceLen : Value → Nat
  | .slice _ n _ => n
  | _ => 0

theorem first_rd (ao : Option Addr) (l cap : Nat) (bs : List UInt8) (w : World) (hl : bs.length = l) (h0 : 0 < l) (h : RdV w ao cap (bs.map B)) :
    Calls Tryd.prog 52 #[.slice ao l cap] w (Tells w (fst bs) (snd bs)) := by
  subst hl
  obtain ⟨b, off, rfl, hc⟩ := h.cells (by simpa using h0)
  have := h.le
  exact first_any b off cap bs w h0 (by simpa using this) h.max fun i hi => by rw [hc i (by simpa using hi), getB bs i hi]

theorem RdV.drewN {w : World} {ao : Option Addr} {cap : Nat} {vs : List Value} (h : RdV w ao cap vs) (n : Nat) : RdV (w.drewN n) ao cap vs := h.below (Ext.drewN w n)

theorem drewN_drewN (w : World) (m n : Nat) : ∃ k, (w.drewN m).drewN n = w.drewN k := ⟨m + n, by simp⟩

/-- What one round of Decode takes: x, of m bytes. -/
theorem dec_step (rest : List UInt8) (h0 : 0 < rest.length) : ∃ (x : Int) (m : Nat), 1 ≤ m ∧ m ≤ rest.length ∧ x :: dec (rest.drop m) = dec rest ∧ ((snd rest = 0 ∧ x = 65533 ∧ m = 1) ∨ (snd rest = m ∧ (fst rest : Int) = x)) := by
  cases ha : at1 rest with
  | none => exact ⟨65533, 1, by omega, by omega, (dec_none ha (by intro e; rw [e] at h0; simp at h0)).symm, .inl ⟨(fst_none ha).2, rfl, rfl⟩⟩
  | some p =>
    obtain ⟨r, m⟩ := p
    obtain ⟨_, _, m1, _, m2, _⟩ := at1_len ha
    exact ⟨(r : Int), m, m1, m2, (dec_some ha).symm, .inr ⟨(fst_some ha).2, by rw [(fst_some ha).1]⟩⟩

set_option maxHeartbeats 400000 in
set_option maxRecDepth 100000 in
theorem decode_own (ao : Option Addr) (l cap : Nat) (bs : List UInt8) (w : World) (hl : bs.length = l) (hm : l ≤ 1000000) (h : RdV w ao cap (bs.map B)) :
    Calls Tryd.prog 38 #[.slice ao l cap] w fun e w' => ∃ v, e = .returned v ∧ w'.ownsRow w.heap.size 21 1 v (dec bs).length ((dec bs).map R) ∧ Below w.heap.size w w' := by
  subst hl
  go_enter Tryd.func38, Tryd.ntmps38
  go_wp2
  go_loopw [0, 3] (fun v o wr => ∃ (a : Option Addr) (c : Nat) (rest : List UInt8) (out : List Int), v = .slice a rest.length c ∧ RdV w a c (rest.map B) ∧ out ++ dec rest = dec bs ∧ out.length + rest.length ≤ bs.length ∧ wr.ownsRow w.heap.size 21 1 o out.length (out.map R) ∧ Below w.heap.size w wr) (fun v _ _ => sliceLen v)
  case atStart => exact ⟨ao, cap, bs, [], rfl, h, rfl, by simp, World.ownsRow_nil _ _ _ _, Below.refl _ _⟩
  case round =>
    obtain ⟨a, c, rest, out, rfl, hr, hv, hlen, own, hbr⟩ := hrel
    have HV := hide hv
    clear hv h
    by_cases h0 : 0 < rest.length
    · have HF := hide (first_rd a _ c rest _ rfl h0 (hr.below hbr))
      have hle := hr.le
      have hmx := hr.max
      simp only [List.length_map] at hle
      go_wp2_with fail
      refine (unhide HF).mono ?_
      rintro e w2 ⟨rfl, k, rfl⟩
      clear HF
      have own1 := owns_below own (Ext.drewN wr k)
      have hb1 : Below w.heap.size w (wr.drewN k) := hbr.trans (Below.mono (Ext.drewN wr k) hbr.size)
      clear own hbr
      generalize wr.drewN k = wz at *
      obtain ⟨x, m, m1, m2, hdec, hcase⟩ := dec_step rest h0
      have HD := hide hdec
      clear hdec
      have RL := RdV.lit wz [R x] 21 (0, 0) (by simp)
      have own2 := owns_below own1 (Ext.alloc wz (.cells #[R x] 21 (0, 0)))
      have hb2 : Below w.heap.size w (wz.alloc (.cells #[R x] 21 (0, 0))) := hb1.trans (Below.mono (Ext.alloc wz (.cells #[R x] 21 (0, 0))) hb1.size)
      have hbase := hb2.size
      have hone : ∀ u ∈ [R x], u.oneCell' = true := by simp [R, Value.oneCell']
      have key : ∀ v' w', w'.ownsRow w.heap.size 21 1 v' (out.length + 1) (out.map R ++ [R x]) → Below w.heap.size (wz.alloc (.cells #[R x] 21 (0, 0))) w' →
          (∃ (a' : Option Addr) (c' : Nat) (rest' : List UInt8) (out' : List Int), Value.slice (if c = m then a else a.map (·.add m)) (rest.length - m) (c - m) = .slice a' rest'.length c' ∧ RdV w a' c' (rest'.map B) ∧ out' ++ dec rest' = dec bs ∧ out'.length + rest'.length ≤ bs.length ∧ w'.ownsRow w.heap.size 21 1 v' out'.length (out'.map R) ∧ Below w.heap.size w w') ∧ rest.length - m < rest.length := by
        intro v' w' o' b'
        refine ⟨⟨(if c = m then a else a.map (·.add m)), c - m, rest.drop m, out ++ [x], by simp, ?_, ?_, by simp; omega, by simpa using o', hb2.trans b'⟩, by omega⟩
        · have := hr.drop m (by omega)
          rwa [← List.map_drop] at this
        · rw [List.append_assoc, ← unhide HV, ← unhide HD]
          rfl
      have KEY := hide key
      clear key hb2 own1 hb1 hr HV HD
      rcases hcase with ⟨e2, rfl, rfl⟩ | ⟨e2, e1⟩
      · rw [e2]
        generalize fst rest = y
        go_wp2_with (at_builtin; refine wpList_app rfl (.tmp 16) (.tmp 18) 51 21 (.int .i32 0) 4 Tryd.underlying51 uinfoR rfl rfl w.heap.size _ _ _ rfl own2 _ _ _ [R 65533] rfl rfl RL hone ?c2 hbase ?_)
        case c2 => omega
        intro v2 w2 o2 b2
        clear own2 RL hone
        have kk := unhide KEY v2 w2 o2 b2
        go_wp2
        exact kk
      · rw [e2, e1]
        go_wp2_with (at_builtin; refine wpList_app rfl (.tmp 16) (.tmp 18) 51 21 (.int .i32 0) 4 Tryd.underlying51 uinfoR rfl rfl w.heap.size _ _ _ rfl own2 _ _ _ [R x] rfl rfl RL hone ?c2 hbase ?_)
        case c2 => omega
        intro v2 w2 o2 b2
        clear own2 RL hone
        have kk := unhide KEY v2 w2 o2 b2
        go_wp2
        exact kk
    · have e : rest = [] := List.eq_nil_of_length_eq_zero (by omega)
      subst e
      have hb := unhide HV
      go_wp2
      go_ret
      rw [← hb]
      exact ⟨_, rfl, by simpa [dec_nil] using own, hbr⟩

/-- The code points of bytes, in new memory. -/
theorem utf_decode_any (ao : Option Addr) (l cap : Nat) (bs : List UInt8) (w : World) (hl : bs.length = l) (hm : l ≤ 1000000) (h : RdV w ao cap (bs.map B)) :
    Calls Tryd.prog 38 #[.slice ao l cap] w (Gives w ((dec bs).map R)) :=
  (decode_own ao l cap bs w hl hm h).mono fun e w' ⟨v, he, h1, h2⟩ => by subst he; exact gives_of_owned h1 h2
end Go.Proofs.YtilmkmplaehcaaaDoor
