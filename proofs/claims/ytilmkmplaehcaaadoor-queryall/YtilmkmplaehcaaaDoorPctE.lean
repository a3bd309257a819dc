/-
  What Encode of package pct tells.
-/
import Derived.Test.YtilmkmplaehcaaaDoorPctS
import Derived.Deep.RegionLaw
import Derived.Laws.MakeOwn
namespace Go.Proofs.YtilmkmplaehcaaaDoor.Pct
set_option linter.unusedVariables false
open Go.RowKit

theorem infoB : (Tryd.prog.info? 5).map (fun i => (i.zero, i.size, i.bytes)) = some (some (.int .u8 0), 1, 1) := by kernel_rfl

/-- A digit of sixteen. -/
def dig (n : Nat) : UInt8 := if n < 10 then UInt8.ofNat (48 + n) else UInt8.ofNat (55 + n)
/-- What is written for a byte. -/
def piece (s : Int) (x : UInt8) : List UInt8 := if s = 6 ∧ x = 32 then [43] else if inS s x then [37, dig (x.toNat / 16), dig (x.toNat % 16)] else [x]
def encd (s : Int) (bs : List UInt8) : List UInt8 := bs.flatMap (piece s)

theorem encd_snoc (s : Int) (bs : List UInt8) (x : UInt8) : encd s (bs ++ [x]) = encd s bs ++ piece s x := by simp [encd]
theorem piece_len (s : Int) (x : UInt8) : (piece s x).length ≤ 3 := by unfold piece; split <;> (try split) <;> simp
theorem encd_len (s : Int) (bs : List UInt8) : (encd s bs).length ≤ 3 * bs.length := by
  induction bs with
  | nil => simp [encd]
  | cons x r ih =>
    have := piece_len s x
    have e : encd s (x :: r) = piece s x ++ encd s r := by simp [encd]
    rw [e, List.length_append, List.length_cons]
    omega

/-- make([]byte, 0, n) -/
theorem make_own (w : World) (base c : Nat) (hc : c ≤ 100000000) (hbase : base ≤ w.heap.size) :
    ∃ w', (Instr.makeSlice 33 (.int .i64 0) (.int .i64 (c : Int))).run Tryd.prog w = .ok (.slice (some ⟨w.heap.size, 0, none⟩) 0 c) w' ∧
      w'.ownsRow base 5 1 (.slice (some ⟨w.heap.size, 0, none⟩) 0 c) 0 [] ∧ Ext w w' := by
  obtain ⟨i0, hi, hz0, hz1, hz2⟩ := info_parts infoB
  obtain ⟨w', h1, h2, h3⟩ := run_make_own (P := Tryd.prog) w base 33 5 i0 (.int .u8 0) 1 Tryd.underlying33 hi hz0 hz1 .i64 .i64 c (by rw [hz2]; omega) (by unfold maxLen; omega) hbase
  exact ⟨w', h1, h2, (Below.refl _ _).grown h3 (Nat.le_refl _) (fun t ht => by cases ht)⟩

abbrev digits : List UInt8 := [48, 49, 50, 51, 52, 53, 54, 55, 56, 57, 65, 66, 67, 68, 69, 70]
theorem digs : ∀ k : Fin 16, digits.getD k.val 0 = dig k.val := by decide +kernel
theorem idx_str (w : World) (bs : List UInt8) (kd : IntKind) (k : Nat) (hk : k < bs.length) : (Instr.index 9 (.string ⟨bs.toArray⟩) (.int kd (k : Int))).run Tryd.prog w = .ok (B (bs.getD k 0)) w := by
  rw [run_index_string w 9 ⟨bs.toArray⟩ kd (k : Int) Tryd.underlying9]
  have hsz : (⟨bs.toArray⟩ : ByteArray).size = bs.length := by simp [ByteArray.size]
  rw [dif_pos ⟨by omega, by rw [hsz]; omega⟩]
  have e : (⟨bs.toArray⟩ : ByteArray)[((k : Int)).toNat]'(by rw [hsz]; omega) = bs.getD k 0 := by
    have : (⟨bs.toArray⟩ : ByteArray)[((k : Int)).toNat]'(by rw [hsz]; omega) = bs[k] := by
      show bs.toArray[((k : Int)).toNat]'_ = _
      simp
    rw [this]
    simp [List.getD, hk]
  rw [e]
theorem idx_dig (w : World) (kd : IntKind) (k : Nat) (hk : k < 16) : (Instr.index 9 (.string ⟨#[48, 49, 50, 51, 52, 53, 54, 55, 56, 57, 65, 66, 67, 68, 69, 70]⟩) (.int kd (k : Int))).run Tryd.prog w = .ok (B (dig k)) w := by
  have := idx_str w digits kd k (by simpa using hk)
  rw [digs ⟨k, hk⟩] at this
  exact this

/-- append to a row of the call's own, as one step of a statement whose order is left open. -/
theorem step_app {ops : Array Oper} {o : Oper} {a : Act} {w : World} {K : Act → World → Prop} {Q : Exit → Act → World → Prop} {E : Prop} (hgd : o.guard = none) (s x : Operand) (t e : TypeId) (z : Value) (bytes : Nat)
    (hT : Tryd.prog.underlying t = some (.slice e)) (hI : (Tryd.prog.info? e).map (fun i => (i.zero, i.size, i.bytes)) = some (some z, 1, bytes)) (hzs : z.cells.size = 1)
    (ho : o.op = .call { callee := .builtin .append, args := #[s, x], argTypes := #[t, t] })
    (base : Nat) (v : Value) (n : Nat) (xs : List Value) (hs : a.eval s = v) (hown : w.ownsRow base e 1 v n xs)
    (ad : Addr) (m c : Nat) (ys : List Value) (hx : a.eval x = .slice (some ad) m c) (hl : ys.length = m) (hr : RdV w (some ad) c ys) (hone : ∀ u ∈ ys, u.oneCell' = true) (hb : (n + m) * (bytes + 1) ≤ 140737488355328) (hbase : base ≤ w.heap.size)
    (h : ∀ v' w', w'.ownsRow base e 1 v' (n + m) (xs ++ ys) → Below base w w' → K (a.put o.dst v') w') : if Region.wanted o (yielded ops a.tmps) = true then Oper.wp Tryd.prog o a w K Q else E := by
  have hw : Region.wanted o (yielded ops a.tmps) = true := by simp [Region.wanted, hgd]
  rw [if_pos hw]
  obtain ⟨i0, hi, hz0, hz1, hz2⟩ := info_parts hI
  have hb1 : (n + m) * bytes ≤ 140737488355328 := Nat.le_trans (Nat.mul_le_mul_left _ (by omega)) hb
  have hb2 : n + m ≤ 140737488355328 := Nat.le_trans (by rw [Nat.mul_add, Nat.mul_one]; omega) hb
  refine wp_append_own w s x t ho base e i0 z 1 bytes hT hi hz0 hz1 hz2 hzs (by decide) v n xs hs hown ad m c ys hx (by omega) (hr.news ad rfl) hone (by unfold maxLen; omega) hb1 hbase ?_
  intro v' w' h1 h2 _
  exact h v' w' h1 ((Below.refl _ _).grown h2 hbase (fun t ht => (hown.lt t ht).1))

theorem and15 : ∀ y : Fin 256, bits .and .u8 (y.val : Int) 15 = (y.val : Int) % 16 := by decide +kernel

set_option maxHeartbeats 800000 in
set_option maxRecDepth 100000 in
theorem encode_own (s : Int) (ao : Option Addr) (l cap : Nat) (bs : List UInt8) (w : World) (hl : bs.length = l) (hm : l ≤ 1000000) (h : RdV w ao cap (bs.map B)) :
    Calls Tryd.prog 30 #[.int .i64 s, .slice ao l cap] w fun e w' => e = .returned (.string ⟨(encd s bs).toArray⟩) ∧ Ext w w' := by
  subst hl
  have hle := h.le
  have hmx := h.max
  simp only [List.length_map] at hle
  obtain ⟨w0, hmk, own, hx0⟩ := make_own w w.heap.size bs.length (by omega) (Nat.le_refl _)
  go_enter Tryd.func30, Tryd.ntmps30
  go_wp2
  clear hmk
  go_loopw [5, 13] (fun o i wr => ∃ (k : Nat), k ≤ bs.length ∧ i = .int .i64 k ∧ wr.ownsRow w.heap.size 5 1 o (encd s (bs.take k)).length ((encd s (bs.take k)).map B) ∧ Below w.heap.size w wr) (fun _ i _ => bs.length - (intOf i).toNat)
  case atStart => exact ⟨0, by omega, rfl, by simpa [encd] using own, hx0⟩
  case round =>
    obtain ⟨k, hk, rfl, ownr, hbr⟩ := hrel
    clear own hx0
    by_cases hkl : k < bs.length
    · obtain ⟨b, off, rfl, hc⟩ := h.cells (by simp; omega)
      have c0 : wr.cell? ⟨b, off + k, none⟩ = some (B (bs.getD k 0)) := by
        have := hc k (by simpa using hkl)
        rw [getB bs k hkl] at this
        rw [← this]
        exact hbr.cell (p := ⟨b, off + k, none⟩) (cell_lt this)
      clear hc
      have HT := hide (take_snoc bs k 0 hkl)
      have HL := hide (encd_len s (bs.take k))
      generalize bs.getD k 0 = x at *
      have hbase := hbr.size
      have key : ∀ (ys : List UInt8) (wz : World) (v' : Value) (w' : World), piece s x = ys → Below w.heap.size w wz → w'.ownsRow w.heap.size 5 1 v' ((encd s (bs.take k)).length + ys.length) ((encd s (bs.take k)).map B ++ ys.map B) → Below w.heap.size wz w' →
          ((∃ (k' : Nat), k' ≤ bs.length ∧ Value.int .i64 ((k : Int) + 1) = .int .i64 k' ∧ w'.ownsRow w.heap.size 5 1 v' (encd s (bs.take k')).length ((encd s (bs.take k')).map B) ∧ Below w.heap.size w w') ∧ bs.length - ((k : Int) + 1).toNat < bs.length - k) := by
        intro ys wz v' w' hp hbz ho hb'
        refine ⟨⟨k + 1, by omega, by simp, ?_, hbz.trans hb'⟩, by omega⟩
        rw [unhide HT, encd_snoc, hp, List.length_append, List.map_append]
        exact ho
      have KEY := hide key
      clear key HT
      have hlen := unhide HL
      rw [List.length_take, Nat.min_eq_left hk] at hlen
      clear HL
      generalize encd s (bs.take k) = out at *
      by_cases hs6 : s = 6 ∧ x = 32
      · obtain ⟨rfl, rfl⟩ := hs6
        have RL := RdV.lit wr [B 43] 5 (0, 0) (by simp)
        have own2 := owns_below ownr (Ext.alloc wr (.cells #[B 43] 5 (0, 0)))
        have hb2 : Below w.heap.size w (wr.alloc (.cells #[B 43] 5 (0, 0))) := hbr.trans (Below.mono (Ext.alloc wr _) hbr.size)
        have hbase2 := hb2.size
        have hone : ∀ u ∈ [B 43], u.oneCell' = true := by simp [B, Value.oneCell']
        clear ownr
        go_wp2_with (at_builtin; refine wpList_app rfl (.tmp 28) (.tmp 29) 33 5 (.int .u8 0) 1 Tryd.underlying33 infoB rfl rfl w.heap.size _ _ _ rfl own2 _ _ _ [B 43] rfl rfl RL hone ?c2 hbase2 ?_)
        case c2 => omega
        intro v2 w2 o2 b2
        clear own2 RL hone
        have kk := unhide KEY [43] _ v2 w2 (by unfold piece; simp) hb2 (by simpa using o2) b2
        go_wp2
        exact kk
      · have hp : piece s x = if inS s x then [37, dig (x.toNat / 16), dig (x.toNat % 16)] else [x] := by unfold piece; rw [if_neg hs6]
        have hs7 : s ≠ 6 ∨ s = 6 ∧ (x.toNat : Int) ≠ 32 := by
          by_cases h6 : s = 6
          · refine .inr ⟨h6, fun e => hs6 ⟨h6, UInt8.toNat_inj.1 (by simpa using (by omega : x.toNat = 32))⟩⟩
          · exact .inl h6
        clear hs6
        have HP := hide hp
        clear hp
        have hxl := x.toNat_lt
        have IN := hide (in_any s x)
        rcases hs7 with hs7 | ⟨rfl, hs7⟩
        all_goals
          go_wp2_with fail
          refine (unhide IN _).mono ?_
          rintro e wz ⟨rfl, hxz⟩
          clear IN
          have ownz := owns_below ownr hxz
          have hbz : Below w.heap.size w wz := hbr.trans (Below.mono hxz hbr.size)
          clear ownr hxz hbr c0 hbase
          have hp := unhide HP
          clear HP
          cases hi : inS _ x
          · rw [hi] at hp
            have RL := RdV.lit wz [B x] 5 (0, 0) (by simp)
            have own2 := owns_below ownz (Ext.alloc wz (.cells #[B x] 5 (0, 0)))
            have hb2 : Below w.heap.size w (wz.alloc (.cells #[B x] 5 (0, 0))) := hbz.trans (Below.mono (Ext.alloc wz _) hbz.size)
            have hbase2 := hb2.size
            have hone : ∀ u ∈ [B x], u.oneCell' = true := by simp [B, Value.oneCell']
            have KEY2 := hide (fun v2 w2 => unhide KEY [x] _ v2 w2 hp hb2)
            clear ownz hbz KEY hp hb2
            go_wp2_with (at_builtin; refine wpList_app rfl (.tmp 17) (.tmp 19) 33 5 (.int .u8 0) 1 Tryd.underlying33 infoB rfl rfl w.heap.size _ _ _ rfl own2 _ _ _ [B x] rfl rfl RL hone (by omega) hbase2 ?_)
            intro v2 w2 o2 b2
            clear own2 RL hone
            have kk := unhide KEY2 v2 w2 (by simpa using o2) b2
            go_wp2
            exact kk
          · rw [hi] at hp
            have d1 : ∀ w, (Instr.index 9 (.string ⟨#[48, 49, 50, 51, 52, 53, 54, 55, 56, 57, 65, 66, 67, 68, 69, 70]⟩) (.int .u8 ((x.toNat : Int) / 16))).run Tryd.prog w = .ok (B (dig (x.toNat / 16))) w := fun w => idx_dig w .u8 (x.toNat / 16) (by omega)
            have d2 : ∀ w, (Instr.index 9 (.string ⟨#[48, 49, 50, 51, 52, 53, 54, 55, 56, 57, 65, 66, 67, 68, 69, 70]⟩) (.int .u8 ((x.toNat : Int) % 16))).run Tryd.prog w = .ok (B (dig (x.toNat % 16))) w := fun w => idx_dig w .u8 (x.toNat % 16) (by omega)
            have a15 : bits .and .u8 (x.toNat : Int) 15 = (x.toNat : Int) % 16 := by simpa using and15 ⟨x.toNat, hxl⟩
            have hbase2 := hbz.size
            have ownd := owns_below ownz (Ext.drew wz)
            have hbd : Below w.heap.size w (wz.drew.alloc (.cells #[B 37, B (dig (x.toNat / 16)), B (dig (x.toNat % 16))] 5)) := hbz.trans (Below.mono ((Ext.drew wz).trans (Ext.alloc wz.drew _)) hbz.size)
            have KEY2 := hide (fun v2 w2 => unhide KEY [37, dig (x.toNat / 16), dig (x.toNat % 16)] _ v2 w2 hp hbd)
            clear KEY hp ownz hbz hbd
            go_wp2_with fail
            go_region_law (
              refine step_app rfl (.tmp 35) (.tmp 42) 33 5 (.int .u8 0) 1 Tryd.underlying33 infoB rfl rfl w.heap.size _ _ (out.map B) ?_ (owns_below ownd (Ext.alloc _ _)) ⟨wz.heap.size, 0, none⟩ 3 3 [B 37, B (dig (x.toNat / 16)), B (dig (x.toNat % 16))] ?_ rfl ?_ ?_ ?_ ?_ ?_
              · simp [Act.eval]
              · simp [Act.eval]
              · exact RdV.lit wz.drew _ _ _ (show 3 ≤ 9223372036854775807 by omega)
              · simp [B, Value.oneCell']
              · omega
              · simp; omega
              intro v2 w2 o2 b2
              have kk := unhide KEY2 v2 w2 (by simpa using o2) b2
              clear o2 b2)
            all_goals
              go_wp2
              exact kk
    · have e : bs.take k = bs := List.take_of_length_le (by omega)
      rw [e] at ownr
      have hr := RdV.of_owned ownr
      obtain ⟨a2, c2, rfl, hr2, hl2⟩ := hr
      have cs := oconv_str wr a2 _ c2 (encd s bs) rfl hr2
      go_wp2
      go_ret
      exact ⟨rfl, hbr⟩
end Go.Proofs.YtilmkmplaehcaaaDoor.Pct
