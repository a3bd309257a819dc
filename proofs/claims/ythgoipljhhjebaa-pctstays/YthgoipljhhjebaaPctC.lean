/-
  []byte(s), and arguments that are bytes.
-/
import Derived.Test.YthgoipljhhjebaaPctP
import Derived.Laws.IdiomStrings
namespace Go.Proofs.Ythgoipljhhjebaa
set_option linter.unusedVariables false
open Go.RowKit

/-- []byte(s). -/
theorem conv_bytes (w : World) (bs : List UInt8) (hm : bs.length ≤ 1000000) : ∃ c w', (convert 9 22 (S bs)).run Try.prog w = .ok (.slice (some ⟨w.heap.size, 0, none⟩) bs.length c) w' ∧ RdV w' (some ⟨w.heap.size, 0, none⟩) c (bs.map B) ∧ Ext w w' ∧ ∀ i, i < bs.length → w'.frozen? ⟨w.heap.size, i, none⟩ = false := by
  have hr := run_bytes_of_string (P := Try.prog) w 9 22 5 ⟨bs.toArray⟩ Try.underlying9 Try.underlying22 Try.underlying5
  have hsz : (⟨bs.toArray⟩ : ByteArray).size = bs.length := by simp [ByteArray.size]
  rw [hsz] at hr
  have hle := grownCap_ge w bs.length 0 5
  have hmx := grownCap_le_maxLen w bs.length 0 5 (by unfold maxLen; omega)
  refine ⟨_, _, hr, ⟨by simpa using hle, by unfold maxLen at hmx; omega, fun e => (by cases e), fun i hi => ⟨w.heap.size, 0, rfl, ?_⟩⟩, (Ext.drew w).trans (Ext.alloc w.drew _), fun i hi => ?_⟩
  · have hi' : i < bs.length := by simpa using hi
    rw [Nat.zero_add]
    have e : w.heap.size = w.drew.heap.size := rfl
    rw [e, World.cell?_alloc_mark]
    unfold bytesRow
    rw [Array.getElem?_append_left (by simp; omega)]
    simp [B, hi']
  · have e : w.heap.size = w.drew.heap.size := rfl
    rw [e, World.frozen?_alloc_mark]
    have hs : (bytesRow ⟨bs.toArray⟩ (grownCap w bs.length 0 5)).size = bs.length + (grownCap w bs.length 0 5 - bs.length) := by
      unfold bytesRow
      simp [ByteArray.size]
    rw [hs]
    have : ¬ bs.length + (grownCap w bs.length 0 5 - bs.length) ≤ i := by omega
    simp [this]

/-- One byte is written. -/
theorem RdV.put {w : World} {g c : Nat} {ts : List UInt8} (h : RdV w (some ⟨g, 0, none⟩) c (ts.map B)) (i : Nat) (hi : i < ts.length) (x : UInt8) : RdV (w.setCell ⟨g, i, none⟩ (B x)) (some ⟨g, 0, none⟩) c ((ts.set i x).map B) := by
  have hle := h.le
  rw [List.length_map] at hle
  refine ⟨by simpa using hle, h.max, fun e => (by cases e), fun j hj => ⟨g, 0, rfl, ?_⟩⟩
  have hj' : j < ts.length := by simpa using hj
  obtain ⟨b, off, e, hc⟩ := h.cell j (by simpa using hj')
  simp only [Option.some.injEq, Addr.mk.injEq] at e
  obtain ⟨rfl, rfl, _⟩ := e
  rw [Nat.zero_add] at *
  rw [List.map_set, List.getElem?_set]
  by_cases e : i = j
  · subst e
    rw [if_pos rfl]
    have := getB ts i hj'
    rw [this] at hc
    rw [World.cell?_setCell_same w _ _ hc]
    simp [hj']
  · rw [if_neg e, World.cell?_setCell_other w _ _ _ (by intro e2; simp only [Addr.mk.injEq] at e2; exact e e2.2.1), hc]

section
variable {ops : Array Oper} {Q : Exit → Act → World → Prop} {A : Tmp → Value → World → Prop} {a0 : Act} {w0 : World} {o : Oper} {d : Tmp}

theorem args1 (a : Act) (x : Tmp) : (#[Operand.tmp x] : Array Operand).map a.eval = #[a.tmps.getD x undef] := by simp [Act.eval]
theorem args2 (a : Act) (x y : Tmp) : (#[Operand.tmp x, Operand.tmp y] : Array Operand).map a.eval = #[a.tmps.getD x undef, a.tmps.getD y undef] := by simp [Act.eval]

theorem entersDec (args : Array Value) (w : World) : (callFunc 13 args).run Try.prog w = .ok (.enter 13 args) w := run_enter 13 _ Try.func13 (by kernel_rfl) (by kernel_rfl) args w
theorem entersEnc (args : Array Value) (w : World) : (callFunc 11 args).run Try.prog w = .ok (.enter 11 args) w := run_enter 11 _ Try.func11 (by kernel_rfl) (by kernel_rfl) args w
theorem entersIn (args : Array Value) (w : World) : (callFunc 9 args).run Try.prog w = .ok (.enter 9 args) w := run_enter 9 _ Try.func9 (by kernel_rfl) (by kernel_rfl) args w

theorem ok_dec (hw : Wanted ops A o) (hdst : o.dst = some d) (x : Tmp) (ats : Array TypeId) (ho : o.op = .call { callee := .value (.func 13), args := #[.tmp x], argTypes := ats }) (hx1 : (depSlots ops o).contains x = true) (l : List UInt8) (hm : l.length ≤ 1000000)
    (hX : ∀ v w, A x v w → v = S l) (hF : ∀ v w, (cellsF ((decd l).map B)).holds v w → A d v w) : StepOk Try.prog ops Q A a0 w0 o :=
  ok_gives hw hdst _ _ _ entersDec ho ((decd l).map B) (fun a w hx hf hd => by
    rw [args1, hX _ _ (hd x hx1)]
    exact decode_any l w hm) hF

theorem ok_enc (hw : Wanted ops A o) (hdst : o.dst = some d) (x y : Tmp) (ats : Array TypeId) (ho : o.op = .call { callee := .value (.func 11), args := #[.tmp x, .tmp y], argTypes := ats }) (hx1 : (depSlots ops o).contains x = true) (hy1 : (depSlots ops o).contains y = true) (s : Int) (bs : List UInt8) (hm : bs.length ≤ 1000000)
    (hX : ∀ v w, A x v w → v = .int .i64 s) (hY : ∀ v w, A y v w → (cellsF (bs.map B)).holds v w) (hF : ∀ w, A d (S (encd s bs)) w) : StepOk Try.prog ops Q A a0 w0 o :=
  ok_is hw hdst _ _ _ entersEnc ho (S (encd s bs)) (fun a w hx hf hd => by
    obtain ⟨ao, cap, e, hr⟩ := hY _ _ (hd y hy1)
    rw [args2, hX _ _ (hd x hx1), e]
    exact encode_own s ao _ cap bs w (by simp) (by simpa using hm) hr) hF

theorem ok_in (hw : Wanted ops A o) (hdst : o.dst = some d) (x y : Tmp) (ats : Array TypeId) (ho : o.op = .call { callee := .value (.func 9), args := #[.tmp x, .tmp y], argTypes := ats }) (hx1 : (depSlots ops o).contains x = true) (hy1 : (depSlots ops o).contains y = true) (s : Int) (b : UInt8)
    (hX : ∀ v w, A x v w → v = .int .i64 s) (hY : ∀ v w, A y v w → v = B b) (hF : ∀ w, A d (.bool (inS s b)) w) : StepOk Try.prog ops Q A a0 w0 o :=
  ok_is hw hdst _ _ _ entersIn ho (.bool (inS s b)) (fun a w hx hf hd => by
    rw [args2, hX _ _ (hd x hx1), hY _ _ (hd y hy1)]
    exact in_any s b w) hF

theorem ok_str (hw : Wanted ops A o) (hdst : o.dst = some d) (x : Tmp) (ho : o.op = .convert 22 9 (.tmp x)) (hx1 : (depSlots ops o).contains x = true) (bs : List UInt8)
    (hX : ∀ v w, A x v w → (cellsF (bs.map B)).holds v w) (hF : ∀ w, A d (S bs) w) : StepOk Try.prog ops Q A a0 w0 o :=
  ok_conv hw hdst x ho hx1 bs (fun v w h _ => by
    obtain ⟨ao, cap, e, hr⟩ := hX v w h
    exact ⟨ao, cap, by rw [e]; simp, hr⟩) hF

/-- '==' of a text with itself. -/
theorem ok_same (hw : Wanted ops A o) (hdst : o.dst = some d) (x y : Tmp) (ty ty' : TypeId) (ho : o.op = .binOp .eql ty (.tmp x) (.tmp y) ty') (hx1 : (depSlots ops o).contains x = true) (hy1 : (depSlots ops o).contains y = true)
    (bs : List UInt8) (hX : ∀ v w, A x v w → v = S bs) (hY : ∀ v w, A y v w → v = S bs) (hF : ∀ w, A d (.bool true) w) : StepOk Try.prog ops Q A a0 w0 o :=
  ok_eql_str hw hdst x y ty ty' ho hx1 hy1 _ _ hX hY (fun w => by
    have := hF w
    rw [ByteArray.toList_mk]
    simpa using this)
end

/-- An argument that is a byte. -/
theorem byte_of {a : Int} (h : (Lit.int .u8 a).wf = true) : ∃ x : UInt8, .int .u8 a = B x := by
  have hb := bounds_u8 h
  refine ⟨UInt8.ofNat a.toNat, ?_⟩
  unfold B
  congr 1
  rw [UInt8.toNat_ofNat']
  omega
end Go.Proofs.Ythgoipljhhjebaa
