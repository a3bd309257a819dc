/-
  What the operations of the laws' open-order statements give: calls of Decode, Encode, Valid, SameRunes; string(b); []rune(s).
-/
import Derived.Test.YtanhoohekjconaaRuneP
namespace Go.Proofs.Ytanhoohekjconaa
set_option linter.unusedVariables false
open Go.RowKit

theorem entersDec (args : Array Value) (w : World) : (callFunc 10 args).run Try.prog w = .ok (.enter 10 args) w := run_enter 10 _ Try.func10 (by kernel_rfl) (by kernel_rfl) args w
theorem entersEnc (args : Array Value) (w : World) : (callFunc 12 args).run Try.prog w = .ok (.enter 12 args) w := run_enter 12 _ Try.func12 (by kernel_rfl) (by kernel_rfl) args w
theorem entersVal (args : Array Value) (w : World) : (callFunc 14 args).run Try.prog w = .ok (.enter 14 args) w := run_enter 14 _ Try.func14 (by kernel_rfl) (by kernel_rfl) args w
theorem entersSame (args : Array Value) (w : World) : (callFunc 9 args).run Try.prog w = .ok (.enter 9 args) w := run_enter 9 _ Try.func9 (by kernel_rfl) (by kernel_rfl) args w

theorem rd_new (w : World) (vs : List Value) (c : Nat) (t : TypeId) (z : Value) (h : vs.length ≤ c) (hm : c ≤ maxLen) : RdV (w.alloc (.cells (vs.toArray ++ Array.replicate (c - vs.length) z) t)) (some ⟨w.heap.size, 0, none⟩) c vs := by
  refine ⟨h, by unfold maxLen at hm; omega, fun e => (by cases e), fun i hi => ⟨w.heap.size, 0, rfl, ?_⟩⟩
  rw [Nat.zero_add, World.cell?_alloc_mark]
  rw [Array.getElem?_append_left (by simpa using hi)]
  simp

section
variable {ops : Array Oper} {Q : Exit → Act → World → Prop} {A : Tmp → Value → World → Prop} {a0 : Act} {w0 : World} {o : Oper} {d : Tmp}

theorem args1 (a : Act) (x : Tmp) : (#[Operand.tmp x] : Array Operand).map a.eval = #[a.tmps.getD x undef] := by simp [Act.eval]
theorem args2 (a : Act) (x y : Tmp) : (#[Operand.tmp x, Operand.tmp y] : Array Operand).map a.eval = #[a.tmps.getD x undef, a.tmps.getD y undef] := by simp [Act.eval]

theorem ok_dec (hw : Wanted ops A o) (hdst : o.dst = some d) (x : Tmp) (ats : Array TypeId) (ho : o.op = .call { callee := .value (.func 10), args := #[.tmp x], argTypes := ats }) (hx1 : (depSlots ops o).contains x = true) (bs : List UInt8) (hm : bs.length ≤ 1000000)
    (hX : ∀ v w, A x v w → (cellsF (bs.map B)).holds v w) (hF : ∀ v w, (cellsF ((dec bs).map R)).holds v w → A d v w) : StepOk Try.prog ops Q A a0 w0 o :=
  ok_gives hw hdst _ _ _ entersDec ho ((dec bs).map R) (fun a w hx hf hd => by
    obtain ⟨ao, cap, e, hr⟩ := hX _ _ (hd x hx1)
    rw [args1, e]
    exact decode_any ao _ cap bs w (by simp) (by simpa using hm) hr) hF

theorem ok_enc (hw : Wanted ops A o) (hdst : o.dst = some d) (x : Tmp) (ats : Array TypeId) (ho : o.op = .call { callee := .value (.func 12), args := #[.tmp x], argTypes := ats }) (hx1 : (depSlots ops o).contains x = true) (rs : List Int) (hm : rs.length ≤ 1000000)
    (hX : ∀ v w, A x v w → (cellsF (rs.map R)).holds v w) (hF : ∀ v w, (cellsF ((enc rs).map B)).holds v w → A d v w) : StepOk Try.prog ops Q A a0 w0 o :=
  ok_gives hw hdst _ _ _ entersEnc ho ((enc rs).map B) (fun a w hx hf hd => by
    obtain ⟨ao, cap, e, hr⟩ := hX _ _ (hd x hx1)
    rw [args1, e]
    exact encode_any ao _ cap rs w (by simp) (by simpa using hm) hr) hF

theorem ok_vld (hw : Wanted ops A o) (hdst : o.dst = some d) (x : Tmp) (ats : Array TypeId) (ho : o.op = .call { callee := .value (.func 14), args := #[.tmp x], argTypes := ats }) (hx1 : (depSlots ops o).contains x = true) (bs : List UInt8)
    (hX : ∀ v w, A x v w → (cellsF (bs.map B)).holds v w) (hF : ∀ w, A d (.bool (vld bs)) w) : StepOk Try.prog ops Q A a0 w0 o :=
  ok_is hw hdst _ _ _ entersVal ho (.bool (vld bs)) (fun a w hx hf hd => by
    obtain ⟨ao, cap, e, hr⟩ := hX _ _ (hd x hx1)
    rw [args1, e]
    refine (valid_any ao _ cap bs w (by simp) hr).mono ?_
    rintro e w' ⟨rfl, n, rfl⟩
    exact ⟨rfl, Ext.drewN w n⟩) hF

theorem ok_same (hw : Wanted ops A o) (hdst : o.dst = some d) (x y : Tmp) (ats : Array TypeId) (ho : o.op = .call { callee := .value (.func 9), args := #[.tmp x, .tmp y], argTypes := ats }) (hx1 : (depSlots ops o).contains x = true) (hy1 : (depSlots ops o).contains y = true) (rs : List Int)
    (hX : ∀ v w, A x v w → (cellsF (rs.map R)).holds v w) (hY : ∀ v w, A y v w → (cellsF (rs.map R)).holds v w) (hF : ∀ w, A d (.bool true) w) : StepOk Try.prog ops Q A a0 w0 o :=
  ok_is hw hdst _ _ _ entersSame ho (.bool true) (fun a w hx hf hd => by
    obtain ⟨ao, cap, e, hr⟩ := hX _ _ (hd x hx1)
    obtain ⟨ao2, cap2, e2, hr2⟩ := hY _ _ (hd y hy1)
    rw [args2, e, e2]
    exact same_any ao ao2 _ cap cap2 rs w (by simp) hr hr2) hF

theorem ok_str (hw : Wanted ops A o) (hdst : o.dst = some d) (x : Tmp) (ho : o.op = .convert 22 9 (.tmp x)) (hx1 : (depSlots ops o).contains x = true) (bs : List UInt8)
    (hX : ∀ v w, A x v w → (cellsF (bs.map B)).holds v w) (hF : ∀ w, A d (.string ⟨bs.toArray⟩) w) : StepOk Try.prog ops Q A a0 w0 o :=
  ok_conv hw hdst x ho hx1 bs (fun v w h _ => by
    obtain ⟨ao, cap, e, hr⟩ := hX v w h
    exact ⟨ao, cap, by rw [e]; simp, hr⟩) hF

theorem ok_runes (hw : Wanted ops A o) (hdst : o.dst = some d) (x : Tmp) (ho : o.op = .convert 9 23 (.tmp x)) (hx1 : (depSlots ops o).contains x = true) (bs : List UInt8) (hm : bs.length ≤ 1000000)
    (hX : ∀ v w, A x v w → v = .string ⟨bs.toArray⟩) (hF : ∀ v w, (cellsF ((dec bs).map R)).holds v w → A d v w) : StepOk Try.prog ops Q A a0 w0 o :=
  ok_val hw hdst fun a w hx hf hd => by
    have e := hX _ _ (hd x hx1)
    have hr := run_runes_of_string (P := Try.prog) w 9 23 21 ⟨bs.toArray⟩ Try.underlying9 Try.underlying23 Try.underlying21
    rw [runes_of] at hr
    have hdl := dec_len bs
    have hr := hr (by simp; omega)
    have hsz : ((dec bs).map R).toArray.size = ((dec bs).map R).length := by simp
    rw [hsz] at hr
    have hle := grownCap_ge w ((dec bs).map R).length 0 21
    have hmx := grownCap_le_maxLen w ((dec bs).map R).length 0 21 (by simp; unfold maxLen; omega)
    generalize grownCap w ((dec bs).map R).length 0 21 = c at *
    refine ⟨.slice (some ⟨w.heap.size, 0, none⟩) ((dec bs).map R).length c, w.drew.alloc (.cells (((dec bs).map R).toArray ++ Array.replicate (c - ((dec bs).map R).length) (.int .i32 0)) 21), ?_, ?_, (Ext.drew w).trans (Ext.alloc w.drew _)⟩
    · simp only [execOp, ho, Act.eval, e]
      simp only [Sem.run_bind, hr, Result.andThen_ok, Sem.run_pure]
    · exact hF _ _ ⟨_, _, rfl, rd_new w.drew _ c 21 _ hle hmx⟩
end
end Go.Proofs.Ytanhoohekjconaa
