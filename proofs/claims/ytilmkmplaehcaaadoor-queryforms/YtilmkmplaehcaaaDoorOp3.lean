/-
  What the operations of the laws' open-order statements give: calls of Decode, Encode, Valid, SameRunes; string(b); []rune(s).
-/
import Derived.Test.YtilmkmplaehcaaaDoorRuneP
namespace Go.Proofs.YtilmkmplaehcaaaDoor
set_option linter.unusedVariables false
open Go.RowKit

theorem entersDec (args : Array Value) (w : World) : (callFunc 38 args).run Tryd.prog w = .ok (.enter 38 args) w := run_enter 38 _ Tryd.func38 (by kernel_rfl) (by kernel_rfl) args w
theorem entersEnc (args : Array Value) (w : World) : (callFunc 37 args).run Tryd.prog w = .ok (.enter 37 args) w := run_enter 37 _ Tryd.func37 (by kernel_rfl) (by kernel_rfl) args w
theorem rd_new (w : World) (vs : List Value) (c : Nat) (t : TypeId) (z : Value) (h : vs.length ≤ c) (hm : c ≤ maxLen) : RdV (w.alloc (.cells (vs.toArray ++ Array.replicate (c - vs.length) z) t)) (some ⟨w.heap.size, 0, none⟩) c vs := by
  refine ⟨h, by unfold maxLen at hm; omega, fun e => (by cases e), fun i hi => ⟨w.heap.size, 0, rfl, ?_⟩⟩
  rw [Nat.zero_add, World.cell?_alloc_mark]
  rw [Array.getElem?_append_left (by simpa using hi)]
  simp

section
variable {ops : Array Oper} {Q : Exit → Act → World → Prop} {A : Tmp → Value → World → Prop} {a0 : Act} {w0 : World} {o : Oper} {d : Tmp}

theorem args1 (a : Act) (x : Tmp) : (#[Operand.tmp x] : Array Operand).map a.eval = #[a.tmps.getD x undef] := by simp [Act.eval]
theorem args2 (a : Act) (x y : Tmp) : (#[Operand.tmp x, Operand.tmp y] : Array Operand).map a.eval = #[a.tmps.getD x undef, a.tmps.getD y undef] := by simp [Act.eval]

theorem ok_dec (hw : Wanted ops A o) (hdst : o.dst = some d) (x : Tmp) (ats : Array TypeId) (ho : o.op = .call { callee := .value (.func 38), args := #[.tmp x], argTypes := ats }) (hx1 : (depSlots ops o).contains x = true) (bs : List UInt8) (hm : bs.length ≤ 1000000)
    (hX : ∀ v w, A x v w → (cellsF (bs.map B)).holds v w) (hF : ∀ v w, (cellsF ((dec bs).map R)).holds v w → A d v w) : StepOk Tryd.prog ops Q A a0 w0 o :=
  ok_gives hw hdst _ _ _ entersDec ho ((dec bs).map R) (fun a w hx hf hd => by
    obtain ⟨ao, cap, e, hr⟩ := hX _ _ (hd x hx1)
    rw [args1, e]
    exact utf_decode_any ao _ cap bs w (by simp) (by simpa using hm) hr) hF

theorem ok_enc (hw : Wanted ops A o) (hdst : o.dst = some d) (x : Tmp) (ats : Array TypeId) (ho : o.op = .call { callee := .value (.func 37), args := #[.tmp x], argTypes := ats }) (hx1 : (depSlots ops o).contains x = true) (rs : List Int) (hm : rs.length ≤ 1000000)
    (hX : ∀ v w, A x v w → (cellsF (rs.map R)).holds v w) (hF : ∀ v w, (cellsF ((enc rs).map B)).holds v w → A d v w) : StepOk Tryd.prog ops Q A a0 w0 o :=
  ok_gives hw hdst _ _ _ entersEnc ho ((enc rs).map B) (fun a w hx hf hd => by
    obtain ⟨ao, cap, e, hr⟩ := hX _ _ (hd x hx1)
    rw [args1, e]
    exact utf_encode_any ao _ cap rs w (by simp) (by simpa using hm) hr) hF

theorem ok_str (hw : Wanted ops A o) (hdst : o.dst = some d) (x : Tmp) (ho : o.op = .convert 33 9 (.tmp x)) (hx1 : (depSlots ops o).contains x = true) (bs : List UInt8)
    (hX : ∀ v w, A x v w → (cellsF (bs.map B)).holds v w) (hF : ∀ w, A d (.string ⟨bs.toArray⟩) w) : StepOk Tryd.prog ops Q A a0 w0 o :=
  ok_conv hw hdst x ho hx1 bs (fun v w h _ => by
    obtain ⟨ao, cap, e, hr⟩ := hX v w h
    exact ⟨ao, cap, by rw [e]; simp, hr⟩) hF

theorem ok_runes (hw : Wanted ops A o) (hdst : o.dst = some d) (x : Tmp) (ho : o.op = .convert 9 51 (.tmp x)) (hx1 : (depSlots ops o).contains x = true) (bs : List UInt8) (hm : bs.length ≤ 1000000)
    (hX : ∀ v w, A x v w → v = .string ⟨bs.toArray⟩) (hF : ∀ v w, (cellsF ((dec bs).map R)).holds v w → A d v w) : StepOk Tryd.prog ops Q A a0 w0 o :=
  ok_val hw hdst fun a w hx hf hd => by
    have e := hX _ _ (hd x hx1)
    have hr := run_runes_of_string (P := Tryd.prog) w 9 51 21 ⟨bs.toArray⟩ Tryd.underlying9 Tryd.underlying51 Tryd.underlying21
    rw [runes_of] at hr
    have hdl := dec_len bs
    have hr := hr (by simp; omega)
    have hsz : ((dec bs).map R).toArray.size = ((dec bs).map R).length := by simp
    rw [hsz] at hr
    have hle := grownCap_ge w ((dec bs).map R).length 0 21
    have hmx := grownCap_le_maxLen w ((dec bs).map R).length 0 21 (by simp; unfold maxLen; omega)
    generalize grownCap w ((dec bs).map R).length 0 21 = c at *
    refine ⟨.slice (some ⟨w.heap.size, 0, none⟩) ((dec bs).map R).length c, w.drew.alloc (.cells (((dec bs).map R).toArray ++ Array.replicate (c - ((dec bs).map R).length) (.int .i32 0)) 21), ?_, ?_, (Ext.drew w).trans (Ext.alloc w.drew _)⟩
    · simp only [execOp, ho, Act.eval, e]
      simp only [Sem.run_bind, hr, Result.andThen_ok, Sem.run_pure]
    · exact hF _ _ ⟨_, _, rfl, rd_new w.drew _ c 21 _ hle hmx⟩
end
end Go.Proofs.YtilmkmplaehcaaaDoor
