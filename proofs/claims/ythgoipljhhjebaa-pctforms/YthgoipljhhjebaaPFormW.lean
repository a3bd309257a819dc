/-
  The walk of PctForms.
-/
import Derived.Test.YthgoipljhhjebaaNestW
import Derived.Test.YthgoipljhhjebaaReg2
namespace Go.Proofs.Ythgoipljhhjebaa
set_option linter.unusedVariables false
open Go.RowKit

def forms : List UInt8 := [32, 33, 34, 35, 36, 37, 38, 39, 40, 41, 42, 43, 44, 45, 46, 47, 48, 57, 58, 59, 60, 61, 62, 63, 64, 65, 90, 91, 92, 93, 94, 95, 96, 97, 122, 123, 124, 125, 126, 127, 128, 0]
def wants : List (List UInt8) := [[32, 33, 34, 35, 36, 37, 38, 39, 40, 41, 42, 43, 44, 45, 46, 47, 48, 57, 58, 59, 60, 61, 62, 63, 64, 65, 90, 91, 92, 93, 94, 95, 96, 97, 122, 123, 124, 125, 126, 37, 55, 70, 37, 56, 48, 37, 48, 48], [37, 50, 48, 33, 37, 50, 50, 35, 36, 37, 38, 39, 40, 41, 42, 43, 44, 45, 46, 47, 48, 57, 58, 59, 37, 51, 67, 61, 37, 51, 69, 63, 64, 65, 90, 91, 92, 93, 94, 95, 37, 54, 48, 97, 122, 123, 124, 125, 126, 37, 55, 70, 37, 56, 48, 37, 48, 48], [37, 50, 48, 33, 37, 50, 50, 37, 50, 51, 36, 37, 38, 39, 40, 41, 42, 43, 44, 45, 46, 47, 48, 57, 58, 59, 37, 51, 67, 61, 37, 51, 69, 63, 64, 65, 90, 91, 92, 93, 94, 95, 96, 97, 122, 123, 124, 125, 126, 37, 55, 70, 37, 56, 48, 37, 48, 48], [37, 50, 48, 33, 37, 50, 50, 37, 50, 51, 36, 37, 38, 37, 50, 55, 40, 41, 42, 43, 44, 45, 46, 47, 48, 57, 58, 59, 37, 51, 67, 61, 37, 51, 69, 63, 64, 65, 90, 91, 92, 93, 94, 95, 96, 97, 122, 123, 124, 125, 126, 37, 55, 70, 37, 56, 48, 37, 48, 48], [37, 50, 48, 33, 37, 50, 50, 37, 50, 51, 36, 37, 38, 39, 40, 41, 42, 43, 44, 45, 46, 47, 48, 57, 58, 59, 37, 51, 67, 61, 37, 51, 69, 37, 51, 70, 64, 65, 90, 91, 92, 93, 37, 53, 69, 95, 37, 54, 48, 97, 122, 37, 55, 66, 124, 37, 55, 68, 126, 37, 55, 70, 37, 56, 48, 37, 48, 48], [37, 50, 48, 33, 37, 50, 50, 37, 50, 51, 36, 37, 38, 39, 40, 41, 42, 43, 44, 45, 46, 37, 50, 70, 48, 57, 37, 51, 65, 37, 51, 66, 37, 51, 67, 37, 51, 68, 37, 51, 69, 37, 51, 70, 37, 52, 48, 65, 90, 37, 53, 66, 37, 53, 67, 37, 53, 68, 37, 53, 69, 95, 37, 54, 48, 97, 122, 37, 55, 66, 37, 55, 67, 37, 55, 68, 126, 37, 55, 70, 37, 56, 48, 37, 48, 48], [43, 37, 50, 49, 37, 50, 50, 37, 50, 51, 37, 50, 52, 37, 50, 53, 37, 50, 54, 37, 50, 55, 37, 50, 56, 37, 50, 57, 42, 37, 50, 66, 37, 50, 67, 45, 46, 37, 50, 70, 48, 57, 37, 51, 65, 37, 51, 66, 37, 51, 67, 37, 51, 68, 37, 51, 69, 37, 51, 70, 37, 52, 48, 65, 90, 37, 53, 66, 37, 53, 67, 37, 53, 68, 37, 53, 69, 95, 37, 54, 48, 97, 122, 37, 55, 66, 37, 55, 67, 37, 55, 68, 37, 55, 69, 37, 55, 70, 37, 56, 48, 37, 48, 48]]

theorem forms_ok : ∀ j : Fin 7, encd (j.val : Int) forms = wants.getD j.val [] := by decide +kernel
theorem dec_1 : decd [37, 52, 49, 37, 52, 97, 37, 52, 65, 37, 122, 122, 37, 52, 37] = [65, 74, 74, 37, 122, 122, 37, 52, 37] := by decide +kernel
theorem dec_2 : decd [37, 37, 52, 49, 43] = [37, 65, 43] := by decide +kernel

theorem load_str {w : World} {p : Addr} {s : ByteArray} (h : w.cell? p = some (.string s)) : (Instr.loadAt 9 (.pointer (some p))).run Try.prog w = .ok (.string s) w := by
  have hu := Try.underlying9
  simp [Instr.loadAt, Instr.sureAddr, loadVar, isAgg, run_underlying hu, h]

theorem addr_str (w : World) (g n i : Nat) (hi : i < n) : (Instr.indexAt 33 (.slice (some ⟨g, 0, none⟩) n n) (.int .i64 (i : Int))).run Try.prog w = .ok (.pointer (some ⟨g, i, none⟩)) w := by
  have he : Try.prog.elem 33 = 9 := by kernel_rfl
  rw [run_indexAt_slice w 33 ⟨g, 0, none⟩ n n .i64 (i : Int) (by rw [he]; exact Try.underlying33), if_pos ⟨by omega, by omega⟩, he]
  have hs : (sizeOf 9).run Try.prog w = .ok 1 w := by kernel_rfl
  rw [hs]
  simp only [Result.andThen]
  rw [Addr.add_lit]
  simp

section
variable {ops : Array Oper} {Q : Exit → Act → World → Prop} {A : Tmp → Value → World → Prop} {a0 : Act} {w0 : World} {o : Oper} {d : Tmp}

theorem ok_addr2 (hw : Wanted ops A o) (hdst : o.dst = some d) (x y : Tmp) (t : TypeId) (ho : o.op = .indexAddr t (.tmp x) (.tmp y)) (hx1 : (depSlots ops o).contains x = true) (hy1 : (depSlots ops o).contains y = true) (v u v' : Value)
    (hX : ∀ q w, A x q w → q = v) (hY : ∀ q w, A y q w → q = u) (hrun : ∀ w, (Instr.indexAt t v u).run Try.prog w = .ok v' w) (hF : ∀ w, A d v' w) : StepOk Try.prog ops Q A a0 w0 o :=
  ok_val hw hdst fun a w hx hf hd => ⟨v', w, by
    have e := hX _ _ (hd x hx1)
    have e2 := hY _ _ (hd y hy1)
    simp only [execOp, ho, Act.eval, e, e2]
    simp [hrun], hF w, Ext.refl _⟩

theorem ok_neq (hw : Wanted ops A o) (hdst : o.dst = some d) (x y : Tmp) (ty ty' : TypeId) (ho : o.op = .binOp .neq ty (.tmp x) (.tmp y) ty') (hx1 : (depSlots ops o).contains x = true) (hy1 : (depSlots ops o).contains y = true)
    (m : List UInt8) (hX : ∀ v w, A x v w → v = S m) (hY : ∀ v w, A y v w → v = S m) (hF : ∀ w, A d (.bool false) w) : StepOk Try.prog ops Q A a0 w0 o :=
  ok_val hw hdst fun a w hx hf hd => ⟨.bool false, w, by
    have e1 := hX _ _ (hd x hx1)
    have e2 := hY _ _ (hd y hy1)
    simp only [execOp, ho, Act.eval, e1, e2]
    simp [eqGuard, binOp, Op.stringOp], hF w, Ext.refl _⟩
end

def wW (w : World) : World := w.alloc (.cells #[.string ⟨#[32, 33, 34, 35, 36, 37, 38, 39, 40, 41, 42, 43, 44, 45, 46, 47, 48, 57, 58, 59, 60, 61, 62, 63, 64, 65, 90, 91, 92, 93, 94, 95, 96, 97, 122, 123, 124, 125, 126, 37, 55, 70, 37, 56, 48, 37, 48, 48]⟩, .string ⟨#[37, 50, 48, 33, 37, 50, 50, 35, 36, 37, 38, 39, 40, 41, 42, 43, 44, 45, 46, 47, 48, 57, 58, 59, 37, 51, 67, 61, 37, 51, 69, 63, 64, 65, 90, 91, 92, 93, 94, 95, 37, 54, 48, 97, 122, 123, 124, 125, 126, 37, 55, 70, 37, 56, 48, 37, 48, 48]⟩, .string ⟨#[37, 50, 48, 33, 37, 50, 50, 37, 50, 51, 36, 37, 38, 39, 40, 41, 42, 43, 44, 45, 46, 47, 48, 57, 58, 59, 37, 51, 67, 61, 37, 51, 69, 63, 64, 65, 90, 91, 92, 93, 94, 95, 96, 97, 122, 123, 124, 125, 126, 37, 55, 70, 37, 56, 48, 37, 48, 48]⟩, .string ⟨#[37, 50, 48, 33, 37, 50, 50, 37, 50, 51, 36, 37, 38, 37, 50, 55, 40, 41, 42, 43, 44, 45, 46, 47, 48, 57, 58, 59, 37, 51, 67, 61, 37, 51, 69, 63, 64, 65, 90, 91, 92, 93, 94, 95, 96, 97, 122, 123, 124, 125, 126, 37, 55, 70, 37, 56, 48, 37, 48, 48]⟩, .string ⟨([37, 50, 48, 33, 37, 50, 50, 37, 50, 51, 36, 37, 38, 39, 40, 41, 42, 43, 44, 45, 46, 47, 48, 57, 58, 59, 37, 51, 67, 61, 37, 51, 69, 37].append [51, 70, 64, 65, 90, 91, 92, 93, 37, 53, 69, 95, 37, 54, 48, 97, 122, 37, 55, 66, 124, 37, 55, 68, 126, 37, 55, 70, 37, 56, 48, 37, 48, 48]).toArray⟩, .string ⟨([37, 50, 48, 33, 37, 50, 50, 37, 50, 51, 36, 37, 38, 39, 40, 41, 42, 43, 44, 45, 46, 37, 50, 70, 48, 57, 37, 51, 65, 37, 51, 66, 37, 51, 67, 37, 51, 68, 37, 51, 69, 37, 51].append [70, 37, 52, 48, 65, 90, 37, 53, 66, 37, 53, 67, 37, 53, 68, 37, 53, 69, 95, 37, 54, 48, 97, 122, 37, 55, 66, 37, 55, 67, 37, 55, 68, 126, 37, 55, 70, 37, 56, 48, 37, 48, 48]).toArray⟩, .string ⟨([43, 37, 50, 49, 37, 50, 50, 37, 50, 51, 37, 50, 52, 37, 50, 53, 37, 50, 54, 37, 50, 55, 37, 50, 56, 37, 50, 57, 42, 37, 50, 66, 37, 50, 67, 45, 46, 37, 50, 70, 48, 57, 37, 51, 65, 37, 51, 66, 37, 51, 67, 37].append [51, 68, 37, 51, 69, 37, 51, 70, 37, 52, 48, 65, 90, 37, 53, 66, 37, 53, 67, 37, 53, 68, 37, 53, 69, 95, 37, 54, 48, 97, 122, 37, 55, 66, 37, 55, 67, 37, 55, 68, 37, 55, 69, 37, 55, 70, 37, 56, 48, 37, 48, 48]).toArray⟩] 9)

theorem rd_wants (w : World) : RdV (wW w) (some ⟨w.heap.size, 0, none⟩) 7 (wants.map S) := RdV.lit w (wants.map S) 9 (0, 0) (show 7 ≤ 9223372036854775807 by omega)
theorem ext_wW (w : World) : Ext w (wW w) := Ext.alloc w _
theorem rd_forms (w : World) (fz : Nat × Nat) : RdV (w.alloc (.cells #[.int .u8 32, .int .u8 33, .int .u8 34, .int .u8 35, .int .u8 36, .int .u8 37, .int .u8 38, .int .u8 39, .int .u8 40, .int .u8 41, .int .u8 42, .int .u8 43, .int .u8 44, .int .u8 45, .int .u8 46, .int .u8 47, .int .u8 48, .int .u8 57, .int .u8 58, .int .u8 59, .int .u8 60, .int .u8 61, .int .u8 62, .int .u8 63, .int .u8 64, .int .u8 65, .int .u8 90, .int .u8 91, .int .u8 92, .int .u8 93, .int .u8 94, .int .u8 95, .int .u8 96, .int .u8 97, .int .u8 122, .int .u8 123, .int .u8 124, .int .u8 125, .int .u8 126, .int .u8 127, .int .u8 128, .int .u8 0] 5 fz)) (some ⟨w.heap.size, 0, none⟩) 42 (forms.map B) := RdV.lit w (forms.map B) 5 fz (show 42 ≤ 9223372036854775807 by omega)

theorem size_alloc (w : World) (o : Obj) : (w.alloc o).heap.size = w.heap.size + 1 := by
  show (w.heap.push o).size = _
  simp

set_option maxHeartbeats 800000 in
theorem forms_walk (w : World) : Calls Try.prog 7 #[] w fun e w' => e = .returned (.bool true) ∧ Below w.heap.size w w' := by
  have kc := fun (w : World) (C : Array Value) (n c : Nat) => Lib.run_convert_bytes_const (P := Try.prog) w 22 5 C n c Try.underlying22 Try.underlying5
  go_enter Try.func7, Try.ntmps7
  go_wp2_with fail
  refine (begun_yes _).mono ?_
  rintro e w1 ⟨rfl, hx1⟩
  go_wp2_with fail
  have hW := rd_wants (w1.alloc (.cells #[.int .u8 32, .int .u8 33, .int .u8 34, .int .u8 35, .int .u8 36, .int .u8 37, .int .u8 38, .int .u8 39, .int .u8 40, .int .u8 41, .int .u8 42, .int .u8 43, .int .u8 44, .int .u8 45, .int .u8 46, .int .u8 47, .int .u8 48, .int .u8 57, .int .u8 58, .int .u8 59, .int .u8 60, .int .u8 61, .int .u8 62, .int .u8 63, .int .u8 64, .int .u8 65, .int .u8 90, .int .u8 91, .int .u8 92, .int .u8 93, .int .u8 94, .int .u8 95, .int .u8 96, .int .u8 97, .int .u8 122, .int .u8 123, .int .u8 124, .int .u8 125, .int .u8 126, .int .u8 127, .int .u8 128, .int .u8 0] 5 (42, 43)))
  have hB := (rd_forms w1 (42, 43)).below (ext_wW _)
  have hxL := (hx1.trans (Ext.alloc w1 (.cells #[.int .u8 32, .int .u8 33, .int .u8 34, .int .u8 35, .int .u8 36, .int .u8 37, .int .u8 38, .int .u8 39, .int .u8 40, .int .u8 41, .int .u8 42, .int .u8 43, .int .u8 44, .int .u8 45, .int .u8 46, .int .u8 47, .int .u8 48, .int .u8 57, .int .u8 58, .int .u8 59, .int .u8 60, .int .u8 61, .int .u8 62, .int .u8 63, .int .u8 64, .int .u8 65, .int .u8 90, .int .u8 91, .int .u8 92, .int .u8 93, .int .u8 94, .int .u8 95, .int .u8 96, .int .u8 97, .int .u8 122, .int .u8 123, .int .u8 124, .int .u8 125, .int .u8 126, .int .u8 127, .int .u8 128, .int .u8 0] 5 (42, 43)))).trans (ext_wW _)
  rw [size_alloc] at hW
  change Code.wp _ _ _ _ (wW (w1.alloc (.cells #[.int .u8 32, .int .u8 33, .int .u8 34, .int .u8 35, .int .u8 36, .int .u8 37, .int .u8 38, .int .u8 39, .int .u8 40, .int .u8 41, .int .u8 42, .int .u8 43, .int .u8 44, .int .u8 45, .int .u8 46, .int .u8 47, .int .u8 48, .int .u8 57, .int .u8 58, .int .u8 59, .int .u8 60, .int .u8 61, .int .u8 62, .int .u8 63, .int .u8 64, .int .u8 65, .int .u8 90, .int .u8 91, .int .u8 92, .int .u8 93, .int .u8 94, .int .u8 95, .int .u8 96, .int .u8 97, .int .u8 122, .int .u8 123, .int .u8 124, .int .u8 125, .int .u8 126, .int .u8 127, .int .u8 128, .int .u8 0] 5 (42, 43))))
  generalize wW (w1.alloc (.cells #[.int .u8 32, .int .u8 33, .int .u8 34, .int .u8 35, .int .u8 36, .int .u8 37, .int .u8 38, .int .u8 39, .int .u8 40, .int .u8 41, .int .u8 42, .int .u8 43, .int .u8 44, .int .u8 45, .int .u8 46, .int .u8 47, .int .u8 48, .int .u8 57, .int .u8 58, .int .u8 59, .int .u8 60, .int .u8 61, .int .u8 62, .int .u8 63, .int .u8 64, .int .u8 65, .int .u8 90, .int .u8 91, .int .u8 92, .int .u8 93, .int .u8 94, .int .u8 95, .int .u8 96, .int .u8 97, .int .u8 122, .int .u8 123, .int .u8 124, .int .u8 125, .int .u8 126, .int .u8 127, .int .u8 128, .int .u8 0] 5 (42, 43))) = wL at *
  generalize hgw : w1.heap.size + 1 = gw at *
  generalize w1.heap.size = gb at *
  clear hx1 kc hgw
  go_loopw [3] (fun i wr => ∃ j : Nat, j ≤ 7 ∧ i = .int .i64 j ∧ Ext wL wr) (fun i _ => 7 - (intOf i).toNat)
  case atStart => exact ⟨0, by omega, rfl, Ext.refl _⟩
  case round =>
    obtain ⟨j, hj, rfl, hxr⟩ := hrel
    by_cases hjl : j < 7
    · have henc := forms_ok ⟨j, hjl⟩
      simp only at henc
      have hcell : ∀ w', Ext wL w' → w'.cell? ⟨gw, j, none⟩ = some (S (wants.getD j [])) := by
        intro w' hx'
        obtain ⟨b, off, e, hc⟩ := (hW.below hx').cells (by simp [wants])
        simp only [Option.some.injEq, Addr.mk.injEq] at e
        obtain ⟨rfl, rfl, _⟩ := e
        have hl : wants.length = 7 := rfl
        have := hc j (by rw [List.length_map, hl]; exact hjl)
        rw [Nat.zero_add] at this
        rw [this]
        simp [S, List.getD, hl, hjl]
      go_wp2_with fail
      refine wp_region_open2 (A := knows [(15, isF (.int .i64 (j : Int))), (16, cellsF (forms.map B)), (17, isF (S (wants.getD j []))), (18, isF (.slice (some ⟨gw, 0, none⟩) 7 7)), (19, isF (.int .i64 (j : Int))), (20, isF (.pointer (some ⟨gw, j, none⟩))), (21, isF (S (wants.getD j []))), (22, isF (.bool false))]) [15, 16, 17, 18, 19, 20, 21, 22] (by kernel_rfl) (by kernel_rfl) (by kernel_rfl) (knows_mono _) (steps_of ?_) ?_
      · skip
        refine allOps_cons (ok_fixed (.inl rfl) rfl 3 (.int .i64 (j : Int)) (.inl rfl) (by kernel_rfl) rfl (fun _ _ => rfl)) ?_
        refine allOps_cons (ok_fixed (.inl rfl) rfl 1 (.slice (some ⟨gb, 0, none⟩) 42 42) (.inl rfl) (by kernel_rfl) rfl (fun wx hx => ⟨_, _, rfl, hB.below (hxr.trans hx)⟩)) ?_
        refine allOps_cons (ok_enc (.inl rfl) rfl 15 16 _ rfl (by kernel_rfl) (by kernel_rfl) (j : Int) forms (by decide) (fun _ _ h => h) (fun _ _ h => h) (fun _ => congrArg S henc)) ?_
        refine allOps_cons (ok_fixed (.inl rfl) rfl 2 (.slice (some ⟨gw, 0, none⟩) 7 7) (.inl rfl) (by kernel_rfl) rfl (fun _ _ => rfl)) ?_
        refine allOps_cons (ok_fixed (.inl rfl) rfl 3 (.int .i64 (j : Int)) (.inl rfl) (by kernel_rfl) rfl (fun _ _ => rfl)) ?_
        refine allOps_cons (ok_addr2 (.inl rfl) rfl 18 19 _ rfl (by kernel_rfl) (by kernel_rfl) _ _ _ (fun _ _ h => h) (fun _ _ h => h) (fun w => addr_str w gw 7 j hjl) (fun _ => rfl)) ?_
        refine allOps_cons (ok_load (.inl rfl) rfl 20 _ rfl (by kernel_rfl) _ _ (fun _ _ h => h) (fun w hx => load_str (hcell w (hxr.trans hx))) (fun _ => rfl)) ?_
        refine allOps_cons (ok_neq (.inl rfl) rfl 17 21 _ _ rfl (by kernel_rfl) (by kernel_rfl) (wants.getD j []) (fun _ _ h => h) (fun _ _ h => h) (fun _ => rfl)) ?_
        exact allOps_nil
      · intro vs wz hx hkn
        have h22 : vs 22 = .bool false := hkn 22 rfl
        have hxz := hxr.trans hx
        simp only [putAll, h22, Act.put, List.setIfInBounds_toArray, List.set_cons_succ, List.set_cons_zero]
        clear hkn h22 hcell henc hx hxr hB hW
        generalize vs 15 = u15
        generalize vs 16 = u16
        generalize vs 17 = u17
        generalize vs 18 = u18
        generalize vs 19 = u19
        generalize vs 20 = u20
        generalize vs 21 = u21
        refine ‹∀ (a : Act) (w : World), Code.wp Try.prog _ _ a w → _› _ wz ?_
        go_wp2
        go_roundw
        case rel => exact ⟨j + 1, by omega, by go_num, hxz⟩
        case measure => simp [intOf]; omega
    · have hx1 := hxL.trans hxr
      clear hB hW
      go_wp2_with fail
      refine (decode_any [37, 52, 49, 37, 52, 97, 37, 52, 65, 37, 122, 122, 37, 52, 37] _ (by simp)).mono ?_
      rw [dec_1]
      rintro e w4 ⟨ao, cap, rfl, hr4, hx4⟩
      have cs := conv_str w4 ao 9 cap [65, 74, 74, 37, 122, 122, 37, 52, 37] rfl hr4
      have hx4 := hx1.trans hx4
      clear hx1
      go_wp2_with fail
      refine (decode_any [37, 37, 52, 49, 43] _ (by simp)).mono ?_
      rw [dec_2]
      rintro e w5 ⟨ao5, cap5, rfl, hr5, hx5⟩
      have cs5 := conv_str w5 ao5 3 cap5 [37, 65, 43] rfl hr5
      have hx5 := hx4.trans hx5
      clear hx4 cs hr4
      go_wp2_with fail
      refine (encode_own 6 none 0 0 [] _ rfl (by omega) (RdV.nothing _)).mono ?_
      rw [show encd 6 [] = [] from rfl]
      rintro e w6 ⟨rfl, hx6⟩
      have hx6 := hx5.trans hx6
      clear hx5 cs5 hr5
      go_wp2
      go_ret
      exact ⟨rfl, hx6⟩
end Go.Proofs.Ythgoipljhhjebaa
