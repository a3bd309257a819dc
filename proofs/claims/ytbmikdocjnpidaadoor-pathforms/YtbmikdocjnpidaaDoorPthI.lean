/-
  What some ways are.
-/
import Derived.Test.YtbmikdocjnpidaaDoorPthH
import Derived.Test.YtbmikdocjnpidaaDoorReg2
namespace Go.Proofs.YtbmikdocjnpidaaDoor
set_option linter.unusedVariables false
open Go.RowKit

def fromT : List (List UInt8) := [[], [97], [97, 47], [47], [46], [46, 46], [97, 47, 46], [97, 47, 46, 46], [97, 47, 46, 47, 98], [97, 47, 46, 46, 47, 98], [46, 46, 47, 46, 46, 47, 97], [37, 50, 101, 37, 50, 69, 47, 97], [97, 32, 98, 47, 63], [97, 92, 98], [46, 46, 46], [97, 47, 47, 98], [46, 47]]
def toT : List (List UInt8) := [[47], [47, 97], [47, 97, 47], [47, 47], [47], [47], [47, 97, 47], [47], [47, 97, 47, 98], [47, 98], [47, 97], [47, 97], [47, 97, 37, 50, 48, 98, 47, 37, 51, 70], [47, 97, 47, 98], [47, 46, 46, 46], [47, 97, 47, 47, 98], [47]]
theorem forms_ok : ∀ k : Fin 17, shw (par (fromT.getD k.val []) true []) = toT.getD k.val [] ∧ (fromT.getD k.val []).length ≤ 20 := by decide +kernel

section
variable {ops : Array Oper} {Q : Exit → Act → World → Prop} {A : Tmp → Value → World → Prop} {a0 : Act} {w0 : World} {o : Oper} {d : Tmp}
theorem ok_neqS (hw : Wanted ops A o) (hdst : o.dst = some d) (x y : Tmp) (ty ty' : TypeId) (ho : o.op = .binOp .neq ty (.tmp x) (.tmp y) ty') (hx1 : (depSlots ops o).contains x = true) (hy1 : (depSlots ops o).contains y = true)
    (m : List UInt8) (hX : ∀ v w, A x v w → v = S m) (hY : ∀ v w, A y v w → v = S m) (hF : ∀ w, A d (.bool false) w) : StepOk Tryd.prog ops Q A a0 w0 o :=
  ok_val hw hdst fun a w hx hf hd => ⟨.bool false, w, by
    have e1 := hX _ _ (hd x hx1)
    have e2 := hY _ _ (hd y hy1)
    simp only [execOp, ho, Act.eval, e1, e2]
    simp [eqGuard, binOp, Op.stringOp], hF w, Ext.refl _⟩
end
theorem parse_gives (s : List UInt8) (sp : Bool) (w : World) (hs : s.length ≤ 100000) (hM : MaxL w) : Calls Tryd.prog 9 #[S s, .bool sp, .slice none 0 0] w (Gives w ((par s sp []).map S)) :=
  (parse_nil s sp w hs hM).mono fun e w' ⟨g, c, he, hr, hx⟩ => ⟨some ⟨g, 0, none⟩, c, by rw [List.length_map]; exact he, hr, hx⟩

set_option maxHeartbeats 4000000 in
set_option maxRecDepth 100000 in
theorem forms10_walk (w : World) (tb : MaxL w) : Calls Tryd.prog 6 #[] w fun e w' => e = .returned (.bool true) ∧ Ext w w' := by
  have HB := hide (begun_yes w tb)
  have HTB := hide tb
  go_enter Tryd.func6, Tryd.ntmps6
  go_wp2_with fail
  refine (unhide HB).mono ?_
  rintro e w1 ⟨rfl, hx1⟩
  clear HB tb
  have ST : Hid (∃ k : Nat, k ≤ 17 ∧ Value.int .i64 0 = .int .i64 (k : Int) ∧ RdV ((w1.alloc (.cells (fromT.map S).toArray 9 (0, 0))).alloc (.cells (toT.map S).toArray 9 (0, 0))) (some ⟨w1.heap.size, 0, none⟩) 17 (fromT.map S) ∧ RdV ((w1.alloc (.cells (fromT.map S).toArray 9 (0, 0))).alloc (.cells (toT.map S).toArray 9 (0, 0))) (some ⟨w1.heap.size + 1, 0, none⟩) 17 (toT.map S) ∧ Ext w ((w1.alloc (.cells (fromT.map S).toArray 9 (0, 0))).alloc (.cells (toT.map S).toArray 9 (0, 0)))) := by
    refine ⟨0, by omega, rfl, (RdV.lit w1 (fromT.map S) 9 (0, 0) (by decide)).below (Ext.alloc _ _), ?_, hx1.trans ((Ext.alloc w1 _).trans (Ext.alloc _ _))⟩
    have := RdV.lit (w1.alloc (.cells (fromT.map S).toArray 9 (0, 0))) (toT.map S) 9 (0, 0) (by decide)
    rw [show (w1.alloc (.cells (fromT.map S).toArray 9 (0, 0))).heap.size = w1.heap.size + 1 by simp] at this
    exact this
  clear hx1
  go_wp2_with fail
  go_loopw [3] (fun i wr => ∃ k : Nat, k ≤ 17 ∧ i = .int .i64 (k : Int) ∧ RdV wr (some ⟨w1.heap.size, 0, none⟩) 17 (fromT.map S) ∧ RdV wr (some ⟨w1.heap.size + 1, 0, none⟩) 17 (toT.map S) ∧ Ext w wr) (fun i _ => 17 - (intOf i).toNat)
  case atStart => exact unhide ST
  case round =>
    clear ST
    obtain ⟨k, hk, rfl, RF, RT, hx⟩ := hrel
    by_cases hkl : k < 17
    · have hkl' : (k : Int) < 17 := by omega
      obtain ⟨hsh, hlf⟩ : shw (par (fromT.getD k []) true []) = toT.getD k [] ∧ (fromT.getD k []).length ≤ 20 := forms_ok ⟨k, hkl⟩
      have cF := at_row RF k hkl
      have cT := at_row RT k hkl
      have hMr := MaxL.below (unhide HTB) hx
      obtain ⟨hs1, hs2⟩ := shw_par (fromT.getD k []) true (by omega)
      rw [hsh] at hs1
      have KEY : Hid (∀ w', Ext wr w' → (∃ k' : Nat, k' ≤ 17 ∧ Value.int .i64 ((k : Int) + 1) = .int .i64 (k' : Int) ∧ RdV w' (some ⟨w1.heap.size, 0, none⟩) 17 (fromT.map S) ∧ RdV w' (some ⟨w1.heap.size + 1, 0, none⟩) 17 (toT.map S) ∧ Ext w w') ∧ 17 - ((k : Int) + 1).toNat < 17 - k) := fun w' h' =>
        ⟨⟨k + 1, by omega, by simp, RF.below h', RT.below h', hx.trans h'⟩, by omega⟩
      have HPG := hide (fun (v : World) (hv : Ext wr v) => parse_gives (fromT.getD k []) true v (by omega) (hMr.below hv))
      have HSG := hide (fun (v : World) (ao : Option Addr) (c : Nat) (h : RdV v ao c ((par (fromT.getD k []) true []).map S)) => show_any ao c (par (fromT.getD k []) true []) v (by rw [hsh]; omega) h)
      rw [hsh] at HSG
      clear hMr hsh RF RT
      generalize par (fromT.getD k []) true [] = L at *
      generalize fromT.getD k [] = f at *
      generalize toT.getD k [] = W at *
      go_wp2_with fail
      refine wp_region_open2 (A := knows [(14, isF (.slice (some ⟨w1.heap.size, 0, none⟩) 17 17)), (15, isF (.int .i64 (k : Int))), (16, isF (.pointer (some ⟨w1.heap.size, k, none⟩))), (17, isF (S f)), (18, cellsF (L.map S)), (19, isF (S W)), (20, isF (.slice (some ⟨w1.heap.size + 1, 0, none⟩) 17 17)), (21, isF (.int .i64 (k : Int))), (22, isF (.pointer (some ⟨w1.heap.size + 1, k, none⟩))), (23, isF (S W)), (24, isF (.bool false))]) [14, 15, 16, 17, 18, 19, 20, 21, 22, 23, 24] (by kernel_rfl) (by kernel_rfl) (by kernel_rfl) (knows_mono _) (steps_of ?_) ?_
      · skip
        refine allOps_cons (ok_fixed (.inl rfl) rfl 1 (.slice (some ⟨w1.heap.size, 0, none⟩) 17 17) (.inl rfl) (by kernel_rfl) rfl (fun _ _ => rfl)) ?_
        refine allOps_cons (ok_fixed (.inl rfl) rfl 3 (.int .i64 (k : Int)) (.inl rfl) (by kernel_rfl) rfl (fun _ _ => rfl)) ?_
        refine allOps_cons (ok_addrS (.inl rfl) rfl 14 15 _ rfl (by kernel_rfl) (by kernel_rfl) _ _ _ (fun _ _ h => h) (fun _ _ h => h) (fun u => addr_S u w1.heap.size 0 17 17 k hkl) (fun _ => by rw [Nat.zero_add]; rfl)) ?_
        refine allOps_cons (ok_loadS (.inl rfl) rfl 16 _ rfl (by kernel_rfl) _ (S f) (fun _ _ h => h) (fun u hu => load_S ((hu.cell (p := ⟨w1.heap.size, k, none⟩) (cell_lt cF)).trans cF)) (fun _ => rfl)) ?_
        refine allOps_cons (ok_gives (.inl rfl) rfl 9 _ _ (fun args v => run_enter 9 Tryd.f9 Tryd.func9 (by kernel_rfl) (by kernel_rfl) args v) rfl (L.map S) (fun a v hv hf hd => by
          have e2 : a.tmps.getD 17 undef = S f := hd 17 (by kernel_rfl)
          have e3 : (#[Operand.tmp 17, Operand.const (.bool true), Operand.const (.slice none 0 0)] : Array Operand).map a.eval = #[S f, .bool true, .slice none 0 0] := by
            rw [Array.getD_eq_getD_getElem?] at e2
            simp [Act.eval, e2]
          rw [e3]
          exact unhide HPG v hv) (fun _ _ h => h)) ?_
        refine allOps_cons (ok_is (.inl rfl) rfl 16 _ _ (fun args v => run_enter 16 Tryd.f16 Tryd.func16 (by kernel_rfl) (by kernel_rfl) args v) rfl (S W) (fun a v hv hf hd => by
          obtain ⟨ao, c, e2, hr⟩ := hd 18 (by kernel_rfl)
          have e3 : (#[Operand.tmp 18] : Array Operand).map a.eval = #[.slice ao L.length c] := by
            rw [List.length_map, Array.getD_eq_getD_getElem?] at e2
            simp [Act.eval, e2]
          rw [e3]
          exact unhide HSG v ao c hr) (fun _ => rfl)) ?_
        refine allOps_cons (ok_fixed (.inl rfl) rfl 2 (.slice (some ⟨w1.heap.size + 1, 0, none⟩) 17 17) (.inl rfl) (by kernel_rfl) rfl (fun _ _ => rfl)) ?_
        refine allOps_cons (ok_fixed (.inl rfl) rfl 3 (.int .i64 (k : Int)) (.inl rfl) (by kernel_rfl) rfl (fun _ _ => rfl)) ?_
        refine allOps_cons (ok_addrS (.inl rfl) rfl 20 21 _ rfl (by kernel_rfl) (by kernel_rfl) _ _ _ (fun _ _ h => h) (fun _ _ h => h) (fun u => addr_S u (w1.heap.size + 1) 0 17 17 k hkl) (fun _ => by rw [Nat.zero_add]; rfl)) ?_
        refine allOps_cons (ok_loadS (.inl rfl) rfl 22 _ rfl (by kernel_rfl) _ (S W) (fun _ _ h => h) (fun u hu => load_S ((hu.cell (p := ⟨w1.heap.size + 1, k, none⟩) (cell_lt cT)).trans cT)) (fun _ => rfl)) ?_
        refine allOps_cons (ok_neqS (.inl rfl) rfl 19 23 _ _ rfl (by kernel_rfl) (by kernel_rfl) W (fun _ _ h => h) (fun _ _ h => h) (fun _ => rfl)) ?_
        exact allOps_nil
      · intro vs wz hxz hkn
        have h24 : vs 24 = .bool false := hkn 24 (by kernel_rfl)
        have KK := hide (unhide KEY wz hxz)
        simp only [putAll, h24, Act.put, List.setIfInBounds_toArray, List.set_cons_succ, List.set_cons_zero]
        clear hkn h24 hxz KEY HPG HSG cF cT hx
        generalize vs 14 = y14
        generalize vs 15 = y15
        generalize vs 16 = y16
        generalize vs 17 = y17
        generalize vs 18 = y18
        generalize vs 19 = y19
        generalize vs 20 = y20
        generalize vs 21 = y21
        generalize vs 22 = y22
        generalize vs 23 = y23
        go_wp2
        exact unhide KK
    · have hk2 : k = 17 := by omega
      subst hk2
      clear RF RT
      have hMr := MaxL.below (unhide HTB) hx
      have A1 := hide (parse_nil [97, 92, 98] false wr (by decide) hMr)
      rw [show par [97, 92, 98] false [] = [[97, 92, 98]] by decide +kernel] at A1
      have FX := hide hx
      have HMr := hide hMr
      clear hx hMr
      go_wp2_with fail
      refine (unhide A1).mono ?_
      rintro e w2 ⟨g2, q2, rfl, R2, hx2⟩
      clear A1
      have A2 := hide (show_any (some ⟨g2, 0, none⟩) q2 [[97, 92, 98]] w2 (by decide +kernel) R2)
      rw [show shw [[97, 92, 98]] = [47, 97, 92, 98] by decide +kernel] at A2
      have X2 := hide hx2
      clear R2 hx2
      go_wp2_with fail
      refine (unhide A2).mono ?_
      rintro e w3 ⟨rfl, hx3⟩
      clear A2
      have X3 : Hid (Ext wr w3) := (unhide X2).trans hx3
      clear hx3 X2
      have A3 := hide (parse_rd [46, 46, 47, 99] true (some ⟨w3.heap.size, 0, none⟩) 2 [[97], [98]] (w3.alloc (.cells #[.string ⟨#[97]⟩, .string ⟨#[98]⟩] 9 (0, 0))) (by decide) (by decide) (by decide) (RdV.lit w3 ([[97], [98]].map S) 9 (0, 0) (by simp)) ((unhide HMr).below ((unhide X3).trans (Ext.alloc _ _))))
      rw [show par [46, 46, 47, 99] true [[97], [98]] = [[97], [99]] by decide +kernel] at A3
      have X4 : Hid (Ext wr (w3.alloc (.cells #[.string ⟨#[97]⟩, .string ⟨#[98]⟩] 9 (0, 0)))) := (unhide X3).trans (Ext.alloc _ _)
      clear X3
      go_wp2_with fail
      refine (unhide A3).mono ?_
      rintro e w5 ⟨g5, q5, rfl, R5, hx5⟩
      clear A3
      have A4 := hide (show_any (some ⟨g5, 0, none⟩) q5 [[97], [99]] w5 (by decide +kernel) R5)
      rw [show shw [[97], [99]] = [47, 97, 47, 99] by decide +kernel] at A4
      have X5 : Hid (Ext wr w5) := (unhide X4).trans hx5
      clear R5 hx5 X4
      go_wp2_with fail
      refine (unhide A4).mono ?_
      rintro e w6 ⟨rfl, hx6⟩
      clear A4
      have A5 := hide (show_any none 0 [] w6 (by decide +kernel) (RdV.nothing w6))
      rw [show shw [] = [] by decide +kernel] at A5
      have X6 : Hid (Ext wr w6) := (unhide X5).trans hx6
      clear hx6 X5
      go_wp2_with fail
      refine (unhide A5).mono ?_
      rintro e w7 ⟨rfl, hx7⟩
      clear A5
      have A6 := hide (sing_any [] w7)
      rw [show sing [] = false by decide +kernel] at A6
      have X7 : Hid (Ext wr w7) := (unhide X6).trans hx7
      clear hx7 X6
      go_wp2_with fail
      refine (unhide A6).mono ?_
      rintro e w8 ⟨rfl, hx8⟩
      clear A6
      have A7 := hide (doub_any [46] w8)
      rw [show doub [46] = false by decide +kernel] at A7
      have X8 : Hid (Ext wr w8) := (unhide X7).trans hx8
      clear hx8 X7
      go_wp2_with fail
      refine (unhide A7).mono ?_
      rintro e w9 ⟨rfl, hx9⟩
      clear A7
      have A8 := hide (sing_any [37, 50] w9)
      rw [show sing [37, 50] = false by decide +kernel] at A8
      have X9 : Hid (Ext wr w9) := (unhide X8).trans hx9
      clear hx9 X8
      go_wp2_with fail
      refine (unhide A8).mono ?_
      rintro e wA ⟨rfl, hxA⟩
      clear A8
      have FF := (unhide FX).trans ((unhide X9).trans hxA)
      go_wp2
      go_ret
      exact ⟨rfl, FF⟩
end Go.Proofs.YtbmikdocjnpidaaDoor
