/-
  What some questions are.
-/
import Derived.Test.YtilmkmplaehcaaaDoorQryF
import Derived.Test.YtilmkmplaehcaaaDoorQryD
import Derived.Test.YtilmkmplaehcaaaDoorReg2
namespace Go.Proofs.YtilmkmplaehcaaaDoor
set_option linter.unusedVariables false
open Go.RowKit

theorem at_row {w : World} {g c : Nat} {l : List (List UInt8)} (h : RdV w (some ⟨g, 0, none⟩) c (l.map S)) (k : Nat) (hk : k < l.length) : w.cell? ⟨g, k, none⟩ = some (S (l.getD k [])) := by
  obtain ⟨b', off', eb, hc⟩ := h.cell k (by simpa using hk)
  simp only [Option.some.injEq, Addr.mk.injEq] at eb
  obtain ⟨rfl, rfl, _⟩ := eb
  rw [Nat.zero_add] at hc
  rw [hc]
  simp [List.getD, hk]

def fromQ : List (List UInt8) := [[], [38, 38], [97], [61], [97, 61], [61, 98], [97, 61, 98, 61, 99], [97, 43, 98, 61, 37, 50, 48], [37, 52, 49, 61, 37, 50, 98], [255, 61, 49], [97, 38, 97, 61, 49]]
def toQ : List (List UInt8) := [[], [], [97, 61], [61], [97, 61], [61, 98], [97, 61, 98, 37, 51, 68, 99], [97, 43, 98, 61, 43], [65, 61, 37, 50, 66], [37, 69, 70, 37, 66, 70, 37, 66, 68, 61, 49], [97, 61, 38, 97, 61, 49]]
theorem forms_ok : ∀ k : Fin 11, shwQ (parQ (fromQ.getD k.val [])) = toQ.getD k.val [] ∧ (fromQ.getD k.val []).length ≤ 20 := by decide +kernel

section
variable {ops : Array Oper} {Q : Exit → Act → World → Prop} {A : Tmp → Value → World → Prop} {a0 : Act} {w0 : World} {o : Oper} {d : Tmp}
theorem ok_neqS (hw : Wanted ops A o) (hdst : o.dst = some d) (x y : Tmp) (ty ty' : TypeId) (ho : o.op = .binOp .neq ty (.tmp x) (.tmp y) ty') (hx1 : (depSlots ops o).contains x = true) (hy1 : (depSlots ops o).contains y = true)
    (m : List UInt8) (hX : ∀ v w, A x v w → v = S m) (hY : ∀ v w, A y v w → v = S m) (hF : ∀ w, A d (.bool false) w) : StepOk Tryd.prog ops Q A a0 w0 o :=
  ok_val hw hdst fun a w hx hf hd => ⟨.bool false, w, by
    have e1 := hX _ _ (hd x hx1)
    have e2 := hY _ _ (hd y hy1)
    simp only [execOp, ho, Act.eval, e1, e2]
    simp [eqGuard, binOp, Op.stringOp], hF w, Ext.refl _⟩
/-- A call that answers pairs. -/
theorem ok_givesP (hw : Wanted ops A o) (hdst : o.dst = some d) (f : FuncId) (xs : Array Operand) (ats : Array TypeId) (hE : ∀ args w, (callFunc f args).run Tryd.prog w = .ok (.enter f args) w)
    (ho : o.op = .call { callee := .value (.func f), args := xs, argTypes := ats }) (l : List Pr)
    (h : ∀ (a : Act) (w : World), Ext w0 w → (∀ t, (dstSlots ops).contains t = false → a.tmps.getD t undef = a0.tmps.getD t undef) → (∀ t, (depSlots ops o).contains t = true → A t (a.tmps.getD t undef) w) → Calls Tryd.prog f (xs.map a.eval) w fun e w' => ∃ ao c, e = .returned (.slice ao l.length c) ∧ RdP w' ao c l ∧ Ext w w')
    (hF : ∀ v w, (pairsF l).holds v w → A d v w) : StepOk Tryd.prog ops Q A a0 w0 o :=
  ok_call hw hdst f xs ats hE ho fun a w hx hf hd => (h a w hx hf hd).mono fun e w' ⟨ao, cap, h1, h2, h3⟩ => ⟨_, h1, hF _ _ ⟨ao, cap, rfl, h2⟩, h3⟩
end
set_option maxHeartbeats 4000000 in
set_option maxRecDepth 100000 in
theorem forms11_walk (hp : ParseOk) (hs : ShowOk) (w : World) (tb : MaxL w) : Calls Tryd.prog 7 #[] w fun e w' => e = .returned (.bool true) ∧ Ext w w' := by
  have HB := hide (begun_yes hp hs w tb)
  have HTB := hide tb
  go_enter Tryd.func7, Tryd.ntmps7
  go_wp2_with fail
  refine (unhide HB).mono ?_
  rintro e w1 ⟨rfl, hx1⟩
  clear HB tb
  have ST : Hid (∃ k : Nat, k ≤ 11 ∧ Value.int .i64 0 = .int .i64 (k : Int) ∧ RdV ((w1.alloc (.cells (fromQ.map S).toArray 9 (0, 0))).alloc (.cells (toQ.map S).toArray 9 (0, 0))) (some ⟨w1.heap.size, 0, none⟩) 11 (fromQ.map S) ∧ RdV ((w1.alloc (.cells (fromQ.map S).toArray 9 (0, 0))).alloc (.cells (toQ.map S).toArray 9 (0, 0))) (some ⟨w1.heap.size + 1, 0, none⟩) 11 (toQ.map S) ∧ Ext w ((w1.alloc (.cells (fromQ.map S).toArray 9 (0, 0))).alloc (.cells (toQ.map S).toArray 9 (0, 0)))) := by
    refine ⟨0, by omega, rfl, (RdV.lit w1 (fromQ.map S) 9 (0, 0) (by decide)).below (Ext.alloc _ _), ?_, hx1.trans ((Ext.alloc w1 _).trans (Ext.alloc _ _))⟩
    have := RdV.lit (w1.alloc (.cells (fromQ.map S).toArray 9 (0, 0))) (toQ.map S) 9 (0, 0) (by decide)
    rw [show (w1.alloc (.cells (fromQ.map S).toArray 9 (0, 0))).heap.size = w1.heap.size + 1 by simp] at this
    exact this
  clear hx1
  go_wp2_with fail
  go_loopw [3] (fun i wr => ∃ k : Nat, k ≤ 11 ∧ i = .int .i64 (k : Int) ∧ RdV wr (some ⟨w1.heap.size, 0, none⟩) 11 (fromQ.map S) ∧ RdV wr (some ⟨w1.heap.size + 1, 0, none⟩) 11 (toQ.map S) ∧ Ext w wr) (fun i _ => 11 - (intOf i).toNat)
  case atStart => exact unhide ST
  case round =>
    clear ST
    obtain ⟨k, hk, rfl, RF, RT, hx⟩ := hrel
    by_cases hkl : k < 11
    · have hkl' : (k : Int) < 11 := by omega
      obtain ⟨hsh, hlf⟩ : shwQ (parQ (fromQ.getD k [])) = toQ.getD k [] ∧ (fromQ.getD k []).length ≤ 20 := forms_ok ⟨k, hkl⟩
      have cF := at_row RF k hkl
      have cT := at_row RT k hkl
      have hMr := MaxL.below (unhide HTB) hx
      obtain ⟨hs1, hs2⟩ := shw_par (fromQ.getD k []) (by omega)
      rw [hsh] at hs1
      have KEY : Hid (∀ w', Ext wr w' → (∃ k' : Nat, k' ≤ 11 ∧ Value.int .i64 ((k : Int) + 1) = .int .i64 (k' : Int) ∧ RdV w' (some ⟨w1.heap.size, 0, none⟩) 11 (fromQ.map S) ∧ RdV w' (some ⟨w1.heap.size + 1, 0, none⟩) 11 (toQ.map S) ∧ Ext w w') ∧ 11 - ((k : Int) + 1).toNat < 11 - k) := fun w' h' =>
        ⟨⟨k + 1, by omega, by simp, RF.below h', RT.below h', hx.trans h'⟩, by omega⟩
      have HPG := hide (fun (v : World) (hv : Ext wr v) => hp (fromQ.getD k []) v (by omega) (hMr.below hv))
      have HSG := hide (fun (v : World) (ao : Option Addr) (c : Nat) (h : RdP v ao c (parQ (fromQ.getD k []))) => hs ao c (parQ (fromQ.getD k [])) v (by rw [hsh]; omega) hs2 h)
      rw [hsh] at HSG
      clear hMr hsh RF RT
      generalize parQ (fromQ.getD k []) = L at *
      generalize fromQ.getD k [] = f at *
      generalize toQ.getD k [] = W at *
      go_wp2_with fail
      refine wp_region_open2 (A := knows [(14, isF (.slice (some ⟨w1.heap.size, 0, none⟩) 11 11)), (15, isF (.int .i64 (k : Int))), (16, isF (.pointer (some ⟨w1.heap.size, k, none⟩))), (17, isF (S f)), (18, pairsF L), (19, isF (S W)), (20, isF (.slice (some ⟨w1.heap.size + 1, 0, none⟩) 11 11)), (21, isF (.int .i64 (k : Int))), (22, isF (.pointer (some ⟨w1.heap.size + 1, k, none⟩))), (23, isF (S W)), (24, isF (.bool false))]) [14, 15, 16, 17, 18, 19, 20, 21, 22, 23, 24] (by kernel_rfl) (by kernel_rfl) (by kernel_rfl) (knows_mono _) (steps_of ?_) ?_
      · skip
        refine allOps_cons (ok_fixed (.inl rfl) rfl 1 (.slice (some ⟨w1.heap.size, 0, none⟩) 11 11) (.inl rfl) (by kernel_rfl) rfl (fun _ _ => rfl)) ?_
        refine allOps_cons (ok_fixed (.inl rfl) rfl 3 (.int .i64 (k : Int)) (.inl rfl) (by kernel_rfl) rfl (fun _ _ => rfl)) ?_
        refine allOps_cons (ok_addrQ (.inl rfl) rfl 14 15 _ rfl (by kernel_rfl) (by kernel_rfl) _ _ _ (fun _ _ h => h) (fun _ _ h => h) (fun u => addr_Q u w1.heap.size 0 11 11 k hkl) (fun _ => by rw [Nat.zero_add]; rfl)) ?_
        refine allOps_cons (ok_loadQ (.inl rfl) rfl 16 _ rfl (by kernel_rfl) _ (S f) (fun _ _ h => h) (fun u hu => load_S ((hu.cell (p := ⟨w1.heap.size, k, none⟩) (cell_lt cF)).trans cF)) (fun _ => rfl)) ?_
        refine allOps_cons (ok_givesP (.inl rfl) rfl 10 _ _ (fun args v => run_enter 10 Tryd.f10 Tryd.func10 (by kernel_rfl) (by kernel_rfl) args v) rfl L (fun a v hv hf hd => by
          have e2 : a.tmps.getD 17 undef = S f := hd 17 (by kernel_rfl)
          have e3 : (#[Operand.tmp 17] : Array Operand).map a.eval = #[S f] := by
            rw [Array.getD_eq_getD_getElem?] at e2
            simp [Act.eval, e2]
          rw [e3]
          exact unhide HPG v hv) (fun _ _ h => h)) ?_
        refine allOps_cons (ok_is (.inl rfl) rfl 12 _ _ (fun args v => run_enter 12 Tryd.f12 Tryd.func12 (by kernel_rfl) (by kernel_rfl) args v) rfl (S W) (fun a v hv hf hd => by
          obtain ⟨ao, c, e2, hr⟩ := hd 18 (by kernel_rfl)
          have e3 : (#[Operand.tmp 18] : Array Operand).map a.eval = #[.slice ao L.length c] := by
            rw [Array.getD_eq_getD_getElem?] at e2
            simp [Act.eval, e2]
          rw [e3]
          exact unhide HSG v ao c hr) (fun _ => rfl)) ?_
        refine allOps_cons (ok_fixed (.inl rfl) rfl 2 (.slice (some ⟨w1.heap.size + 1, 0, none⟩) 11 11) (.inl rfl) (by kernel_rfl) rfl (fun _ _ => rfl)) ?_
        refine allOps_cons (ok_fixed (.inl rfl) rfl 3 (.int .i64 (k : Int)) (.inl rfl) (by kernel_rfl) rfl (fun _ _ => rfl)) ?_
        refine allOps_cons (ok_addrQ (.inl rfl) rfl 20 21 _ rfl (by kernel_rfl) (by kernel_rfl) _ _ _ (fun _ _ h => h) (fun _ _ h => h) (fun u => addr_Q u (w1.heap.size + 1) 0 11 11 k hkl) (fun _ => by rw [Nat.zero_add]; rfl)) ?_
        refine allOps_cons (ok_loadQ (.inl rfl) rfl 22 _ rfl (by kernel_rfl) _ (S W) (fun _ _ h => h) (fun u hu => load_S ((hu.cell (p := ⟨w1.heap.size + 1, k, none⟩) (cell_lt cT)).trans cT)) (fun _ => rfl)) ?_
        refine allOps_cons (ok_neqS (.inl rfl) rfl 19 23 _ _ rfl (by kernel_rfl) (by kernel_rfl) W (fun _ _ h => h) (fun _ _ h => h) (fun _ => rfl)) ?_
        exact allOps_nil
      · intro vs wz hxz hkn
        have h24 : vs 24 = .bool false := hkn 24 (by kernel_rfl)
        have KK := hide (unhide KEY wz hxz)
        simp only [putAll, h24, Act.put, List.setIfInBounds_toArray, List.set_cons_succ, List.set_cons_zero]
        clear hkn h24 hxz KEY HPG HSG cF cT hx
        generalize vs 14 = y14
        generalize vs 15 = y15
        generalize vs 16 = y16
        generalize vs 17 = y17
        generalize vs 18 = y18
        generalize vs 19 = y19
        generalize vs 20 = y20
        generalize vs 21 = y21
        generalize vs 22 = y22
        generalize vs 23 = y23
        go_wp2
        exact unhide KK
    · have hk2 : k = 11 := by omega
      subst hk2
      have A5 := hide (hs none 0 [] wr (by decide) (by decide) (RdP.nothing wr))
      rw [show shwQ [] = [] from rfl] at A5
      have FX := hide hx
      clear RF RT hx
      go_wp2_with fail
      refine (unhide A5).mono ?_
      rintro e w7 ⟨rfl, hx7⟩
      clear A5
      have FF := (unhide FX).trans hx7
      go_wp2
      go_ret
      exact ⟨rfl, FF⟩
end Go.Proofs.YtilmkmplaehcaaaDoor
