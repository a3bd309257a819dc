/-
  All of long addresses, where the document's Parse6 says what the plain facts say.
-/
import Derived.Test.YtfaobhaogenijaaDoorJ6A
import Derived.Test.YtfaobhaogenijaaDoorI6Q
namespace Go.Proofs.YtfaobhaogenijaaDoor
set_option linter.unusedVariables false
open Go.RowKit

section
variable {ops : Array Oper} {Q : Exit → Act → World → Prop} {A : Tmp → Value → World → Prop} {a0 : Act} {w0 : World} {o : Oper} {d : Tmp}
/-- '==' of eight pieces and the same eight. -/
theorem ok_eql8 (hw : Wanted ops A o) (hdst : o.dst = some d) (x y : Tmp) (ty' : TypeId) (y0 y1 y2 y3 y4 y5 y6 y7 : Nat) (ho : o.op = .binOp .eql 23 (.tmp x) (.tmp y) ty') (hx1 : (depSlots ops o).contains x = true) (hy1 : (depSlots ops o).contains y = true)
    (hX : ∀ v w, A x v w → v = .agg #[U y0, U y1, U y2, U y3, U y4, U y5, U y6, U y7]) (hY : ∀ v w, A y v w → v = .agg #[U y0, U y1, U y2, U y3, U y4, U y5, U y6, U y7]) (hF : ∀ w, A d (.bool true) w) : StepOk Tryd.prog ops Q A a0 w0 o :=
  ok_val hw hdst fun a w hx hf hd => ⟨.bool true, w, by
    have e1 := hX _ _ (hd x hx1)
    have e2 := hY _ _ (hd y hy1)
    have e3 : (Op.equalIn Op.maxDepth 23 (.agg #[U y0, U y1, U y2, U y3, U y4, U y5, U y6, U y7]) (.agg #[U y0, U y1, U y2, U y3, U y4, U y5, U y6, U y7])).run Tryd.prog w = .ok true w := eql8 w (y0 : Int) (y1 : Int) (y2 : Int) (y3 : Int) (y4 : Int) (y5 : Int) (y6 : Int) (y7 : Int)
    simp only [execOp, ho, Act.eval, e1, e2]
    simp [eqGuard, binOp, Op.equal, e3], hF w, Ext.refl _⟩
theorem ok_eql_same (hw : Wanted ops A o) (hdst : o.dst = some d) (x y : Tmp) (ty ty' : TypeId) (k : IntKind) (n : Int) (ho : o.op = .binOp .eql ty (.tmp x) (.tmp y) ty') (hx1 : (depSlots ops o).contains x = true) (hy1 : (depSlots ops o).contains y = true)
    (hX : ∀ v w, A x v w → v = .int k n) (hY : ∀ v w, A y v w → v = .int k n) (hF : ∀ w, A d (.bool true) w) : StepOk Tryd.prog ops Q A a0 w0 o :=
  ok_val hw hdst fun a w hx hf hd => ⟨.bool true, w, by
    have e1 := hX _ _ (hd x hx1)
    have e2 := hY _ _ (hd y hy1)
    simp only [execOp, ho, Act.eval, e1, e2]
    simp [eqGuard, binOp, Op.intCmp], hF w, Ext.refl _⟩
theorem ok_eql_text (hw : Wanted ops A o) (hdst : o.dst = some d) (x y : Tmp) (ty ty' : TypeId) (ho : o.op = .binOp .eql ty (.tmp x) (.tmp y) ty') (hx1 : (depSlots ops o).contains x = true) (hy1 : (depSlots ops o).contains y = true)
    (m : List UInt8) (hX : ∀ v w, A x v w → v = S m) (hY : ∀ v w, A y v w → v = S m) (hF : ∀ w, A d (.bool true) w) : StepOk Tryd.prog ops Q A a0 w0 o :=
  ok_val hw hdst fun a w hx hf hd => ⟨.bool true, w, by
    have e1 := hX _ _ (hd x hx1)
    have e2 := hY _ _ (hd y hy1)
    simp only [execOp, ho, Act.eval, e1, e2]
    simp [eqGuard, binOp, Op.stringOp], hF w, Ext.refl _⟩
end

set_option maxHeartbeats 4000000 in
set_option maxRecDepth 100000 in
theorem all6_walk (s : List UInt8) (hs : s.length ≤ 9223372036854775807) (x0 x1 x2 x3 x4 x5 x6 x7 : Nat) (hsm : small [x0, x1, x2, x3, x4, x5, x6, x7]) (w : World) (tb : Tb8 w)
    (hp : ∀ v, s.length ≤ 60 → Calls Tryd.prog 6 #[S s] v fun e w' => e = .returned (.tuple #[V8 (aO (par6 s)), .int .i64 (perr6 (par6 s))]) ∧ Ext v w') :
    Calls Tryd.prog 3 #[S s, .agg #[U x0, U x1, U x2, U x3, U x4, U x5, U x6, U x7]] w fun e w' => e = .returned (.bool true) ∧ Ext w w' := by
  have hxa : Ext w (w.alloc (.cells #[U x0, U x1, U x2, U x3, U x4, U x5, U x6, U x7] 23)) := Ext.alloc _ _
  have hA : (w.alloc (.cells #[U x0, U x1, U x2, U x3, U x4, U x5, U x6, U x7] 23)).heap[w.heap.size]? = some (.cells #[U x0, U x1, U x2, U x3, U x4, U x5, U x6, U x7] 23 (0, 0)) := alloc_new _ _
  have HB := hide (begun_yes _ (tb.below hxa))
  have HTB := hide (fun w' (hx : Ext w w') => tb.below hx)
  have HP := hide hp
  have HSM := hide hsm
  clear hsm tb hp
  obtain ⟨y0, y1, y2, y3, y4, y5, y6, y7, hV⟩ : ∃ y0 y1 y2 y3 y4 y5 y6 y7, V8 (aO (par6 s)) = .agg #[U y0, U y1, U y2, U y3, U y4, U y5, U y6, U y7] := ⟨_, _, _, _, _, _, _, _, rfl⟩
  go_enter Tryd.func3, Tryd.ntmps3
  go_wp2_with fail
  refine (unhide HB).mono ?_
  rintro e w1 ⟨rfl, hx1⟩
  clear HB
  have hA1 := heap_ext hA hx1
  have hx01 := hxa.trans hx1
  clear hA hx1 hxa
  generalize w.heap.size = g at *
  by_cases h60 : s.length ≤ 60
  · have h60' : ¬ (60 : Int) < (s.length : Int) := by omega
    have H1 : Hid (Calls Tryd.prog 5 #[S s] w1 fun e w' => e = .returned (.tuple #[.agg #[U y0, U y1, U y2, U y3, U y4, U y5, U y6, U y7], .int .i64 (perr6 (par6 s))]) ∧ Ext w1 w') := by
      have := parse6_any s w1 (by omega) (unhide HTB w1 hx01)
      rw [hV] at this
      exact this
    have H2 : Hid (∀ v, Calls Tryd.prog 6 #[S s] v fun e w' => e = .returned (.tuple #[.agg #[U y0, U y1, U y2, U y3, U y4, U y5, U y6, U y7], .int .i64 (perr6 (par6 s))]) ∧ Ext v w') := fun v => by
      have := unhide HP v h60
      rw [hV] at this
      exact this
    clear hV HP
    generalize perr6 (par6 s) = q at *
    go_wp2_with fail
    refine (unhide H1).mono ?_
    rintro e w2 ⟨rfl, hx2⟩
    clear H1
    have hA3 := heap_ext (heap_ext hA1 hx2) (Ext.alloc w2 (.cells #[U y0, U y1, U y2, U y3, U y4, U y5, U y6, U y7] 23))
    have hB3 : (w2.alloc (.cells #[U y0, U y1, U y2, U y3, U y4, U y5, U y6, U y7] 23)).heap[w2.heap.size]? = some (.cells #[U y0, U y1, U y2, U y3, U y4, U y5, U y6, U y7] 23 (0, 0)) := alloc_new _ _
    have hx03 := (hx01.trans hx2).trans (Ext.alloc w2 (.cells #[U y0, U y1, U y2, U y3, U y4, U y5, U y6, U y7] 23))
    have HQ2 := hide (unhide H2 (w2.alloc (.cells #[U y0, U y1, U y2, U y3, U y4, U y5, U y6, U y7] 23)))
    clear H2 hA1 hx01 hx2
    go_wp2_with fail
    refine (unhide HQ2).mono ?_
    rintro e w4 ⟨rfl, hx4⟩
    clear HQ2
    have HA := hide (heap_ext (heap_ext hA3 hx4) (Ext.alloc w4 (.cells #[U y0, U y1, U y2, U y3, U y4, U y5, U y6, U y7] 23)))
    have HB := hide (heap_ext (heap_ext hB3 hx4) (Ext.alloc w4 (.cells #[U y0, U y1, U y2, U y3, U y4, U y5, U y6, U y7] 23)))
    have HC : Hid ((w4.alloc (.cells #[U y0, U y1, U y2, U y3, U y4, U y5, U y6, U y7] 23)).heap[w4.heap.size]? = some (.cells #[U y0, U y1, U y2, U y3, U y4, U y5, U y6, U y7] 23 (0, 0))) := alloc_new _ _
    have hx5 := (hx03.trans hx4).trans (Ext.alloc w4 (.cells #[U y0, U y1, U y2, U y3, U y4, U y5, U y6, U y7] 23))
    have HX := hide hx5
    have HS1 : Hid (∀ v, Ext w v → Calls Tryd.prog 7 #[.agg #[U x0, U x1, U x2, U x3, U x4, U x5, U x6, U x7]] v fun e w' => e = .returned (S (shw6 [x0, x1, x2, x3, x4, x5, x6, x7])) ∧ Ext v w') := fun v hv => show6_any x0 x1 x2 x3 x4 x5 x6 x7 v (unhide HSM) (unhide HTB v hv)
    have HS2 : Hid (∀ v, Calls Tryd.prog 8 #[.agg #[U x0, U x1, U x2, U x3, U x4, U x5, U x6, U x7]] v fun e w' => e = .returned (S (shw6 [x0, x1, x2, x3, x4, x5, x6, x7])) ∧ Ext v w') := fun v => rshow6_any x0 x1 x2 x3 x4 x5 x6 x7 v (unhide HSM)
    clear hA3 hB3 hx03 hx4 hx5 HSM HTB
    generalize shw6 [x0, x1, x2, x3, x4, x5, x6, x7] = z at *
    go_wp2_with fail
    refine wp_region_open2 (A := knows [(24, isF (.agg #[U y0, U y1, U y2, U y3, U y4, U y5, U y6, U y7])), (25, isF (.agg #[U y0, U y1, U y2, U y3, U y4, U y5, U y6, U y7])), (26, isF (.bool true)), (27, isF (.bool true)), (28, isF (.int .i64 q)), (29, isF (.int .i64 q)), (30, isF (.bool true)), (31, isF (.bool true)), (32, isF (.bool true)), (33, isF (.agg #[U x0, U x1, U x2, U x3, U x4, U x5, U x6, U x7])), (34, isF (S z)), (35, isF (.agg #[U x0, U x1, U x2, U x3, U x4, U x5, U x6, U x7])), (36, isF (S z)), (37, isF (.bool true)), (38, isF (.bool true)), (4, isF (.bool true))]) [24, 25, 26, 27, 28, 29, 30, 31, 32, 33, 34, 35, 36, 37, 38, 4] (by kernel_rfl) (by kernel_rfl) (by kernel_rfl) (knows_mono _) (steps_of ?_) ?_
    · skip
      refine allOps_cons (ok_loadf (.inl rfl) rfl 5 23 rfl (by kernel_rfl) (.pointer (some ⟨w2.heap.size, 0, none⟩)) (.agg #[U y0, U y1, U y2, U y3, U y4, U y5, U y6, U y7]) rfl (fun v hv => load_8q (heap_ext (unhide HB) hv)) (fun _ => rfl)) ?_
      refine allOps_cons (ok_loadf (.inl rfl) rfl 7 23 rfl (by kernel_rfl) (.pointer (some ⟨w4.heap.size, 0, none⟩)) (.agg #[U y0, U y1, U y2, U y3, U y4, U y5, U y6, U y7]) rfl (fun v hv => load_8q (heap_ext (unhide HC) hv)) (fun _ => rfl)) ?_
      refine allOps_cons (ok_eql8 (.inl rfl) rfl 24 25 _ y0 y1 y2 y3 y4 y5 y6 y7 rfl (by kernel_rfl) (by kernel_rfl) (fun _ _ h => h) (fun _ _ h => h) (fun _ => rfl)) ?_
      refine allOps_cons (ok_move (.inl rfl) rfl 26 (.inl rfl) (by kernel_rfl) (fun _ _ h => h)) ?_
      refine allOps_cons (ok_fixed (.inr ⟨3, true, 27, rfl, by kernel_rfl, by kernel_rfl, fun _ _ h => h⟩) rfl 6 (.int .i64 q) (.inl rfl) (by kernel_rfl) rfl (fun _ _ => rfl)) ?_
      refine allOps_cons (ok_fixed (.inr ⟨3, true, 27, rfl, by kernel_rfl, by kernel_rfl, fun _ _ h => h⟩) rfl 8 (.int .i64 q) (.inl rfl) (by kernel_rfl) rfl (fun _ _ => rfl)) ?_
      refine allOps_cons (ok_eql_same (.inr ⟨3, true, 27, rfl, by kernel_rfl, by kernel_rfl, fun _ _ h => h⟩) rfl 28 29 _ _ .i64 q rfl (by kernel_rfl) (by kernel_rfl) (fun _ _ h => h) (fun _ _ h => h) (fun _ => rfl)) ?_
      refine allOps_cons (ok_pick (.inl rfl) rfl 27 30 _ rfl (by kernel_rfl) (by kernel_rfl) (fun _ _ h => h) (fun _ _ h => h)) ?_
      refine allOps_cons (ok_move (.inl rfl) rfl 31 (.inl rfl) (by kernel_rfl) (fun _ _ h => h)) ?_
      refine allOps_cons (ok_loadf (.inr ⟨8, true, 32, rfl, by kernel_rfl, by kernel_rfl, fun _ _ h => h⟩) rfl 3 23 rfl (by kernel_rfl) (.pointer (some ⟨g, 0, none⟩)) (.agg #[U x0, U x1, U x2, U x3, U x4, U x5, U x6, U x7]) rfl (fun v hv => load_8q (heap_ext (unhide HA) hv)) (fun _ => rfl)) ?_
      refine allOps_cons (ok_is (.inr ⟨8, true, 32, rfl, by kernel_rfl, by kernel_rfl, fun _ _ h => h⟩) rfl 7 #[.tmp 33] _ (fun args v => run_enter 7 Tryd.f7 Tryd.func7 (by kernel_rfl) (by kernel_rfl) args v) rfl (S z) (fun a v hx hf hd => by
        rw [args1q, show a.tmps.getD 33 undef = .agg #[U x0, U x1, U x2, U x3, U x4, U x5, U x6, U x7] from hd 33 (by kernel_rfl)]
        exact unhide HS1 v ((unhide HX).trans hx)) (fun _ => rfl)) ?_
      refine allOps_cons (ok_loadf (.inr ⟨8, true, 32, rfl, by kernel_rfl, by kernel_rfl, fun _ _ h => h⟩) rfl 3 23 rfl (by kernel_rfl) (.pointer (some ⟨g, 0, none⟩)) (.agg #[U x0, U x1, U x2, U x3, U x4, U x5, U x6, U x7]) rfl (fun v hv => load_8q (heap_ext (unhide HA) hv)) (fun _ => rfl)) ?_
      refine allOps_cons (ok_is (.inr ⟨8, true, 32, rfl, by kernel_rfl, by kernel_rfl, fun _ _ h => h⟩) rfl 8 #[.tmp 35] _ (fun args v => run_enter 8 Tryd.f8 Tryd.func8 (by kernel_rfl) (by kernel_rfl) args v) rfl (S z) (fun a v hx hf hd => by
        rw [args1q, show a.tmps.getD 35 undef = .agg #[U x0, U x1, U x2, U x3, U x4, U x5, U x6, U x7] from hd 35 (by kernel_rfl)]
        exact unhide HS2 v) (fun _ => rfl)) ?_
      refine allOps_cons (ok_eql_text (.inr ⟨8, true, 32, rfl, by kernel_rfl, by kernel_rfl, fun _ _ h => h⟩) rfl 34 36 _ _ rfl (by kernel_rfl) (by kernel_rfl) z (fun _ _ h => h) (fun _ _ h => h) (fun _ => rfl)) ?_
      refine allOps_cons (ok_pick (.inl rfl) rfl 32 37 _ rfl (by kernel_rfl) (by kernel_rfl) (fun _ _ h => h) (fun _ _ h => h)) ?_
      refine allOps_cons (ok_move (.inl rfl) rfl 38 (.inr rfl) (by kernel_rfl) (fun _ _ h => h)) ?_
      exact allOps_nil
    · intro vs wz hx hkn
      have h4 : vs 4 = .bool true := hkn 4 rfl
      have X5 := hide ((unhide HX).trans hx)
      simp only [putAll, h4, Act.put, List.setIfInBounds_toArray, List.set_cons_succ, List.set_cons_zero]
      clear hkn h4 hx HA HB HC HX HS1 HS2
      go_wp2
      go_ret
      exact ⟨rfl, unhide X5⟩
  · have h60' : (60 : Int) < (s.length : Int) := by omega
    clear HP HTB HSM hV hA1
    go_wp2
    go_ret
    exact ⟨rfl, hx01⟩
end Go.Proofs.YtfaobhaogenijaaDoor
