/-
  Op4, HoC.
-/
import Derived.Test.YtenlampiiodkhaaGreatDoorPcsc
import Derived.Test.YtenlampiiodkhaaGreatDoorBAc
import Derived.Test.YtenlampiiodkhaaGreatDoorShelfc
import Derived.BigRegion
import Derived.Laws.RangeAny
import Derived.Lib.OthersKept
import Derived.WalkMore
namespace Go.Proofs.YtenlampiiodkhaaGreatDoor
set_option linter.unusedVariables false
open Go.RowKit
theorem argsT2 (a : Act) (x y : Tmp) : (#[Operand.tmp x, Operand.tmp y] : Array Operand).map a.eval = #[a.tmps.getD x undef, a.tmps.getD y undef] := by simp [Act.eval]
section
variable {P : Program} {ops : Array Oper} {Q : Exit → Act → World → Prop} {A : Tmp → Value → World → Prop} {a0 : Act} {w0 : World} {o : Oper} {d : Tmp}
theorem ok_idxT (hw : Wanted ops A o) (hdst : o.dst = some d) (x y : Tmp) (t : TypeId) (ho : o.op = .index t (.tmp x) (.tmp y)) (hx1 : (depSlots ops o).contains x = true) (hy1 : (depSlots ops o).contains y = true) (s u v' : Value)
    (hX : ∀ q w, A x q w → q = s) (hY : ∀ q w, A y q w → q = u) (hrun : ∀ w, (Instr.index t s u).run Tryz.prog w = .ok v' w) (hF : ∀ w, A d v' w) : StepOk Tryz.prog ops Q A a0 w0 o :=
  ok_val hw hdst fun a w hx hf hd => ⟨v', w, by
    have e1 := hX _ _ (hd x hx1); have e2 := hY _ _ (hd y hy1); simp only [execOp, ho, Act.eval, e1, e2]; simp [hrun], hF w, Ext.refl _⟩
theorem ok_dropT (hw : Wanted ops A o) (hdst : o.dst = some d) (x y : Tmp) (t : TypeId) (ho : o.op = .slice t (.tmp x) (some (.tmp y)) none none) (hx1 : (depSlots ops o).contains x = true) (hy1 : (depSlots ops o).contains y = true) (s u v' : Value)
    (hX : ∀ q w, A x q w → q = s) (hY : ∀ q w, A y q w → q = u) (hrun : ∀ w, (Instr.sliceAt t s (some u) none none).run Tryz.prog w = .ok v' w) (hF : ∀ w, A d v' w) : StepOk Tryz.prog ops Q A a0 w0 o :=
  ok_val hw hdst fun a w hx hf hd => ⟨v', w, by
    have e1 := hX _ _ (hd x hx1); have e2 := hY _ _ (hd y hy1); have e3 : a.eval (.tmp y) = u := by simp only [Act.eval, e2]
    simp only [execOp, ho, Act.eval, e1]; simp [e3, hrun], hF w, Ext.refl _⟩
theorem ok_neI (hw : Wanted ops A o) (hdst : o.dst = some d) (x y : Tmp) (ty ty' : TypeId) (k : IntKind) (m n : Int) (hne : m ≠ n) (ho : o.op = .binOp .neq ty (.tmp x) (.tmp y) ty') (hx1 : (depSlots ops o).contains x = true) (hy1 : (depSlots ops o).contains y = true)
    (hX : ∀ v w, A x v w → v = .int k m) (hY : ∀ v w, A y v w → v = .int k n) (hF : ∀ w, A d (.bool true) w) : StepOk Tryz.prog ops Q A a0 w0 o :=
  ok_val hw hdst fun a w hx hf hd => ⟨.bool true, w, by
    have e1 := hX _ _ (hd x hx1); have e2 := hY _ _ (hd y hy1); simp only [execOp, ho, Act.eval, e1, e2]; simp [eqGuard, binOp, Op.intCmp, hne], hF w, Ext.refl _⟩
theorem ok_inc (hw : Wanted ops A o) (hdst : o.dst = some d) (x : Tmp) (ty ty' : TypeId) (m : Int) (hm : IntKind.i64.wrap (m + 1) = m + 1) (ho : o.op = .binOp .add ty (.tmp x) (.const (.int .i64 1)) ty') (hx1 : (depSlots ops o).contains x = true)
    (hX : ∀ v w, A x v w → v = .int .i64 m) (hF : ∀ w, A d (.int .i64 (m + 1)) w) : StepOk Tryz.prog ops Q A a0 w0 o :=
  ok_val hw hdst fun a w hx hf hd => ⟨.int .i64 (m + 1), w, by
    have e1 := hX _ _ (hd x hx1); simp only [execOp, ho, Act.eval, e1]; simp [eqGuard, binOp, Op.intArith, hm], hF w, Ext.refl _⟩
end
end Go.Proofs.YtenlampiiodkhaaGreatDoor
namespace Go.Proofs.YtenlampiiodkhaaGreatDoor
set_option linter.unusedVariables false
open Go.RowKit
abbrev noH : List UInt8 := [0, 9, 10, 13, 32, 35, 47, 58, 60, 62, 63, 64, 91, 92, 93, 94, 124]
theorem noH_low : ∀ b : Fin 256, noH.contains (UInt8.ofNat b.val) = true → b.val < 128 := by decide +kernel
theorem noH_high (b : UInt8) (h : 128 ≤ b.toNat) : noH.contains b = false := by
  rw [Bool.eq_false_iff]; intro hc; have := noH_low ⟨b.toNat, b.toNat_lt⟩; simp only [UInt8.ofNat_toNat] at this; have := this hc; omega
theorem noH_at : ∀ i : Fin 17, (noH.getD i.val 0).toNat < 128 := by decide
theorem idx_noH (b : UInt8) (h : 128 ≤ b.toNat) (k : Nat) : Lib.indexByte (noH.drop k) b = -1 := by
  have h1 := Lib.contains_iff_indexByte (noH.drop k) b; have h2 : (noH.drop k).contains b = false := by
    rw [Bool.eq_false_iff]; intro hc; have hm := List.mem_of_mem_drop (List.contains_iff_mem.1 hc); have := noH_high b h; rw [List.contains_iff_mem.2 hm] at this
    cases this
  rw [h2] at h1; have h3 := of_decide_eq_false h1.symm; have h4 := Lib.indexByte_ge (noH.drop k) b; omega
set_option maxHeartbeats 1000000 in
set_option maxRecDepth 100000 in
theorem irune_low (x : UInt8) (hx : x.toNat < 128) (w : World) : Calls Tryz.prog 145 #[S noH, .int .i32 (x.toNat : Int)] w fun e w' => (∃ z : Int, e = .returned (.int .i64 z) ∧ decide (0 ≤ z) = noH.contains x) ∧ w' = w := by
  have HI := hide (Tryz.strings_IndexByte ⟨noH.toArray⟩ (x.toNat : Int) w); have ei : (((x.toNat : Int)).toNat.toUInt8) = x := by simp
  rw [ei] at HI; have HC := hide (Lib.contains_iff_indexByte noH x); have HZ : ∃ z : Int, z = Lib.indexByte noH x := ⟨_, rfl⟩; obtain ⟨z, hz⟩ := HZ; have HI2 : Hid (Calls Tryz.prog 102 #[.string ⟨#[0, 9, 10, 13, 32, 35, 47, 58, 60, 62, 63, 64, 91, 92, 93, 94, 124]⟩, .int .u8 (x.toNat : Int)] w fun e w' => e = .returned (.int .i64 z) ∧ w' = w) := by
    rw [hz]; exact HI
  rw [← hz] at HC; clear hz HI ei; have h0 : (0 : Int) ≤ (x.toNat : Int) := by omega
  have h1 : (x.toNat : Int) < 128 := by omega
  have h2 : IntKind.u8.wrap (x.toNat : Int) = (x.toNat : Int) := by rw [IntKind.wrap_u8]; omega
  go_enter Tryz.func145, Tryz.ntmps145; go_wp2_with fail
  refine (unhide HI2).mono ?_; rintro e w2 ⟨rfl, hw⟩; subst hw; clear HI2; go_wp2; go_ret; exact ⟨⟨z, rfl, (unhide HC).symm⟩, rfl⟩
theorem enc_last (r : Int) (h : 128 ≤ r) : ∃ p : List UInt8, ∃ y : UInt8, Utf8.encode r = ⟨(p ++ [y]).toArray⟩ ∧ 1 ≤ p.length ∧ p.length ≤ 3 ∧ 128 ≤ y.toNat := by
  have key : ∀ c : Nat, 128 ≤ (UInt8.ofNat (128 + c % 64)).toNat := fun c => by
    rw [UInt8.toNat_ofNat']; omega
  have hc : 128 ≤ (if Utf8.valid r = true then r.toNat else Utf8.runeError) := by
    split
    · omega
    · decide
  unfold Utf8.encode; simp only; generalize (if Utf8.valid r = true then r.toNat else Utf8.runeError) = c at hc; rw [if_neg (by omega)]
  split
  · exact ⟨[UInt8.ofNat (192 + c / 64)], _, rfl, by simp, by simp, key c⟩
  · split
    · exact ⟨[UInt8.ofNat (224 + c / 4096), UInt8.ofNat (128 + c / 64 % 64)], _, rfl, by simp, by simp, key c⟩
    · exact ⟨[UInt8.ofNat (240 + c / 262144), UInt8.ofNat (128 + c / 4096 % 64), UInt8.ofNat (128 + c / 64 % 64)], _, rfl, by simp, by simp, key c⟩
set_option maxHeartbeats 4000000 in
set_option maxRecDepth 100000 in
theorem irune_high (r : Int) (hr : 128 ≤ r) (hr2 : r ≤ 2147483647) (w : World) : Calls Tryz.prog 145 #[S noH, .int .i32 r] w fun e w' => e = .returned (.int .i64 (-1)) ∧ Ext w w' := by
  have h0 : ¬ r < 128 := by omega
  have h00 : (0 : Int) ≤ r := by omega
  by_cases hfd : r = 65533
  · subst hfd; clear h0 h00 hr hr2; go_enter Tryz.func145, Tryz.ntmps145; go_wp2_with fail
    go_loopg [5, 6] 17 (fun g _ _ wx => ∃ i : Nat, i + g = 17 ∧ wx = w.iter ⟨noH.toArray⟩ i)
    case atStart => exact ⟨0, by omega, rfl⟩
    case round =>
      obtain ⟨i, hig, rfl⟩ := hrel
      cases gk with
      | zero =>
        obtain rfl : i = 17 := by omega
        have hnx := fun ty => run_next_end (P := Tryz.prog) w ⟨noH.toArray⟩ 17 ty (by decide); go_wp2; go_ret; exact ⟨rfl, Ext.alloc w _⟩
      | succ g =>
        have hi : i < (⟨noH.toArray⟩ : ByteArray).size := by rw [size_S]; show i < 17; omega
        have hat := at_S noH i hi; have hlt := noH_at ⟨i, by omega⟩; simp only at hlt; have hnx := fun ty => run_next_ascii (P := Tryz.prog) w ⟨noH.toArray⟩ i ty hi (by rw [hat]; exact hlt); rw [hat] at hnx; generalize noH.getD i 0 = x at *; have hne : ((x.toNat : Int) == 65533) = false := by rw [beq_eq_false_iff_ne]; omega
        have hne2 : ¬ (x.toNat : Int) = 65533 := by omega
        clear hat hi; go_wp2_with fail
        go_roundg g
        case measure => omega
        case rel => exact ⟨i + 1, by omega, rfl⟩
  · have hfb : (r == 65533) = false := by simpa using hfd
    obtain ⟨p, y, he, hp1, hp3, hy⟩ := enc_last r hr; have hb : 128 ≤ (y.toNat : Int) := by omega
    have hlen : (p ++ [y]).length = p.length + 1 := by simp
    have hyl : (p ++ [y]).getD p.length 0 = y := by simp [List.getD]
    have HY := hide (fun (v : World) => (show (Instr.index 9 (S (p ++ [y])) (.int .i64 (p.length : Int))).run Tryz.prog v = .ok (B y) v by
      have := idx_str v (p ++ [y]) .i64 p.length (by omega)
      rwa [hyl] at this))
    have HXI := hide (fun (v : World) => idx_str v noH .i64 p.length (by show p.length < 17; omega)); have hxl := noH_at ⟨p.length, by omega⟩; simp only at hxl; have HDR := hide (fun (v : World) => (show (Instr.sliceAt 9 (S noH) (some (.int .i64 ((p.length : Int) + 1))) none none).run Tryz.prog v = .ok (S (noH.drop (p.length + 1))) v by
      have h := run_drop v noH (p.length + 1) (by show p.length + 1 ≤ 17; omega); simp only [Instr.sliceAt, Sem.run_bind, run_underlying Tryz.underlying9, Result.andThen]; exact h))
    have HIB := hide (fun (v : World) => (show Calls Tryz.prog 102 #[S (noH.drop (p.length + 1)), B y] v fun e w' => e = .returned (.int .i64 (-1)) ∧ w' = v by
      have := Tryz.strings_IndexByte ⟨(noH.drop (p.length + 1)).toArray⟩ (y.toNat : Int) v; rw [show (((y.toNat : Int)).toNat.toUInt8) = y by simp] at this; rw [show Lib.indexByte (⟨(noH.drop (p.length + 1)).toArray⟩ : ByteArray).data.toList y = -1 from idx_noH y hy _] at this; exact this))
    have hszq : (⟨(p ++ [y]).toArray⟩ : ByteArray).size = p.length + 1 := by rw [size_S]; exact hlen
    generalize noH.getD p.length 0 = x at *; generalize (noH.drop (p.length + 1)) = D at *; have hxy : (x.toNat : Int) ≠ (y.toNat : Int) := by omega
    generalize p ++ [y] = q at *; clear hlen hyl; generalize p.length = m at *; have m17 : (m : Int) < 17 := by omega
    have q1 : IntKind.i64.wrap ((m : Int) + 1) = (m : Int) + 1 := by rw [IntKind.wrap_i64]; omega
    have HQ1 := hide q1; have HXY := hide hxy; clear hxy hxl hb hy hp3; go_enter Tryz.func145, Tryz.ntmps145; by_cases h1 : r < 55296
    · go_wp2; go_step3; go_wp2_with fail
      go_loopw [9, 10] (fun i f wr => i = .int .i64 (m : Int) ∧ f = .int .i64 0 ∧ wr = w) (fun _ _ _ => 0)
      case atStart => exact ⟨rfl, rfl, rfl⟩
      case round =>
        obtain ⟨rfl, rfl, hw⟩ := hrel; have hw3 := hw.symm; clear hw; subst hw3; go_wp2_with fail
        go_step3; go_wp2_with fail
        refine wp_region_open2 (A := knows [(27, isF (S noH)), (28, isF (.int .i64 (m : Int))), (29, isF (B x)), (30, isF (S q)), (31, isF (.int .i64 (m : Int))), (32, isF (B y)), (33, isF (.bool true))]) [27, 28, 29, 30, 31, 32, 33] (by kernel_rfl) (by kernel_rfl) (by kernel_rfl) (knows_mono _) (steps_of ?_) ?_
        · skip; refine allOps_cons (ok_fixed (.inl rfl) rfl 0 (S noH) (.inl rfl) (by kernel_rfl) rfl (fun _ _ => rfl)) ?_; refine allOps_cons (ok_fixed (.inl rfl) rfl 9 (.int .i64 (m : Int)) (.inl rfl) (by kernel_rfl) rfl (fun _ _ => rfl)) ?_; refine allOps_cons (ok_idxT (.inl rfl) rfl 27 28 _ rfl (by kernel_rfl) (by kernel_rfl) (S noH) (.int .i64 (m : Int)) (B x) (fun _ _ h => h) (fun _ _ h => h) (unhide HXI) (fun _ => rfl)) ?_; refine allOps_cons (ok_fixed (.inl rfl) rfl 7 (S q) (.inl rfl) (by kernel_rfl) rfl (fun _ _ => rfl)) ?_; refine allOps_cons (ok_fixed (.inl rfl) rfl 8 (.int .i64 (m : Int)) (.inl rfl) (by kernel_rfl) rfl (fun _ _ => rfl)) ?_; refine allOps_cons (ok_idxT (.inl rfl) rfl 30 31 _ rfl (by kernel_rfl) (by kernel_rfl) (S q) (.int .i64 (m : Int)) (B y) (fun _ _ h => h) (fun _ _ h => h) (unhide HY) (fun _ => rfl)) ?_; refine allOps_cons (ok_neI (.inl rfl) rfl 29 32 _ _ .u8 _ _ (unhide HXY) rfl (by kernel_rfl) (by kernel_rfl) (fun _ _ h => h) (fun _ _ h => h) (fun _ => rfl)) ?_; exact allOps_nil
        · intro vs wz hx hkn; have h33 : vs 33 = .bool true := hkn 33 rfl; have HX := hide hx; simp only [putAll, h33, Act.put, List.setIfInBounds_toArray, List.set_cons_succ, List.set_cons_zero]; clear hkn h33 hx; go_wp2_with fail
          refine wp_region_open2 (A := knows [(34, isF (S noH)), (35, isF (.int .i64 (m : Int))), (36, isF (.int .i64 ((m : Int) + 1))), (37, isF (S D)), (38, isF (S q)), (39, isF (.int .i64 (m : Int))), (40, isF (B y)), (41, isF (.int .i64 (-1))), (11, isF (.int .i64 (-1)))]) [34, 35, 36, 37, 38, 39, 40, 41, 11] (by kernel_rfl) (by kernel_rfl) (by kernel_rfl) (knows_mono _) (steps_of ?_) ?_
          · skip; refine allOps_cons (ok_fixed (.inl rfl) rfl 0 (S noH) (.inl rfl) (by kernel_rfl) rfl (fun _ _ => rfl)) ?_; refine allOps_cons (ok_fixed (.inl rfl) rfl 9 (.int .i64 (m : Int)) (.inl rfl) (by kernel_rfl) rfl (fun _ _ => rfl)) ?_; refine allOps_cons (ok_inc (.inl rfl) rfl 35 _ _ (m : Int) (unhide HQ1) rfl (by kernel_rfl) (fun _ _ h => h) (fun _ => rfl)) ?_; refine allOps_cons (ok_dropT (.inl rfl) rfl 34 36 _ rfl (by kernel_rfl) (by kernel_rfl) (S noH) (.int .i64 ((m : Int) + 1)) (S D) (fun _ _ h => h) (fun _ _ h => h) (unhide HDR) (fun _ => rfl)) ?_; refine allOps_cons (ok_fixed (.inl rfl) rfl 7 (S q) (.inl rfl) (by kernel_rfl) rfl (fun _ _ => rfl)) ?_; refine allOps_cons (ok_fixed (.inl rfl) rfl 8 (.int .i64 (m : Int)) (.inl rfl) (by kernel_rfl) rfl (fun _ _ => rfl)) ?_; refine allOps_cons (ok_idxT (.inl rfl) rfl 38 39 _ rfl (by kernel_rfl) (by kernel_rfl) (S q) (.int .i64 (m : Int)) (B y) (fun _ _ h => h) (fun _ _ h => h) (unhide HY) (fun _ => rfl)) ?_; refine allOps_cons (ok_is (.inl rfl) rfl 102 #[.tmp 37, .tmp 40] _ (fun args v => run_enter 102 Tryz.f102 Tryz.func102 (by kernel_rfl) (by kernel_rfl) args v) rfl (.int .i64 (-1)) (fun a v hx hf hd => by
              rw [argsT2, show a.tmps.getD 37 undef = S D from hd 37 (by kernel_rfl), show a.tmps.getD 40 undef = B y from hd 40 (by kernel_rfl)]; exact (unhide HIB v).mono fun e w' ⟨h1, h2⟩ => ⟨h1, by rw [h2]; exact Ext.refl _⟩) (fun _ => rfl)) ?_
            refine allOps_cons (ok_move (.inl rfl) rfl 41 (.inr rfl) (by kernel_rfl) (fun _ _ h => h)) ?_; exact allOps_nil
          · intro vs2 wy hx hkn; have h11 : vs2 11 = .int .i64 (-1) := hkn 11 rfl; have HX2 := hide ((unhide HX).trans hx); simp only [putAll, h11, Act.put, List.setIfInBounds_toArray, List.set_cons_succ, List.set_cons_zero]; clear hkn h11 hx HX HIB HY HXI HDR HQ1 HXY; go_wp2; change bodyPost Tryz.prog Tryz.f145 (fun e w' => e = Ending.returned (.int .i64 (-1)) ∧ Ext w w') Exit.ret _ _; go_ret; exact ⟨rfl, unhide HX2⟩
    · by_cases h2 : 57343 < r
      · by_cases h3 : r ≤ 1114111
        · go_wp2; go_step3; go_wp2_with fail
          go_loopw [9, 10] (fun i f wr => i = .int .i64 (m : Int) ∧ f = .int .i64 0 ∧ wr = w) (fun _ _ _ => 0)
          case atStart => exact ⟨rfl, rfl, rfl⟩
          case round =>
            obtain ⟨rfl, rfl, hw⟩ := hrel; have hw3 := hw.symm; clear hw; subst hw3; go_wp2_with fail
            go_step3; go_wp2_with fail
            refine wp_region_open2 (A := knows [(27, isF (S noH)), (28, isF (.int .i64 (m : Int))), (29, isF (B x)), (30, isF (S q)), (31, isF (.int .i64 (m : Int))), (32, isF (B y)), (33, isF (.bool true))]) [27, 28, 29, 30, 31, 32, 33] (by kernel_rfl) (by kernel_rfl) (by kernel_rfl) (knows_mono _) (steps_of ?_) ?_
            · skip; refine allOps_cons (ok_fixed (.inl rfl) rfl 0 (S noH) (.inl rfl) (by kernel_rfl) rfl (fun _ _ => rfl)) ?_; refine allOps_cons (ok_fixed (.inl rfl) rfl 9 (.int .i64 (m : Int)) (.inl rfl) (by kernel_rfl) rfl (fun _ _ => rfl)) ?_; refine allOps_cons (ok_idxT (.inl rfl) rfl 27 28 _ rfl (by kernel_rfl) (by kernel_rfl) (S noH) (.int .i64 (m : Int)) (B x) (fun _ _ h => h) (fun _ _ h => h) (unhide HXI) (fun _ => rfl)) ?_; refine allOps_cons (ok_fixed (.inl rfl) rfl 7 (S q) (.inl rfl) (by kernel_rfl) rfl (fun _ _ => rfl)) ?_; refine allOps_cons (ok_fixed (.inl rfl) rfl 8 (.int .i64 (m : Int)) (.inl rfl) (by kernel_rfl) rfl (fun _ _ => rfl)) ?_; refine allOps_cons (ok_idxT (.inl rfl) rfl 30 31 _ rfl (by kernel_rfl) (by kernel_rfl) (S q) (.int .i64 (m : Int)) (B y) (fun _ _ h => h) (fun _ _ h => h) (unhide HY) (fun _ => rfl)) ?_; refine allOps_cons (ok_neI (.inl rfl) rfl 29 32 _ _ .u8 _ _ (unhide HXY) rfl (by kernel_rfl) (by kernel_rfl) (fun _ _ h => h) (fun _ _ h => h) (fun _ => rfl)) ?_; exact allOps_nil
            · intro vs wz hx hkn; have h33 : vs 33 = .bool true := hkn 33 rfl; have HX := hide hx; simp only [putAll, h33, Act.put, List.setIfInBounds_toArray, List.set_cons_succ, List.set_cons_zero]; clear hkn h33 hx; go_wp2_with fail
              refine wp_region_open2 (A := knows [(34, isF (S noH)), (35, isF (.int .i64 (m : Int))), (36, isF (.int .i64 ((m : Int) + 1))), (37, isF (S D)), (38, isF (S q)), (39, isF (.int .i64 (m : Int))), (40, isF (B y)), (41, isF (.int .i64 (-1))), (11, isF (.int .i64 (-1)))]) [34, 35, 36, 37, 38, 39, 40, 41, 11] (by kernel_rfl) (by kernel_rfl) (by kernel_rfl) (knows_mono _) (steps_of ?_) ?_
              · skip; refine allOps_cons (ok_fixed (.inl rfl) rfl 0 (S noH) (.inl rfl) (by kernel_rfl) rfl (fun _ _ => rfl)) ?_; refine allOps_cons (ok_fixed (.inl rfl) rfl 9 (.int .i64 (m : Int)) (.inl rfl) (by kernel_rfl) rfl (fun _ _ => rfl)) ?_; refine allOps_cons (ok_inc (.inl rfl) rfl 35 _ _ (m : Int) (unhide HQ1) rfl (by kernel_rfl) (fun _ _ h => h) (fun _ => rfl)) ?_; refine allOps_cons (ok_dropT (.inl rfl) rfl 34 36 _ rfl (by kernel_rfl) (by kernel_rfl) (S noH) (.int .i64 ((m : Int) + 1)) (S D) (fun _ _ h => h) (fun _ _ h => h) (unhide HDR) (fun _ => rfl)) ?_; refine allOps_cons (ok_fixed (.inl rfl) rfl 7 (S q) (.inl rfl) (by kernel_rfl) rfl (fun _ _ => rfl)) ?_; refine allOps_cons (ok_fixed (.inl rfl) rfl 8 (.int .i64 (m : Int)) (.inl rfl) (by kernel_rfl) rfl (fun _ _ => rfl)) ?_; refine allOps_cons (ok_idxT (.inl rfl) rfl 38 39 _ rfl (by kernel_rfl) (by kernel_rfl) (S q) (.int .i64 (m : Int)) (B y) (fun _ _ h => h) (fun _ _ h => h) (unhide HY) (fun _ => rfl)) ?_; refine allOps_cons (ok_is (.inl rfl) rfl 102 #[.tmp 37, .tmp 40] _ (fun args v => run_enter 102 Tryz.f102 Tryz.func102 (by kernel_rfl) (by kernel_rfl) args v) rfl (.int .i64 (-1)) (fun a v hx hf hd => by
                  rw [argsT2, show a.tmps.getD 37 undef = S D from hd 37 (by kernel_rfl), show a.tmps.getD 40 undef = B y from hd 40 (by kernel_rfl)]; exact (unhide HIB v).mono fun e w' ⟨h1, h2⟩ => ⟨h1, by rw [h2]; exact Ext.refl _⟩) (fun _ => rfl)) ?_
                refine allOps_cons (ok_move (.inl rfl) rfl 41 (.inr rfl) (by kernel_rfl) (fun _ _ h => h)) ?_; exact allOps_nil
              · intro vs2 wy hx hkn; have h11 : vs2 11 = .int .i64 (-1) := hkn 11 rfl; have HX2 := hide ((unhide HX).trans hx); simp only [putAll, h11, Act.put, List.setIfInBounds_toArray, List.set_cons_succ, List.set_cons_zero]; clear hkn h11 hx HX HIB HY HXI HDR HQ1 HXY; go_wp2; change bodyPost Tryz.prog Tryz.f145 (fun e w' => e = Ending.returned (.int .i64 (-1)) ∧ Ext w w') Exit.ret _ _; go_ret; exact ⟨rfl, unhide HX2⟩
        · have h3' : ¬ r ≤ 1114111 := h3; clear HIB HY HXI HDR HQ1 HXY; go_wp2; go_ret; exact ⟨rfl, Ext.refl _⟩
      · have h2' : ¬ 57343 < r := h2; clear HIB HY HXI HDR HQ1 HXY; go_wp2; go_ret; exact ⟨rfl, Ext.refl _⟩
theorem get_l (l : List UInt8) (j : Nat) : (⟨l.toArray⟩ : ByteArray).get! j = l.getD j 0 := by
  show l.toArray[j]! = _; rcases Nat.lt_or_ge j l.length with h | h
  · rw [getElem!_pos l.toArray j (by simpa using h)]; simp [List.getD, h]
  · rw [getElem!_neg l.toArray j (by simpa using h)]; simp [List.getD, h]; rfl
theorem dec_cont (l : List UInt8) (i : Nat) (hi : i < l.length) (h : 128 ≤ (l.getD i 0).toNat) :
    i + (Utf8.decode ⟨l.toArray⟩ i).2 ≤ l.length ∧ ∀ j, i ≤ j → j < i + (Utf8.decode ⟨l.toArray⟩ i).2 → 128 ≤ (l.getD j 0).toNat := by
  have step : ∀ n, (n = 1 ∨ (n = 2 ∧ i + 1 < l.length ∧ 128 ≤ (l.getD (i + 1) 0).toNat) ∨ (n = 3 ∧ i + 1 < l.length ∧ 128 ≤ (l.getD (i + 1) 0).toNat ∧ i + 2 < l.length ∧ 128 ≤ (l.getD (i + 2) 0).toNat) ∨
      (n = 4 ∧ i + 1 < l.length ∧ 128 ≤ (l.getD (i + 1) 0).toNat ∧ i + 2 < l.length ∧ 128 ≤ (l.getD (i + 2) 0).toNat ∧ i + 3 < l.length ∧ 128 ≤ (l.getD (i + 3) 0).toNat)) →
      (i + n ≤ l.length ∧ ∀ j, i ≤ j → j < i + n → 128 ≤ (l.getD j 0).toNat) := by
    rintro n (rfl | ⟨rfl, a1, b1⟩ | ⟨rfl, a1, b1, a2, b2⟩ | ⟨rfl, a1, b1, a2, b2, a3, b3⟩)
    · refine ⟨by omega, fun j h1 h2 => ?_⟩; obtain rfl : j = i := by omega
      exact h
    · refine ⟨by omega, fun j h1 h2 => ?_⟩; obtain rfl | rfl : j = i ∨ j = i + 1 := by omega
      · exact h
      · exact b1
    · refine ⟨by omega, fun j h1 h2 => ?_⟩; obtain rfl | rfl | rfl : j = i ∨ j = i + 1 ∨ j = i + 2 := by omega
      · exact h
      · exact b1
      · exact b2
    · refine ⟨by omega, fun j h1 h2 => ?_⟩; obtain rfl | rfl | rfl | rfl : j = i ∨ j = i + 1 ∨ j = i + 2 ∨ j = i + 3 := by omega
      · exact h
      · exact b1
      · exact b2
      · exact b3
  apply step; simp only [Utf8.decode, get_l, size_S, Nat.add_zero]; generalize (l.getD i 0).toNat = b0 at *; generalize (l.getD (i + 1) 0).toNat = b1 at *; generalize (l.getD (i + 2) 0).toNat = b2 at *; generalize (l.getD (i + 3) 0).toNat = b3 at *; clear step
  repeat' split
  all_goals simp only [Bool.and_eq_true, decide_eq_true_eq, beq_iff_eq] at *
  all_goals first
    | exact Or.inl trivial
    | exact Or.inl rfl
    | (simp only [true_and]; omega)
    | omega
theorem iterPos_of {w : World} {k p : Nat} {s : ByteArray} (h : w.heap[k]? = some (.stringIter s p)) : w.iterPos k = p := by simp [World.iterPos, h]
theorem below_iterAt {B k p : Nat} {a w : World} {s : ByteArray} (h : Below B a w) (hB : B ≤ k) : Below B a (w.iterAt k s p) :=
  h.trans ⟨rfl, rfl, rfl, by simp [World.iterAt], fun j hj => by simp [World.iterAt, show ¬ k = j by omega]⟩
theorem iterAt_new {w : World} {k pos pos' : Nat} {s : ByteArray} (hk : w.heap[k]? = some (.stringIter s pos)) : (w.iterAt k s pos').heap[k]? = some (.stringIter s pos') := by
  have hlt : k < w.heap.size := (Array.getElem?_eq_some_iff.1 hk).1; simp [World.iterAt, hlt]
set_option maxHeartbeats 4000000 in
set_option maxRecDepth 100000 in
theorem iany_short (l : List UInt8) (h8 : l.length ≤ 8) (w : World) : Calls Tryz.prog 116 #[S l, S noH] w fun e w' => (∃ z : Int, e = .returned (.int .i64 z) ∧ decide (0 ≤ z) = l.any noH.contains) ∧ Ext w w' := by
  have hsz := size_S l; have h8' : ¬ (8 : Int) < (l.length : Int) := by omega
  have HYES : Hid (∀ (i : Nat) (x : UInt8), x ∈ l → noH.contains x = true → (∃ z : Int, Ending.returned (.int .i64 (i : Int)) = .returned (.int .i64 z) ∧ decide (0 ≤ z) = l.any noH.contains)) := fun i x hx hc =>
    ⟨(i : Int), rfl, by rw [List.any_eq_true.2 ⟨x, hx, hc⟩]; simp⟩
  have HNO : Hid (Lib.NoAny l noH l.length → (∃ z : Int, Ending.returned (.int .i64 (-1)) = .returned (.int .i64 z) ∧ decide (0 ≤ z) = l.any noH.contains)) := fun h =>
    ⟨-1, rfl, by
      have : l.any noH.contains = false := by
        rw [Bool.eq_false_iff]; intro ha; obtain ⟨x, hx, hc⟩ := List.any_eq_true.1 ha; obtain ⟨j, hj, e⟩ := List.mem_iff_getElem.1 hx; have := h j x hj (by rw [List.getElem?_eq_getElem hj, e]); rw [hc] at this
        cases this
      rw [this]; rfl⟩
  go_enter Tryz.func116, Tryz.ntmps116; go_wp2
  go_loopw [9, 10] (fun _ _ wx => ∃ i : Nat, i ≤ l.length ∧ Hid (wx.heap[w.heap.size]? = some (.stringIter ⟨l.toArray⟩ i)) ∧ Hid (Lib.NoAny l noH i) ∧ Ext w wx) (fun _ _ wx => l.length - wx.iterPos w.heap.size)
  case atStart => exact ⟨0, by omega, hide (World.iter_heap w _ 0), hide (Lib.NoAny.zero _ _), Ext.alloc w _⟩
  case round =>
    obtain ⟨i, hi, HK, HN, hx⟩ := hrel; have hpos := iterPos_of (unhide HK); have hk := unhide HK; generalize hk0 : w.heap.size = k0 at *; have HK0 := hide hk0; clear hk0; by_cases hil : i < l.length
    · have his : i < (⟨l.toArray⟩ : ByteArray).size := by rw [hsz]; exact hil
      have hat := at_S l i his; have hmem : l.getD i 0 ∈ l := by simp [List.getD, hil]
      have hli : l[i]? = some (l.getD i 0) := by simp [List.getD, hil]
      by_cases hlow : (l.getD i 0).toNat < 128
      · have hnx := fun ty => Lib.run_next_ascii_at (P := Tryz.prog) wr k0 ⟨l.toArray⟩ i ty hk his (by rw [hat]; exact hlow); rw [hat] at hnx; have CC := hide (irune_low (l.getD i 0) hlow (wr.iterAt k0 ⟨l.toArray⟩ (i + 1))); have hx2 : Ext w (wr.iterAt k0 ⟨l.toArray⟩ (i + 1)) := below_iterAt hx (by have := unhide HK0; omega); have hk2 := iterAt_new (pos' := i + 1) hk; have HN2 := hide (fun hc => (unhide HN).succ hli hc); have HY2 := hide (unhide HYES i (l.getD i 0) hmem); clear hmem hli hat hx hlow his; generalize l.getD i 0 = x at *; generalize wr.iterAt k0 ⟨l.toArray⟩ (i + 1) = w2 at *; have KK : Hid (noH.contains x = false → (∃ i' : Nat, i' ≤ l.length ∧ Hid (w2.heap[k0]? = some (.stringIter ⟨l.toArray⟩ i')) ∧ Hid (Lib.NoAny l noH i') ∧ Ext w w2) ∧ l.length - w2.iterPos k0 < l.length - wr.iterPos k0) := fun hc =>
          ⟨⟨i + 1, by omega, hk2, unhide HN2 hc, hx2⟩, by rw [iterPos_of hk2, hpos]; omega⟩
        clear HN2 hk2 HK HN HNO HYES hpos; go_wp2_with fail
        refine (unhide CC).mono ?_; rintro e w3 ⟨⟨z, rfl, hz⟩, hw⟩; have hw3 := hw.symm; clear hw; subst hw3; clear CC
        cases hc : noH.contains x with
        | true =>
          rw [hc] at hz; have hz' : 0 ≤ z := of_decide_eq_true hz; have kk := hide (unhide HY2 hc); clear HY2 KK hz hc hk; go_wp2; go_ret; exact ⟨unhide kk, hx2⟩
        | false =>
          rw [hc] at hz; have hz' : ¬ 0 ≤ z := of_decide_eq_false hz; have kk := hide (unhide KK hc); clear HY2 KK hz hc hk; go_wp2; exact unhide kk
      · have hhi : 128 ≤ (l.getD i 0).toNat := by omega
        have hnx := fun ty => Lib.run_next_any_at (P := Tryz.prog) wr k0 ⟨l.toArray⟩ i ty hk his; obtain ⟨d1, d2⟩ := decode_high ⟨l.toArray⟩ i his (by rw [hat]; exact hhi); have d3 := decode_le ⟨l.toArray⟩ i; obtain ⟨c1, c2⟩ := dec_cont l i hil hhi; have hN : Lib.NoAny l noH (i + (Utf8.decode ⟨l.toArray⟩ i).2) := by
          intro j b hj hb; rcases Nat.lt_or_ge j i with hji | hji
          · exact unhide HN j b hji hb
          · have h3 := c2 j hji hj; have hjl : j < l.length := by omega
            rw [List.getElem?_eq_getElem hjl] at hb; have hb2 := Option.some.inj hb; have : l.getD j 0 = b := by simp [List.getD, hjl, hb2]
            rw [this] at h3; exact noH_high b h3
        generalize (Utf8.decode ⟨l.toArray⟩ i).1 = r at *; generalize (Utf8.decode ⟨l.toArray⟩ i).2 = n at *; have CC := hide (irune_high (r : Int) (by omega) (by omega) (wr.iterAt k0 ⟨l.toArray⟩ (i + n))); have hx2 : Ext w (wr.iterAt k0 ⟨l.toArray⟩ (i + n)) := below_iterAt hx (by have := unhide HK0; omega); have hk2 := iterAt_new (pos' := i + n) hk; have HN2 := hide hN; have HD2 := hide d2; clear hmem hli hat hx hlow his hN c2 d1 d3 hhi d2; generalize wr.iterAt k0 ⟨l.toArray⟩ (i + n) = w2 at *; go_wp2_with fail
        refine (unhide CC).mono ?_; rintro e w3 ⟨rfl, hx3⟩; clear CC; have hk3 : w3.heap[k0]? = some (.stringIter ⟨l.toArray⟩ (i + n)) := (hx3.block k0 (Array.getElem?_eq_some_iff.1 hk2).1).trans hk2; have KK : Hid ((∃ i' : Nat, i' ≤ l.length ∧ Hid (w3.heap[k0]? = some (.stringIter ⟨l.toArray⟩ i')) ∧ Hid (Lib.NoAny l noH i') ∧ Ext w w3) ∧ l.length - w3.iterPos k0 < l.length - wr.iterPos k0) :=
          ⟨⟨i + n, c1, hk3, HN2, hx2.trans hx3⟩, by rw [iterPos_of hk3, hpos]; have := unhide HD2; omega⟩
        clear hk3 hk2 HN2 HK HN HNO HYES hpos hk c1 hx2 hx3; go_wp2; exact unhide KK
    · have hie : i = l.length := by omega
      have hnx := fun ty => Lib.run_next_end_at (P := Tryz.prog) wr k0 ⟨l.toArray⟩ i ty hk (by rw [hsz]; omega); have HF := hide (unhide HNO (by have := unhide HN; rwa [hie] at this)); clear hie HN HNO HYES hpos HK hk; go_wp2; go_ret; exact ⟨unhide HF, hx⟩
theorem noH_ascii : ∀ (j : Nat) b, noH[j]? = some b → b.toNat < 128 := by
  intro j b h; have hm : b ∈ noH := List.mem_of_getElem? h; have := noH_low ⟨b.toNat, b.toNat_lt⟩; simp only [UInt8.ofNat_toNat] at this; exact this (List.contains_iff_mem.2 hm)
set_option maxHeartbeats 4000000 in
set_option maxRecDepth 100000 in
theorem cany_any (l : List UInt8) (w : World) (hl : l.length ≤ 1000000) : Calls Tryz.prog 73 #[S l, S noH] w fun e w' => e = .returned (.bool (l.any noH.contains)) ∧ Ext w w' := by
  have HI : Hid (Calls Tryz.prog 116 #[S l, S noH] w fun e w' => (∃ z : Int, e = .returned (.int .i64 z) ∧ decide (0 ≤ z) = l.any noH.contains) ∧ Ext w w') := by
    by_cases h8 : l.length ≤ 8
    · exact iany_short l h8 w
    · have h256 : (Tryz.prog.info? 148).map (fun i => (i.zero, i.size)) = some (some (.agg (Array.replicate 256 (.bool false))), 256) := by kernel_rfl
      refine (Tryz.strings_IndexAny_long (zero_of_info h256).1 ⟨l.toArray⟩ ⟨noH.toArray⟩ w (by decide) (by rw [size_S]; omega) (by rw [size_S]; omega) (by decide) noH_ascii).mono ?_; rintro e w' ⟨h1, h2⟩; refine ⟨⟨_, h1, ?_⟩, ?_⟩
      · have key : ∀ m : List UInt8, decide (0 ≤ Lib.indexAny m noH) = m.any noH.contains := by
          intro m
          induction m with
          | nil => rfl
          | cons b m ih =>
            rw [Lib.indexAny, List.any_cons, ← ih]; have hge := Lib.indexAny_ge noH m
            cases noH.contains b with
            | true => rfl
            | false =>
              simp only [Bool.false_eq_true, if_false, Bool.false_or]; by_cases h : Lib.indexAny m noH = -1
              · rw [h]; rfl
              · have : (Lib.indexAny m noH == -1) = false := by simpa using h
                rw [this]; simp only [Bool.false_eq_true, if_false, decide_eq_decide]; omega
        exact key l
      · rw [h2]; exact ((Below.refl _ _).alloc (Nat.le_refl _) _).alloc (by simp) _
  generalize l.any noH.contains = b at *; go_enter Tryz.func73, Tryz.ntmps73; go_wp2_with fail
  refine (unhide HI).mono ?_; rintro e w2 ⟨⟨z, rfl, hz⟩, hx⟩; clear HI
  cases b with
  | true =>
    have hz' : 0 ≤ z := of_decide_eq_true hz; clear hz; go_wp2; go_ret; exact ⟨by simp, hx⟩
  | false =>
    have hz' : ¬ 0 ≤ z := of_decide_eq_false hz; clear hz; go_wp2; go_ret; exact ⟨by simp [hz'], hx⟩
end Go.Proofs.YtenlampiiodkhaaGreatDoor
