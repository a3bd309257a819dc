/-
  PctR, PctL, PctQ.
-/
import Derived.Test.YtenlampiiodkhaaGreatDoorBZc
namespace Go.Proofs.YtenlampiiodkhaaGreatDoor.Pct
set_option linter.unusedVariables false
open Go.RowKit
theorem one_snoc (l : List UInt8) (y b : UInt8) : one (l ++ [y]) b = (one l b || ((y.toNat : Int) == (b.toNat : Int))) := by
  rw [one_app, one_single]; congr 1; rw [Bool.eq_iff_iff]; simp only [beq_iff_eq]; constructor <;> exact fun h => h.symm
theorem one_mem {l : List UInt8} {b : UInt8} (h : b ∈ l) : one l b = true := by
  unfold one; simpa using h
set_option maxHeartbeats 400000 in
set_option maxRecDepth 100000 in
theorem has_any (l : List UInt8) (b : UInt8) (w : World) (hm : l.length ≤ 1000000) : Calls Tryz.prog 119 #[S l, B b] w fun e w' => e = .returned (.bool (one l b)) ∧ w' = w := by
  have hsz := size_S l; have HA := hide (at_S l); show Calls Tryz.prog 119 #[.string ⟨l.toArray⟩, B b] w _; generalize (⟨l.toArray⟩ : ByteArray) = z at *; go_enter Tryz.func119, Tryz.ntmps119; go_wp2
  go_loopw [5] (fun i wr => ∃ j : Nat, j ≤ l.length ∧ i = .int .i64 j ∧ one (l.take j) b = false ∧ wr = w) (fun i _ => l.length - (intOf i).toNat)
  case atStart => exact ⟨0, by omega, rfl, rfl, rfl⟩
  case round =>
    obtain ⟨j, hj, rfl, hno, rfl⟩ := hrel; have HN := hide hno; clear hno; by_cases hjl : j < l.length
    · have hat := unhide HA j (by omega); have HT := hide (take_snoc l j 0 hjl); have hmem : l.getD j 0 ∈ l := by simp [List.getD, hjl]
      have HM := hide hmem; clear hmem; generalize l.getD j 0 = y at *; by_cases hy : (y.toNat : Int) = (b.toNat : Int)
      · go_wp2; go_ret; have e : y = b := UInt8.toNat_inj.1 (by omega); rw [one_mem (e ▸ unhide HM)]; exact ⟨rfl, rfl⟩
      · go_wp2; go_roundw
        case rel =>
          refine ⟨j + 1, by omega, by go_num, ?_, by trivial⟩; rw [unhide HT, one_snoc, unhide HN]; simpa using hy
        case measure => simp [intOf]; omega
    · have e := unhide HN; rw [List.take_of_length_le (by omega)] at e; have HE := hide e; clear e; go_wp2; go_ret; rw [unhide HE]; exact ⟨rfl, rfl⟩
theorem add_path (w : World) : (binOp .add 9 (.string ⟨#[32, 34, 35, 60, 62, 63, 94, 96, 123, 125]⟩) (.string ⟨#[47, 58, 59, 61, 64, 91, 92, 93, 124]⟩)).run Tryz.prog w = .ok (S [32, 34, 35, 60, 62, 63, 94, 96, 123, 125, 47, 58, 59, 61, 64, 91, 92, 93, 124]) w := by kernel_rfl
theorem low_int (b : UInt8) : low b = (decide ((b.toNat : Int) < 32) || decide (126 < (b.toNat : Int))) := by
  unfold low; congr 1 <;> exact decide_eq_decide.2 (by omega)
set_option maxHeartbeats 1600000 in
set_option maxRecDepth 100000 in
theorem rin_any (s : Int) (b : UInt8) (w : World) : Calls Tryz.prog 76 #[.int .i64 s, B b] w fun e w' => e = .returned (.bool (inS s b)) ∧ w' = w := by
  have C1 := hide (has_any [32, 34, 60, 62, 96] b w (by simp)); have C2 := hide (has_any [32, 34, 35, 60, 62] b w (by simp)); have C3 := hide (has_any [32, 34, 35, 60, 62, 39] b w (by simp)); have C4 := hide (has_any [32, 34, 35, 60, 62, 63, 94, 96, 123, 125] b w (by simp)); have C5 := hide (has_any [32, 34, 35, 60, 62, 63, 94, 96, 123, 125, 47, 58, 59, 61, 64, 91, 92, 93, 124] b w (by simp)); have C6 := hide (has_any [42, 45, 46, 95] b w (by simp)); have ha := add_path; by_cases h6 : s = 6
  · subst h6; rw [show inS 6 b = !(alnum b || one [42, 45, 46, 95] b) from rfl]; generalize one [42, 45, 46, 95] b = o at *; unfold alnum; go_enter Tryz.func76, Tryz.ntmps76; go_wp2_with (refine (unhide C6).mono ?_; rintro e w2 ⟨rfl, rfl⟩)
    all_goals
      go_ret; refine ⟨?_, rfl⟩
      cases o <;> simp <;> first | omega | (rw [Bool.eq_iff_iff]; simp only [Bool.and_eq_true, Bool.or_eq_true, Bool.not_eq_true', decide_eq_true_eq, decide_eq_false_iff_not]; omega)
  have hlow := low_int b; have hl : ((b.toNat : Int) < 32 ∧ low b = true) ∨ ((¬ (b.toNat : Int) < 32 ∧ 126 < (b.toNat : Int)) ∧ low b = true) ∨ ((¬ (b.toNat : Int) < 32 ∧ ¬ 126 < (b.toNat : Int)) ∧ low b = false) := by
    rw [hlow]; simp only [Bool.or_eq_true, Bool.or_eq_false_iff, decide_eq_true_eq, decide_eq_false_iff_not]; omega
  clear hlow; go_enter Tryz.func76, Tryz.ntmps76; by_cases h0 : s = 0
  · subst h0; rw [show inS 0 b = low b from rfl]; rcases hl with ⟨h1, hl⟩ | ⟨⟨h1, h2⟩, hl⟩ | ⟨⟨h1, h2⟩, hl⟩
    all_goals
      rw [hl]; go_wp2; go_ret; exact ⟨rfl, rfl⟩
  by_cases h1s : s = 1
  · subst h1s; rw [show inS 1 b = (low b || one [32, 34, 60, 62, 96] b) from rfl]; generalize one [32, 34, 60, 62, 96] b = o at *; rcases hl with ⟨h1, hl⟩ | ⟨⟨h1, h2⟩, hl⟩ | ⟨⟨h1, h2⟩, hl⟩
    all_goals
      rw [hl]; go_wp2_with (refine (unhide C1).mono ?_; rintro e w2 ⟨rfl, rfl⟩)
      go_ret; exact ⟨by simp, rfl⟩
  by_cases h2s : s = 2
  · subst h2s; rw [show inS 2 b = (low b || one [32, 34, 35, 60, 62] b) from rfl]; generalize one [32, 34, 35, 60, 62] b = o at *; rcases hl with ⟨h1, hl⟩ | ⟨⟨h1, h2⟩, hl⟩ | ⟨⟨h1, h2⟩, hl⟩
    all_goals
      rw [hl]; go_wp2_with (refine (unhide C2).mono ?_; rintro e w2 ⟨rfl, rfl⟩)
      go_ret; exact ⟨by simp, rfl⟩
  by_cases h3s : s = 3
  · subst h3s; rw [show inS 3 b = (low b || one [32, 34, 35, 60, 62, 39] b) from rfl]; generalize one [32, 34, 35, 60, 62, 39] b = o at *; rcases hl with ⟨h1, hl⟩ | ⟨⟨h1, h2⟩, hl⟩ | ⟨⟨h1, h2⟩, hl⟩
    all_goals
      rw [hl]; go_wp2_with (refine (unhide C3).mono ?_; rintro e w2 ⟨rfl, rfl⟩)
      go_ret; exact ⟨by simp, rfl⟩
  by_cases h4s : s = 4
  · subst h4s; rw [show inS 4 b = (low b || one [32, 34, 35, 60, 62, 63, 94, 96, 123, 125] b) from rfl]; generalize one [32, 34, 35, 60, 62, 63, 94, 96, 123, 125] b = o at *; rcases hl with ⟨h1, hl⟩ | ⟨⟨h1, h2⟩, hl⟩ | ⟨⟨h1, h2⟩, hl⟩
    all_goals
      rw [hl]; go_wp2_with (refine (unhide C4).mono ?_; rintro e w2 ⟨rfl, rfl⟩)
      go_ret; exact ⟨by simp, rfl⟩
  by_cases h5s : s = 5
  · subst h5s; rw [show inS 5 b = (low b || one [32, 34, 35, 60, 62, 63, 94, 96, 123, 125, 47, 58, 59, 61, 64, 91, 92, 93, 124] b) from rfl]; generalize one [32, 34, 35, 60, 62, 63, 94, 96, 123, 125, 47, 58, 59, 61, 64, 91, 92, 93, 124] b = o at *; rcases hl with ⟨h1, hl⟩ | ⟨⟨h1, h2⟩, hl⟩ | ⟨⟨h1, h2⟩, hl⟩
    all_goals
      rw [hl]; go_wp2_with (refine (unhide C5).mono ?_; rintro e w2 ⟨rfl, rfl⟩)
      go_ret; exact ⟨by simp, rfl⟩
  have hn : inS s b = false := by unfold inS; simp [h0, h1s, h2s, h3s, h4s, h5s, h6]
  rw [hn]; rcases hl with ⟨h1, hl⟩ | ⟨⟨h1, h2⟩, hl⟩ | ⟨⟨h1, h2⟩, hl⟩
  all_goals
    go_wp2; go_ret; exact ⟨rfl, rfl⟩
set_option maxHeartbeats 400000 in
set_option maxRecDepth 100000 in
theorem hex_any (b : UInt8) (w : World) : Calls Tryz.prog 77 #[B b] w fun e w' => e = .returned (.int .i64 (if isx b then (hx b : Int) else -1)) ∧ w' = w := by
  have hb := b.toNat_lt; have hh : ((48 ≤ (b.toNat : Int) ∧ (b.toNat : Int) ≤ 57) ∧ (if isx b then (hx b : Int) else -1) = b.toNat - 48) ∨ ((97 ≤ (b.toNat : Int) ∧ (b.toNat : Int) ≤ 102) ∧ (if isx b then (hx b : Int) else -1) = b.toNat - 97 + 10) ∨ ((65 ≤ (b.toNat : Int) ∧ (b.toNat : Int) ≤ 70) ∧ (if isx b then (hx b : Int) else -1) = b.toNat - 65 + 10)
      ∨ ((¬ (48 ≤ (b.toNat : Int) ∧ (b.toNat : Int) ≤ 57) ∧ ¬ (97 ≤ (b.toNat : Int) ∧ (b.toNat : Int) ≤ 102) ∧ ¬ (65 ≤ (b.toNat : Int) ∧ (b.toNat : Int) ≤ 70)) ∧ (if isx b then (hx b : Int) else -1) = -1) := by
    cases h : isx b
    · unfold isx at h; simp only [Bool.or_eq_false_iff, Bool.and_eq_false_iff, decide_eq_false_iff_not] at h; right; right; right; refine ⟨by omega, by simp⟩
    · unfold isx at h; simp only [Bool.or_eq_true, Bool.and_eq_true, decide_eq_true_eq] at h; simp only [if_true]; unfold hx
      split
      · left; omega
      · split <;> omega
  rcases hh with ⟨⟨h1, h2⟩, e⟩ | ⟨⟨h1, h2⟩, e⟩ | ⟨⟨h1, h2⟩, e⟩ | ⟨⟨h1, h2, h3⟩, e⟩
  all_goals
    rw [e]; clear e; go_enter Tryz.func77, Tryz.ntmps77; go_wp2
    all_goals first
      | (exfalso; omega)
      | (go_ret
         exact ⟨by simp, rfl⟩)
end Go.Proofs.YtenlampiiodkhaaGreatDoor.Pct
namespace Go.Proofs.YtenlampiiodkhaaGreatDoor.Pct
set_option linter.unusedVariables false
open Go.RowKit
theorem B_two (a b : UInt8) (h1 : isx a = true) (h2 : isx b = true) : B (two a b) = .int .u8 (16 * (hx a : Int) + (hx b : Int)) := by
  have b1 := hx_lt _ h1; have b2 := hx_lt _ h2; unfold B two; congr 1; rw [UInt8.toNat_ofNat']; omega
theorem step_call {ops : Array Oper} {o : Oper} {a : Act} {w : World} {K : Act → World → Prop} {Q : Exit → Act → World → Prop} {E : Prop} (hgd : o.guard = none) (f : FuncId) (xs : Array Operand) (ats : Array TypeId)
    (hE : ∀ args w, (callFunc f args).run Tryz.prog w = .ok (.enter f args) w) (ho : o.op = .call { callee := .value (.func f), args := xs, argTypes := ats }) (args : Array Value) (hargs : xs.map a.eval = args) (v : Value)
    (hc : Calls Tryz.prog f args w fun e w' => e = .returned v ∧ w' = w) (h : K (a.put o.dst v) w) : if Region.wanted o (yielded ops a.tmps) = true then Oper.wp Tryz.prog o a w K Q else E := by
  have hw : Region.wanted o (yielded ops a.tmps) = true := by simp [Region.wanted, hgd]
  rw [if_pos hw]; subst hargs; obtain ⟨dst, op, ty, pos, after, guard⟩ := o; subst ho; have hrun : (execOp a.eval { dst := dst, op := .call { callee := .value (.func f), args := xs, argTypes := ats }, type := ty, pos := pos, after := after, guard := guard }).run Tryz.prog w = .ok (.enter f (xs.map a.eval)) w := by
    rw [execOp_call_go]; have e : #[] ++ xs.map a.eval ++ #[] = xs.map a.eval := by simp
    rw [e]; exact hE _ w
  unfold Oper.wp; rw [hrun, Oper.upon_enter]; refine hc.mono ?_; rintro e w' ⟨rfl, rfl⟩; exact h
theorem entersHex (args : Array Value) (w : World) : (callFunc 77 args).run Tryz.prog w = .ok (.enter 77 args) w := run_enter 77 _ Tryz.func77 (by kernel_rfl) (by kernel_rfl) args w
theorem hex_yes (b : UInt8) (w : World) (h : isx b = true) : Calls Tryz.prog 77 #[B b] w fun e w' => e = .returned (.int .i64 (hx b : Int)) ∧ w' = w := by
  have := hex_any b w; rw [h] at this; exact this
theorem hex_no (b : UInt8) (w : World) (h : isx b = false) : Calls Tryz.prog 77 #[B b] w fun e w' => e = .returned (.int .i64 (-1)) ∧ w' = w := by
  have := hex_any b w; rw [h] at this; exact this
theorem getD_drop (l : List UInt8) (j i : Nat) : (l.drop j).getD i 0 = l.getD (j + i) 0 := by simp [List.getD]
set_option maxHeartbeats 1600000 in
set_option maxRecDepth 100000 in
theorem plain_own (l : List UInt8) (w : World) (hm : l.length ≤ 1000000) :
    Calls Tryz.prog 46 #[S l] w fun e w' => ∃ v, e = .returned v ∧ w'.ownsRow w.heap.size 5 1 v (decd l).length ((decd l).map B) ∧ Below w.heap.size w w' := by
  have hsz := size_S l; have HI := hide (fun (k : Nat) (hk : k < l.length) (w : World) => idx_str w l .i64 k hk); show Calls Tryz.prog 46 #[.string ⟨l.toArray⟩] w _; generalize (⟨l.toArray⟩ : ByteArray) = z at *; go_enter Tryz.func46, Tryz.ntmps46; go_wp2
  go_loopw [3, 4] (fun o i wr => ∃ (j : Nat) (out : List UInt8), j ≤ l.length ∧ i = .int .i64 j ∧ out ++ decd (l.drop j) = decd l ∧ out.length ≤ j ∧ wr.ownsRow w.heap.size 5 1 o out.length (out.map B) ∧ Below w.heap.size w wr) (fun _ i _ => l.length - (intOf i).toNat)
  case atStart => exact ⟨0, [], by omega, rfl, rfl, by simp, World.ownsRow_nil _ _ _ _, Below.refl _ _⟩
  case round =>
    obtain ⟨j, out, hj, rfl, hv, hlen, ownr, hbr⟩ := hrel; have HV := hide hv; clear hv; by_cases hjl : j < l.length
    · have i0 := fun w => unhide HI j hjl w; have hyes : frontIs (l.drop j) = true → out ++ [two (l.getD (j + 1) 0) (l.getD (j + 2) 0)] ++ decd (l.drop (j + 3)) = decd l := by
        intro hf; rw [← unhide HV, decd_yes hf, List.drop_drop, getD_drop, getD_drop]; simp
      have hno : frontIs (l.drop j) = false → out ++ [l.getD j 0] ++ decd (l.drop (j + 1)) = decd l := by
        intro hf; rw [← unhide HV, decd_no hf (by simp; omega), List.drop_drop, getD_drop]; simp
      have hfr : frontIs (l.drop j) = (decide (j + 2 < l.length) && l.getD j 0 == 37 && isx (l.getD (j + 1) 0) && isx (l.getD (j + 2) 0)) := by
        unfold frontIs; rw [getD_drop, getD_drop, getD_drop, List.length_drop, Nat.add_zero]; have : decide (3 ≤ l.length - j) = decide (j + 2 < l.length) := decide_eq_decide.2 (by omega); rw [this]
      rw [hfr] at hyes hno; have HY := hide hyes; have HNO := hide hno; clear hyes hno hfr HV; have i1 := fun (w : World) (hk : j + 1 < l.length) => unhide HI (j + 1) hk w; have i2 := fun (w : World) (hk : j + 2 < l.length) => unhide HI (j + 2) hk w; generalize l.getD j 0 = x at *; generalize l.getD (j + 1) 0 = a at *; generalize l.getD (j + 2) 0 = b at *; have hbase := hbr.size
      -- all ways but one lay x
      have RL := RdV.lit wr [B x] 5 (0, 0) (by simp); have own2 := owns_below ownr (Ext.alloc wr (.cells #[B x] 5 (0, 0))); have hb2 : Below w.heap.size w (wr.alloc (.cells #[B x] 5 (0, 0))) := hbr.trans (Below.mono (Ext.alloc wr (.cells #[B x] 5 (0, 0))) hbr.size); have hbase2 := hb2.size; have hone : ∀ u ∈ [B x], u.oneCell' = true := by simp [B, Value.oneCell']
      have key : out ++ [x] ++ decd (l.drop (j + 1)) = decd l → ∀ v' w', w'.ownsRow w.heap.size 5 1 v' (out.length + 1) (out.map B ++ [B x]) → Below w.heap.size (wr.alloc (.cells #[B x] 5 (0, 0))) w' →
          (∃ (j' : Nat) (out' : List UInt8), j' ≤ l.length ∧ Value.int .i64 ((j : Int) + 1) = .int .i64 j' ∧ out' ++ decd (l.drop j') = decd l ∧ out'.length ≤ j' ∧ w'.ownsRow w.heap.size 5 1 v' out'.length (out'.map B) ∧ Below w.heap.size w w') ∧ l.length - ((j : Int) + 1).toNat < l.length - j := by
        intro hd v' w' o' b'; exact ⟨⟨j + 1, out ++ [x], by omega, by simp, hd, by simp; omega, by simpa using o', hb2.trans b'⟩, by omega⟩
      have KEY := hide key; clear key hb2; by_cases hx : (x.toNat : Int) = 37
      · have hx' : x = 37 := UInt8.toNat_inj.1 (by simpa using (by omega : x.toNat = 37)); subst hx'; clear hx; by_cases h2 : j + 2 < l.length
        · have i1 : ∀ w, (Instr.index 9 (.string z) (.int .i64 ((j : Int) + 1))).run Tryz.prog w = .ok (B a) w := fun w => by
            have := i1 w (by omega)
            rwa [show ((j + 1 : Nat) : Int) = (j : Int) + 1 by omega] at this
          have i2 : ∀ w, (Instr.index 9 (.string z) (.int .i64 ((j : Int) + 2))).run Tryz.prog w = .ok (B b) w := fun w => by
            have := i2 w (by omega)
            rwa [show ((j + 2 : Nat) : Int) = (j : Int) + 2 by omega] at this
          cases ha : isx a
          · have kk := unhide KEY (unhide HNO (by rw [ha]; simp)); have KK := hide kk; have HX := hide (hex_no a wr ha); clear kk KEY HY HNO ha; go_wp2_with fail
            refine (unhide HX).mono ?_; rintro e w3 ⟨rfl, hw3⟩; subst hw3; clear HX; go_wp2_with (at_builtin; refine wpList_app rfl (.tmp 56) (.tmp 60) 22 5 (.int .u8 0) 1 Tryz.underlying22 infoB rfl rfl w.heap.size _ _ _ rfl own2 _ _ _ [B 37] rfl rfl RL hone ?_ hbase2 ?_)
            · omega
            intro v2 w2 o2 b2; clear own2 RL hone; have k3 := unhide KK v2 w2 o2 b2; go_wp2; exact k3
          · cases hb : isx b
            · have kk := unhide KEY (unhide HNO (by rw [hb]; simp)); have KK := hide kk; have HX := hide (hex_yes a wr ha); have HX2 := hide (hex_no b wr hb); clear kk KEY HY HNO ha hb; go_wp2_with fail
              refine (unhide HX).mono ?_; rintro e w3 ⟨rfl, hw3⟩; subst hw3; clear HX; go_wp2_with fail
              refine (unhide HX2).mono ?_; rintro e w3 ⟨rfl, hw3⟩; subst hw3; clear HX2; go_wp2_with (at_builtin; refine wpList_app rfl (.tmp 56) (.tmp 60) 22 5 (.int .u8 0) 1 Tryz.underlying22 infoB rfl rfl w.heap.size _ _ _ rfl own2 _ _ _ [B 37] rfl rfl RL hone ?_ hbase2 ?_)
              · omega
              intro v2 w2 o2 b2; clear own2 RL hone; have k3 := unhide KK v2 w2 o2 b2; go_wp2; exact k3
            · have hd := unhide HY (by rw [ha, hb]; simp [h2]); have HD := hide hd; clear hd KEY HY HNO own2 RL hone hbase2; have b1 := hx_lt _ ha; have b2 := hx_lt _ hb; have H1 := hide (fun w => hex_yes a w ha); have H2 := hide (fun w => hex_yes b w hb); have hB := B_two a b ha hb; have ownd := owns_below ownr (Ext.drew wr); have hbd : Below w.heap.size w (wr.drew.alloc (.cells #[.int .u8 (16 * (hx a : Int) + (hx b : Int))] 5)) := hbr.trans (Below.mono ((Ext.drew wr).trans (Ext.alloc wr.drew _)) hbr.size); have key : ∀ v' w', w'.ownsRow w.heap.size 5 1 v' (out.length + 1) (out.map B ++ [.int .u8 (16 * (hx a : Int) + (hx b : Int))]) → Below w.heap.size (wr.drew.alloc (.cells #[.int .u8 (16 * (hx a : Int) + (hx b : Int))] 5)) w' →
                  (∃ (j' : Nat) (out' : List UInt8), j' ≤ l.length ∧ Value.int .i64 ((j : Int) + 2 + 1) = .int .i64 j' ∧ out' ++ decd (l.drop j') = decd l ∧ out'.length ≤ j' ∧ w'.ownsRow w.heap.size 5 1 v' out'.length (out'.map B) ∧ Below w.heap.size w w') ∧ l.length - ((j : Int) + 2 + 1).toNat < l.length - j := by
                intro v' w' o' b'; refine ⟨⟨j + 3, out ++ [two a b], by omega, by simp; omega, unhide HD, by simp; omega, ?_, hbd.trans b'⟩, by omega⟩; rw [List.map_append, List.map_singleton, hB, List.length_append]; exact o'
              have KK := hide key; clear key HD hB hbd ownr ha hb; generalize hx a = n1 at *; generalize hx b = n2 at *; have wq : IntKind.u8.wrap (16 * (n1 : Int) + (n2 : Int)) = 16 * (n1 : Int) + (n2 : Int) := by simp [IntKind.wrap, IntKind.bits, IntKind.signed]; omega
              go_wp2_with fail
              refine (unhide H1 _).mono ?_; rintro e w3 ⟨rfl, hw3⟩; subst hw3; go_wp2_with fail
              refine (unhide H2 _).mono ?_; rintro e w3 ⟨rfl, hw3⟩; subst hw3; go_wp2_with fail
              have q1 : IntKind.i64.wrap ((j : Int) + 1) = (j : Int) + 1 := by simp [IntKind.wrap, IntKind.bits, IntKind.signed]; omega
              have q2 : IntKind.i64.wrap ((j : Int) + 2) = (j : Int) + 2 := by simp [IntKind.wrap, IntKind.bits, IntKind.signed]; omega
              have q3 : IntKind.i64.wrap (16 * (n1 : Int)) = 16 * (n1 : Int) := by simp [IntKind.wrap, IntKind.bits, IntKind.signed]; omega
              have q4 : IntKind.i64.wrap (16 * (n1 : Int) + (n2 : Int)) = 16 * (n1 : Int) + (n2 : Int) := by simp [IntKind.wrap, IntKind.bits, IntKind.signed]; omega
              go_region_law (first
                | refine step_call rfl 77 #[.tmp 42] _ entersHex rfl #[B a] (by simp [Act.eval, Act.put]) (.int .i64 (n1 : Int)) (unhide H1 _) ?_
                | refine step_call rfl 77 #[.tmp 48] _ entersHex rfl #[B b] (by simp [Act.eval, Act.put]) (.int .i64 (n2 : Int)) (unhide H2 _) ?_
                | (refine step_app rfl (.tmp 38) (.tmp 52) 22 5 (.int .u8 0) 1 Tryz.underlying22 infoB rfl rfl w.heap.size _ _ (out.map B) ?_ (owns_below ownd (Ext.alloc _ _)) ⟨w3.heap.size, 0, none⟩ 1 1 [.int .u8 (16 * (n1 : Int) + (n2 : Int))] ?_ rfl ?_ ?_ ?_ ?_ ?_
                   · simp [Act.eval]
                   · simp [Act.eval]
                   · exact RdV.lit w3.drew _ _ _ (show 1 ≤ 9223372036854775807 by omega)
                   · simp [Value.oneCell']
                   · omega
                   · simp; omega
                   intro v2 w2 o2 b2; have k3 := unhide KK v2 w2 o2 b2; clear o2 b2))
              all_goals
                go_wp2; exact k3
        · have kk := unhide KEY (unhide HNO (by simp [h2])); have KK := hide kk; clear kk KEY HY HNO i1 i2; go_wp2_with (at_builtin; refine wpList_app rfl (.tmp 56) (.tmp 60) 22 5 (.int .u8 0) 1 Tryz.underlying22 infoB rfl rfl w.heap.size _ _ _ rfl own2 _ _ _ [B 37] rfl rfl RL hone ?_ hbase2 ?_)
          · omega
          intro v2 w2 o2 b2; clear own2 RL hone; have k3 := unhide KK v2 w2 o2 b2; go_wp2; exact k3
      · have hx' : (x == 37) = false := by
          rw [beq_eq_false_iff_ne]; rintro rfl; exact hx rfl
        have kk := unhide KEY (unhide HNO (by rw [hx']; simp)); have KK := hide kk; clear kk KEY HY HNO i1 i2; go_wp2_with (at_builtin; refine wpList_app rfl (.tmp 56) (.tmp 60) 22 5 (.int .u8 0) 1 Tryz.underlying22 infoB rfl rfl w.heap.size _ _ _ rfl own2 _ _ _ [B x] rfl rfl RL hone ?_ hbase2 ?_)
        · omega
        intro v2 w2 o2 b2; clear own2 RL hone; have k3 := unhide KK v2 w2 o2 b2; go_wp2; exact k3
    · have e : l.drop j = [] := List.drop_of_length_le (by omega); have hv := unhide HV; rw [e, decd_nil, List.append_nil] at hv; have HV2 := hide hv; clear hv HV; go_wp2; go_ret; rw [← unhide HV2]; exact ⟨_, rfl, ownr, hbr⟩
end Go.Proofs.YtenlampiiodkhaaGreatDoor.Pct
namespace Go.Proofs.YtenlampiiodkhaaGreatDoor.Pct
set_option linter.unusedVariables false
open Go.RowKit
set_option maxHeartbeats 800000 in
set_option maxRecDepth 100000 in
theorem percent_own (s : Int) (ao : Option Addr) (l cap : Nat) (bs : List UInt8) (w : World) (hl : bs.length = l) (hm : l ≤ 1000000) (h : RdV w ao cap (bs.map B)) :
    Calls Tryz.prog 45 #[.int .i64 s, .slice ao l cap] w fun e w' => e = .returned (S (encd s bs)) ∧ Ext w w' := by
  subst hl; have hle := h.le; have hmx := h.max; simp only [List.length_map] at hle; go_enter Tryz.func45, Tryz.ntmps45; go_wp2
  go_loopw [5, 6] (fun o i wr => ∃ (k : Nat), k ≤ bs.length ∧ i = .int .i64 k ∧ wr.ownsRow w.heap.size 5 1 o (encd s (bs.take k)).length ((encd s (bs.take k)).map B) ∧ Below w.heap.size w wr) (fun _ i _ => bs.length - (intOf i).toNat)
  case atStart => exact ⟨0, by omega, rfl, World.ownsRow_nil _ _ _ _, Below.refl _ _⟩
  case round =>
    obtain ⟨k, hk, rfl, ownr, hbr⟩ := hrel; by_cases hkl : k < bs.length
    · obtain ⟨b, off, rfl, hc⟩ := h.cells (by simp; omega); have c0 : wr.cell? ⟨b, off + k, none⟩ = some (B (bs.getD k 0)) := by
        have := hc k (by simpa using hkl); rw [getB bs k hkl] at this; rw [← this]; exact hbr.cell (p := ⟨b, off + k, none⟩) (cell_lt this)
      clear hc; have HT := hide (take_snoc bs k 0 hkl); have HL := hide (encd_len s (bs.take k)); generalize bs.getD k 0 = x at *; have hbase := hbr.size; have key : ∀ (ys : List UInt8) (wz : World) (v' : Value) (w' : World), piece s x = ys → Below w.heap.size w wz → w'.ownsRow w.heap.size 5 1 v' ((encd s (bs.take k)).length + ys.length) ((encd s (bs.take k)).map B ++ ys.map B) → Below w.heap.size wz w' →
          ((∃ (k' : Nat), k' ≤ bs.length ∧ Value.int .i64 ((k : Int) + 1) = .int .i64 k' ∧ w'.ownsRow w.heap.size 5 1 v' (encd s (bs.take k')).length ((encd s (bs.take k')).map B) ∧ Below w.heap.size w w') ∧ bs.length - ((k : Int) + 1).toNat < bs.length - k) := by
        intro ys wz v' w' hp hbz ho hb'; refine ⟨⟨k + 1, by omega, by simp, ?_, hbz.trans hb'⟩, by omega⟩; rw [unhide HT, encd_snoc, hp, List.length_append, List.map_append]; exact ho
      have KEY := hide key; clear key HT; have hlen := unhide HL; rw [List.length_take, Nat.min_eq_left hk] at hlen; clear HL; generalize encd s (bs.take k) = out at *; by_cases hs6 : s = 6 ∧ x = 32
      · obtain ⟨rfl, rfl⟩ := hs6; have RL := RdV.lit wr [B 43] 5 (0, 0) (by simp); have own2 := owns_below ownr (Ext.alloc wr (.cells #[B 43] 5 (0, 0))); have hb2 : Below w.heap.size w (wr.alloc (.cells #[B 43] 5 (0, 0))) := hbr.trans (Below.mono (Ext.alloc wr _) hbr.size); have hbase2 := hb2.size; have hone : ∀ u ∈ [B 43], u.oneCell' = true := by simp [B, Value.oneCell']
        clear ownr; go_wp2_with (at_builtin; refine wpList_app rfl (.tmp 30) (.tmp 31) 22 5 (.int .u8 0) 1 Tryz.underlying22 infoB rfl rfl w.heap.size _ _ _ rfl own2 _ _ _ [B 43] rfl rfl RL hone ?c2 hbase2 ?_)
        case c2 => omega
        intro v2 w2 o2 b2; clear own2 RL hone; have kk := unhide KEY [43] _ v2 w2 (by unfold piece; simp) hb2 (by simpa using o2) b2; go_wp2; exact kk
      · have hp : piece s x = if inS s x then [37, dig (x.toNat / 16), dig (x.toNat % 16)] else [x] := by unfold piece; rw [if_neg hs6]
        have hs7 : s ≠ 6 ∨ s = 6 ∧ (x.toNat : Int) ≠ 32 := by
          by_cases h6 : s = 6
          · refine .inr ⟨h6, fun e => hs6 ⟨h6, UInt8.toNat_inj.1 (by simpa using (by omega : x.toNat = 32))⟩⟩
          · exact .inl h6
        clear hs6; have HP := hide hp; clear hp; have hxl := x.toNat_lt; have IN := hide (rin_any s x); rcases hs7 with hs7 | ⟨rfl, hs7⟩
        all_goals
          go_wp2_with fail
          refine (unhide IN _).mono ?_; rintro e wz ⟨rfl, hwz⟩; subst hwz; clear IN; have hp := unhide HP; clear HP
          cases hi : inS _ x
          · rw [hi] at hp; have RL := RdV.lit wz [B x] 5 (0, 0) (by simp); have own2 := owns_below ownr (Ext.alloc wz (.cells #[B x] 5 (0, 0))); have hb2 : Below w.heap.size w (wz.alloc (.cells #[B x] 5 (0, 0))) := hbr.trans (Below.mono (Ext.alloc wz _) hbr.size); have hbase2 := hb2.size; have hone : ∀ u ∈ [B x], u.oneCell' = true := by simp [B, Value.oneCell']
            have KEY2 := hide (fun v2 w2 => unhide KEY [x] _ v2 w2 hp hb2); clear ownr hbr KEY hp hb2; go_wp2_with (at_builtin; refine wpList_app rfl (.tmp 13) (.tmp 18) 22 5 (.int .u8 0) 1 Tryz.underlying22 infoB rfl rfl w.heap.size _ _ _ rfl own2 _ _ _ [B x] rfl rfl RL hone (by omega) hbase2 ?_)
            intro v2 w2 o2 b2; clear own2 RL hone; have kk := unhide KEY2 v2 w2 (by simpa using o2) b2; go_wp2; exact kk
          · rw [hi] at hp; have d1 : ∀ w, (Instr.index 9 (.string ⟨#[48, 49, 50, 51, 52, 53, 54, 55, 56, 57, 65, 66, 67, 68, 69, 70]⟩) (.int .u8 ((x.toNat : Int) / 16))).run Tryz.prog w = .ok (B (dig (x.toNat / 16))) w := fun w => idx_dig w .u8 (x.toNat / 16) (by omega); have d2 : ∀ w, (Instr.index 9 (.string ⟨#[48, 49, 50, 51, 52, 53, 54, 55, 56, 57, 65, 66, 67, 68, 69, 70]⟩) (.int .u8 ((x.toNat : Int) % 16))).run Tryz.prog w = .ok (B (dig (x.toNat % 16))) w := fun w => idx_dig w .u8 (x.toNat % 16) (by omega); have wq : IntKind.u8.wrap ((x.toNat : Int) / 16) = (x.toNat : Int) / 16 := by simp [IntKind.wrap, IntKind.bits, IntKind.signed]; omega
            have tm : (x.toNat : Int).tmod 16 = (x.toNat : Int) % 16 := Int.tmod_eq_emod_of_nonneg (by omega); have hbase2 := hbr.size; have ownd := owns_below ownr (Ext.drew wz); have c1 : wz.drew.cell? ⟨b, off + k, none⟩ = some (B x) := c0; have hbd : Below w.heap.size w (wz.drew.alloc (.cells #[B 37, B (dig (x.toNat / 16)), B (dig (x.toNat % 16))] 5)) := hbr.trans (Below.mono ((Ext.drew wz).trans (Ext.alloc wz.drew _)) hbr.size); have KEY2 := hide (fun v2 w2 => unhide KEY [37, dig (x.toNat / 16), dig (x.toNat % 16)] _ v2 w2 hp hbd); clear KEY hp ownr hbr hbd; go_wp2_with fail
            go_region_law (
              refine step_app rfl (.tmp 40) (.tmp 53) 22 5 (.int .u8 0) 1 Tryz.underlying22 infoB rfl rfl w.heap.size _ _ (out.map B) ?_ (owns_below ownd (Ext.alloc _ _)) ⟨wz.heap.size, 0, none⟩ 3 3 [B 37, B (dig (x.toNat / 16)), B (dig (x.toNat % 16))] ?_ rfl ?_ ?_ ?_ ?_ ?_
              · simp [Act.eval]
              · simp [Act.eval]
              · exact RdV.lit wz.drew _ _ _ (show 3 ≤ 9223372036854775807 by omega)
              · simp [B, Value.oneCell']
              · omega
              · simp; omega
              intro v2 w2 o2 b2; have kk := unhide KEY2 v2 w2 (by simpa using o2) b2; clear o2 b2)
            all_goals
              go_wp2; exact kk
    · have e : bs.take k = bs := List.take_of_length_le (by omega); rw [e] at ownr; have hr := RdV.of_owned ownr; obtain ⟨a2, c2, rfl, hr2, hl2⟩ := hr; have cs := oconv_str wr a2 _ c2 (encd s bs) rfl hr2; go_wp2; go_ret; exact ⟨rfl, hbr⟩
end Go.Proofs.YtenlampiiodkhaaGreatDoor.Pct
