/-
  What the document's Plain tells.
-/
import Derived.Test.YtilmkmplaehcaaaDoorPctR
namespace Go.Proofs.YtilmkmplaehcaaaDoor.Pct
set_option linter.unusedVariables false
open Go.RowKit

theorem B_two (a b : UInt8) (h1 : isx a = true) (h2 : isx b = true) : B (two a b) = .int .u8 (16 * (hx a : Int) + (hx b : Int)) := by
  have b1 := hx_lt _ h1
  have b2 := hx_lt _ h2
  unfold B two
  congr 1
  rw [UInt8.toNat_ofNat']
  omega

/-- A call that answers one value and turns nothing, as one step of a statement whose order is left open. -/
theorem step_call {ops : Array Oper} {o : Oper} {a : Act} {w : World} {K : Act → World → Prop} {Q : Exit → Act → World → Prop} {E : Prop} (hgd : o.guard = none) (f : FuncId) (xs : Array Operand) (ats : Array TypeId)
    (hE : ∀ args w, (callFunc f args).run Tryd.prog w = .ok (.enter f args) w) (ho : o.op = .call { callee := .value (.func f), args := xs, argTypes := ats }) (args : Array Value) (hargs : xs.map a.eval = args) (v : Value)
    (hc : Calls Tryd.prog f args w fun e w' => e = .returned v ∧ w' = w) (h : K (a.put o.dst v) w) : if Region.wanted o (yielded ops a.tmps) = true then Oper.wp Tryd.prog o a w K Q else E := by
  have hw : Region.wanted o (yielded ops a.tmps) = true := by simp [Region.wanted, hgd]
  rw [if_pos hw]
  subst hargs
  obtain ⟨dst, op, ty, pos, after, guard⟩ := o
  subst ho
  have hrun : (execOp a.eval { dst := dst, op := .call { callee := .value (.func f), args := xs, argTypes := ats }, type := ty, pos := pos, after := after, guard := guard }).run Tryd.prog w = .ok (.enter f (xs.map a.eval)) w := by
    rw [execOp_call_go]
    have e : #[] ++ xs.map a.eval ++ #[] = xs.map a.eval := by simp
    rw [e]
    exact hE _ w
  unfold Oper.wp
  rw [hrun, Oper.upon_enter]
  refine hc.mono ?_
  rintro e w' ⟨rfl, rfl⟩
  exact h

theorem entersHex (args : Array Value) (w : World) : (callFunc 39 args).run Tryd.prog w = .ok (.enter 39 args) w := run_enter 39 _ Tryd.func39 (by kernel_rfl) (by kernel_rfl) args w

theorem hex_yes (b : UInt8) (w : World) (h : isx b = true) : Calls Tryd.prog 39 #[B b] w fun e w' => e = .returned (.int .i64 (hx b : Int)) ∧ w' = w := by
  have := hex_any b w
  rw [h] at this
  exact this
theorem hex_no (b : UInt8) (w : World) (h : isx b = false) : Calls Tryd.prog 39 #[B b] w fun e w' => e = .returned (.int .i64 (-1)) ∧ w' = w := by
  have := hex_any b w
  rw [h] at this
  exact this

theorem getD_drop (l : List UInt8) (j i : Nat) : (l.drop j).getD i 0 = l.getD (j + i) 0 := by simp [List.getD]

set_option maxHeartbeats 1600000 in
set_option maxRecDepth 100000 in
theorem plain_own (l : List UInt8) (w : World) (hm : l.length ≤ 1000000) :
    Calls Tryd.prog 28 #[S l] w fun e w' => ∃ v, e = .returned v ∧ w'.ownsRow w.heap.size 5 1 v (decd l).length ((decd l).map B) ∧ Below w.heap.size w w' := by
  have hsz := size_S l
  have HI := hide (fun (k : Nat) (hk : k < l.length) (w : World) => idx_str w l .i64 k hk)
  show Calls Tryd.prog 28 #[.string ⟨l.toArray⟩] w _
  generalize (⟨l.toArray⟩ : ByteArray) = z at *
  go_enter Tryd.func28, Tryd.ntmps28
  go_wp2
  go_loopw [3, 4] (fun o i wr => ∃ (j : Nat) (out : List UInt8), j ≤ l.length ∧ i = .int .i64 j ∧ out ++ decd (l.drop j) = decd l ∧ out.length ≤ j ∧ wr.ownsRow w.heap.size 5 1 o out.length (out.map B) ∧ Below w.heap.size w wr) (fun _ i _ => l.length - (intOf i).toNat)
  case atStart => exact ⟨0, [], by omega, rfl, rfl, by simp, World.ownsRow_nil _ _ _ _, Below.refl _ _⟩
  case round =>
    obtain ⟨j, out, hj, rfl, hv, hlen, ownr, hbr⟩ := hrel
    have HV := hide hv
    clear hv
    by_cases hjl : j < l.length
    · have i0 := fun w => unhide HI j hjl w
      have hyes : frontIs (l.drop j) = true → out ++ [two (l.getD (j + 1) 0) (l.getD (j + 2) 0)] ++ decd (l.drop (j + 3)) = decd l := by
        intro hf
        rw [← unhide HV, decd_yes hf, List.drop_drop, getD_drop, getD_drop]
        simp
      have hno : frontIs (l.drop j) = false → out ++ [l.getD j 0] ++ decd (l.drop (j + 1)) = decd l := by
        intro hf
        rw [← unhide HV, decd_no hf (by simp; omega), List.drop_drop, getD_drop]
        simp
      have hfr : frontIs (l.drop j) = (decide (j + 2 < l.length) && l.getD j 0 == 37 && isx (l.getD (j + 1) 0) && isx (l.getD (j + 2) 0)) := by
        unfold frontIs
        rw [getD_drop, getD_drop, getD_drop, List.length_drop, Nat.add_zero]
        have : decide (3 ≤ l.length - j) = decide (j + 2 < l.length) := decide_eq_decide.2 (by omega)
        rw [this]
      rw [hfr] at hyes hno
      have HY := hide hyes
      have HNO := hide hno
      clear hyes hno hfr HV
      have i1 := fun (w : World) (hk : j + 1 < l.length) => unhide HI (j + 1) hk w
      have i2 := fun (w : World) (hk : j + 2 < l.length) => unhide HI (j + 2) hk w
      generalize l.getD j 0 = x at *
      generalize l.getD (j + 1) 0 = a at *
      generalize l.getD (j + 2) 0 = b at *
      have hbase := hbr.size
      -- all ways but one lay x
      have RL := RdV.lit wr [B x] 5 (0, 0) (by simp)
      have own2 := owns_below ownr (Ext.alloc wr (.cells #[B x] 5 (0, 0)))
      have hb2 : Below w.heap.size w (wr.alloc (.cells #[B x] 5 (0, 0))) := hbr.trans (Below.mono (Ext.alloc wr (.cells #[B x] 5 (0, 0))) hbr.size)
      have hbase2 := hb2.size
      have hone : ∀ u ∈ [B x], u.oneCell' = true := by simp [B, Value.oneCell']
      have key : out ++ [x] ++ decd (l.drop (j + 1)) = decd l → ∀ v' w', w'.ownsRow w.heap.size 5 1 v' (out.length + 1) (out.map B ++ [B x]) → Below w.heap.size (wr.alloc (.cells #[B x] 5 (0, 0))) w' →
          (∃ (j' : Nat) (out' : List UInt8), j' ≤ l.length ∧ Value.int .i64 ((j : Int) + 1) = .int .i64 j' ∧ out' ++ decd (l.drop j') = decd l ∧ out'.length ≤ j' ∧ w'.ownsRow w.heap.size 5 1 v' out'.length (out'.map B) ∧ Below w.heap.size w w') ∧ l.length - ((j : Int) + 1).toNat < l.length - j := by
        intro hd v' w' o' b'
        exact ⟨⟨j + 1, out ++ [x], by omega, by simp, hd, by simp; omega, by simpa using o', hb2.trans b'⟩, by omega⟩
      have KEY := hide key
      clear key hb2
      by_cases hx : (x.toNat : Int) = 37
      · have hx' : x = 37 := UInt8.toNat_inj.1 (by simpa using (by omega : x.toNat = 37))
        subst hx'
        clear hx
        by_cases h2 : j + 2 < l.length
        · have i1 : ∀ w, (Instr.index 9 (.string z) (.int .i64 ((j : Int) + 1))).run Tryd.prog w = .ok (B a) w := fun w => by
            have := i1 w (by omega)
            rwa [show ((j + 1 : Nat) : Int) = (j : Int) + 1 by omega] at this
          have i2 : ∀ w, (Instr.index 9 (.string z) (.int .i64 ((j : Int) + 2))).run Tryd.prog w = .ok (B b) w := fun w => by
            have := i2 w (by omega)
            rwa [show ((j + 2 : Nat) : Int) = (j : Int) + 2 by omega] at this
          cases ha : isx a
          · have kk := unhide KEY (unhide HNO (by rw [ha]; simp))
            have KK := hide kk
            have HX := hide (hex_no a wr ha)
            clear kk KEY HY HNO ha
            go_wp2_with fail
            refine (unhide HX).mono ?_
            rintro e w3 ⟨rfl, hw3⟩
            subst hw3
            clear HX
            go_wp2_with (at_builtin; refine wpList_app rfl (.tmp 56) (.tmp 60) 33 5 (.int .u8 0) 1 Tryd.underlying33 infoB rfl rfl w.heap.size _ _ _ rfl own2 _ _ _ [B 37] rfl rfl RL hone ?_ hbase2 ?_)
            · omega
            intro v2 w2 o2 b2
            clear own2 RL hone
            have k3 := unhide KK v2 w2 o2 b2
            go_wp2
            exact k3
          · cases hb : isx b
            · have kk := unhide KEY (unhide HNO (by rw [hb]; simp))
              have KK := hide kk
              have HX := hide (hex_yes a wr ha)
              have HX2 := hide (hex_no b wr hb)
              clear kk KEY HY HNO ha hb
              go_wp2_with fail
              refine (unhide HX).mono ?_
              rintro e w3 ⟨rfl, hw3⟩
              subst hw3
              clear HX
              go_wp2_with fail
              refine (unhide HX2).mono ?_
              rintro e w3 ⟨rfl, hw3⟩
              subst hw3
              clear HX2
              go_wp2_with (at_builtin; refine wpList_app rfl (.tmp 56) (.tmp 60) 33 5 (.int .u8 0) 1 Tryd.underlying33 infoB rfl rfl w.heap.size _ _ _ rfl own2 _ _ _ [B 37] rfl rfl RL hone ?_ hbase2 ?_)
              · omega
              intro v2 w2 o2 b2
              clear own2 RL hone
              have k3 := unhide KK v2 w2 o2 b2
              go_wp2
              exact k3
            · have hd := unhide HY (by rw [ha, hb]; simp [h2])
              have HD := hide hd
              clear hd KEY HY HNO own2 RL hone hbase2
              have b1 := hx_lt _ ha
              have b2 := hx_lt _ hb
              have H1 := hide (fun w => hex_yes a w ha)
              have H2 := hide (fun w => hex_yes b w hb)
              have hB := B_two a b ha hb
              have ownd := owns_below ownr (Ext.drew wr)
              have hbd : Below w.heap.size w (wr.drew.alloc (.cells #[.int .u8 (16 * (hx a : Int) + (hx b : Int))] 5)) := hbr.trans (Below.mono ((Ext.drew wr).trans (Ext.alloc wr.drew _)) hbr.size)
              have key : ∀ v' w', w'.ownsRow w.heap.size 5 1 v' (out.length + 1) (out.map B ++ [.int .u8 (16 * (hx a : Int) + (hx b : Int))]) → Below w.heap.size (wr.drew.alloc (.cells #[.int .u8 (16 * (hx a : Int) + (hx b : Int))] 5)) w' →
                  (∃ (j' : Nat) (out' : List UInt8), j' ≤ l.length ∧ Value.int .i64 ((j : Int) + 2 + 1) = .int .i64 j' ∧ out' ++ decd (l.drop j') = decd l ∧ out'.length ≤ j' ∧ w'.ownsRow w.heap.size 5 1 v' out'.length (out'.map B) ∧ Below w.heap.size w w') ∧ l.length - ((j : Int) + 2 + 1).toNat < l.length - j := by
                intro v' w' o' b'
                refine ⟨⟨j + 3, out ++ [two a b], by omega, by simp; omega, unhide HD, by simp; omega, ?_, hbd.trans b'⟩, by omega⟩
                rw [List.map_append, List.map_singleton, hB, List.length_append]
                exact o'
              have KK := hide key
              clear key HD hB hbd ownr ha hb
              generalize hx a = n1 at *
              generalize hx b = n2 at *
              have wq : IntKind.u8.wrap (16 * (n1 : Int) + (n2 : Int)) = 16 * (n1 : Int) + (n2 : Int) := by simp [IntKind.wrap, IntKind.bits, IntKind.signed]; omega
              go_wp2_with fail
              refine (unhide H1 _).mono ?_
              rintro e w3 ⟨rfl, hw3⟩
              subst hw3
              go_wp2_with fail
              refine (unhide H2 _).mono ?_
              rintro e w3 ⟨rfl, hw3⟩
              subst hw3
              go_wp2_with fail
              have q1 : IntKind.i64.wrap ((j : Int) + 1) = (j : Int) + 1 := by simp [IntKind.wrap, IntKind.bits, IntKind.signed]; omega
              have q2 : IntKind.i64.wrap ((j : Int) + 2) = (j : Int) + 2 := by simp [IntKind.wrap, IntKind.bits, IntKind.signed]; omega
              have q3 : IntKind.i64.wrap (16 * (n1 : Int)) = 16 * (n1 : Int) := by simp [IntKind.wrap, IntKind.bits, IntKind.signed]; omega
              have q4 : IntKind.i64.wrap (16 * (n1 : Int) + (n2 : Int)) = 16 * (n1 : Int) + (n2 : Int) := by simp [IntKind.wrap, IntKind.bits, IntKind.signed]; omega
              go_region_law (first
                | refine step_call rfl 39 #[.tmp 42] _ entersHex rfl #[B a] (by simp [Act.eval, Act.put]) (.int .i64 (n1 : Int)) (unhide H1 _) ?_
                | refine step_call rfl 39 #[.tmp 48] _ entersHex rfl #[B b] (by simp [Act.eval, Act.put]) (.int .i64 (n2 : Int)) (unhide H2 _) ?_
                | (refine step_app rfl (.tmp 38) (.tmp 52) 33 5 (.int .u8 0) 1 Tryd.underlying33 infoB rfl rfl w.heap.size _ _ (out.map B) ?_ (owns_below ownd (Ext.alloc _ _)) ⟨w3.heap.size, 0, none⟩ 1 1 [.int .u8 (16 * (n1 : Int) + (n2 : Int))] ?_ rfl ?_ ?_ ?_ ?_ ?_
                   · simp [Act.eval]
                   · simp [Act.eval]
                   · exact RdV.lit w3.drew _ _ _ (show 1 ≤ 9223372036854775807 by omega)
                   · simp [Value.oneCell']
                   · omega
                   · simp; omega
                   intro v2 w2 o2 b2
                   have k3 := unhide KK v2 w2 o2 b2
                   clear o2 b2))
              all_goals
                go_wp2
                exact k3
        · have kk := unhide KEY (unhide HNO (by simp [h2]))
          have KK := hide kk
          clear kk KEY HY HNO i1 i2
          go_wp2_with (at_builtin; refine wpList_app rfl (.tmp 56) (.tmp 60) 33 5 (.int .u8 0) 1 Tryd.underlying33 infoB rfl rfl w.heap.size _ _ _ rfl own2 _ _ _ [B 37] rfl rfl RL hone ?_ hbase2 ?_)
          · omega
          intro v2 w2 o2 b2
          clear own2 RL hone
          have k3 := unhide KK v2 w2 o2 b2
          go_wp2
          exact k3
      · have hx' : (x == 37) = false := by
          rw [beq_eq_false_iff_ne]
          rintro rfl
          exact hx rfl
        have kk := unhide KEY (unhide HNO (by rw [hx']; simp))
        have KK := hide kk
        clear kk KEY HY HNO i1 i2
        go_wp2_with (at_builtin; refine wpList_app rfl (.tmp 56) (.tmp 60) 33 5 (.int .u8 0) 1 Tryd.underlying33 infoB rfl rfl w.heap.size _ _ _ rfl own2 _ _ _ [B x] rfl rfl RL hone ?_ hbase2 ?_)
        · omega
        intro v2 w2 o2 b2
        clear own2 RL hone
        have k3 := unhide KK v2 w2 o2 b2
        go_wp2
        exact k3
    · have e : l.drop j = [] := List.drop_of_length_le (by omega)
      have hv := unhide HV
      rw [e, decd_nil, List.append_nil] at hv
      have HV2 := hide hv
      clear hv HV
      go_wp2
      go_ret
      rw [← unhide HV2]
      exact ⟨_, rfl, ownr, hbr⟩
end Go.Proofs.YtilmkmplaehcaaaDoor.Pct
