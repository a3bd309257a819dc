/-
  Pairs that are the same; the document's SamePairs, first.
-/
import Derived.Test.YtilmkmplaehcaaaDoorQryA
import Derived.Laws.StructEq
import Derived.Laws.IdiomStrings
import Derived.BigQuiet
import Derived.Shelf.Abstract
namespace Go.Proofs.YtilmkmplaehcaaaDoor
set_option linter.unusedVariables false
open Go.RowKit

theorem fields_pr : (Tryd.prog.fieldsOf 25).toList = [Field.mk "Name" 9 0 false "" "" 0, Field.mk "Value" 9 1 false "" "" 16] := by kernel_rfl
theorem partS (w : World) (cs : Array Value) (i : Nat) (v : Value) (h : cs[i]? = some v) : (part 9 cs i).run Tryd.prog w = .ok v w := by
  have ha : (isAgg 9).run Tryd.prog w = .ok false w := run_isAgg_plain Tryd.underlying9 rfl w
  unfold part
  simp [Sem.run_bind, ha, h]
theorem eqP (w : World) (d : Nat) (a b : ByteArray) : (Op.equalIn (d + 1 + 1) 25 (.agg #[.string a, .string b]) (.agg #[.string a, .string b])).run Tryd.prog w = .ok true w := by
  rw [run_equalIn_struct (P := Tryd.prog) w (d + 1) 25 _ _ (by kernel_rfl) (by kernel_rfl), fields_pr]
  have hs : ∀ (a : ByteArray) (w : World), (Op.equalIn (d + 1) 9 (.string a) (.string a)).run Tryd.prog w = .ok true w := fun a w => by
    rw [run_equalIn_string w d 9 a a Tryd.underlying9]
    simp
  simp [Op.eqFields, Sem.run_bind, partS _ #[Value.string a, Value.string b] 0 (.string a) rfl, partS _ #[Value.string a, Value.string b] 1 (.string b) rfl, hs]
theorem neqP (w : World) (p : Pr) : (binOp .neq 25 (.agg #[S p.1, S p.2]) (.agg #[S p.1, S p.2])).run Tryd.prog w = .ok (.bool false) w := by
  rw [run_neq_struct]
  have h : (Op.equalIn 10000 25 (.agg #[S p.1, S p.2]) (.agg #[S p.1, S p.2])).run Tryd.prog w = .ok true w := eqP w 9998 _ _
  rw [h]
  rfl

theorem sameP_zero (ao ao2 : Option Addr) (cap cap2 : Nat) (w : World) : Calls Tryd.prog 9 #[.slice ao 0 cap, .slice ao2 0 cap2] w fun e w' => e = .returned (.bool true) ∧ Ext w w' := by
  go_enter Tryd.func9, Tryd.ntmps9
  go_wp2
  refine wp_loop_rounds 1 ?_
  rw [rounds_succ]
  go_wp2
  go_ret
  exact ⟨rfl, Ext.refl _⟩
theorem sameP_any (ao ao2 : Option Addr) (cap cap2 : Nat) (l : List Pr) (w : World) (h : RdP w ao cap l) (h2 : RdP w ao2 cap2 l) :
    Calls Tryd.prog 9 #[.slice ao l.length cap, .slice ao2 l.length cap2] w fun e w' => e = .returned (.bool true) ∧ Ext w w' := by
  by_cases h0 : l.length = 0
  · rw [h0]
    exact sameP_zero ao ao2 cap cap2 w
  obtain ⟨g, off, rfl, hc⟩ := h.cells (by omega)
  obtain ⟨g2, off2, rfl, hc2⟩ := h2.cells (by omega)
  have hle := h.le
  have hmx := h.max
  have hle2 := h2.le
  have hmx2 := h2.max
  clear h h2
  go_enter Tryd.func9, Tryd.ntmps9
  go_wp2
  go_loopw [5] (fun i wr => ∃ k : Nat, k ≤ l.length ∧ i = .int .i64 k ∧ ∃ n, wr = w.drewN n) (fun i _ => l.length - (intOf i).toNat)
  case atStart => exact ⟨0, Nat.zero_le _, rfl, 0, rfl⟩
  case round =>
    obtain ⟨k, hk, rfl, n, rfl⟩ := hrel
    by_cases hkl : k < l.length
    · obtain ⟨c1, d1⟩ := hc k hkl
      obtain ⟨c2, d2⟩ := hc2 k hkl
      have i1 : (0 : Int) ≤ (k : Int) := by omega
      have i2 : (k : Int) < (l.length : Int) := by omega
      clear hc hc2
      generalize l.getD k ([], []) = p at *
      have hl1 : ∀ m, (Instr.loadAt 25 (.pointer (some ⟨g, off + k * 2, none⟩))).run Tryd.prog (w.drewN m) = .ok (.agg #[S p.1, S p.2]) (w.drewN m) := fun m => load_P (((Ext.drewN w m).cell (p := ⟨g, off + k * 2, none⟩) (cell_lt c1)).trans c1) (((Ext.drewN w m).cell (p := ⟨g, off + k * 2 + 1, none⟩) (cell_lt d1)).trans d1)
      have hl2 : ∀ m, (Instr.loadAt 25 (.pointer (some ⟨g2, off2 + k * 2, none⟩))).run Tryd.prog (w.drewN m) = .ok (.agg #[S p.1, S p.2]) (w.drewN m) := fun m => load_P (((Ext.drewN w m).cell (p := ⟨g2, off2 + k * 2, none⟩) (cell_lt c2)).trans c2) (((Ext.drewN w m).cell (p := ⟨g2, off2 + k * 2 + 1, none⟩) (cell_lt d2)).trans d2)
      have hnq := fun v : World => neqP v p
      go_wp2_with fail
      go_quiet (fail)
      go_wp2
      go_roundw
      case rel => exact ⟨k + 1, by omega, by go_num, n + nq, rfl⟩
      case measure => simp [intOf]; omega
    · go_wp2
      go_ret
      exact ⟨rfl, Ext.drewN _ _⟩

/-- Where a byte stands first. -/
theorem rfirst_any (s : List UInt8) (c : UInt8) (w : World) (hs : s.length ≤ 1000000) : Calls Tryd.prog 18 #[S s, B c] w fun e w' => e = .returned (.int .i64 ((cut1 c s).1.length : Int)) ∧ w' = w := by
  have hsz := size_S s
  have HIX := hide (fun (v : World) (k : Nat) (hk : k < s.length) => idx_str v s .i64 k hk)
  go_enter Tryd.func18, Tryd.ntmps18
  go_wp2
  go_loopw [5] (fun i wr => ∃ k : Nat, k ≤ s.length ∧ i = .int .i64 k ∧ (cut1 c s).1.length = k + (cut1 c (s.drop k)).1.length ∧ wr = w) (fun i _ => s.length - (intOf i).toNat)
  case atStart => exact ⟨0, Nat.zero_le _, rfl, by simp, rfl⟩
  case round =>
    obtain ⟨k, hk, rfl, he, rfl⟩ := hrel
    by_cases hkl : k < s.length
    · have hkl' : (k : Int) < (s.length : Int) := by omega
      have hix := unhide HIX wr k hkl
      have hD : s.drop k = s.getD k 0 :: s.drop (k + 1) := by
        rw [List.drop_eq_getElem_cons hkl]
        simp [List.getD, hkl]
      rw [hD] at he
      clear HIX hD
      generalize s.getD k 0 = x at *
      by_cases hx : x = c
      · have e1 : ((x.toNat : Int) == (c.toNat : Int)) = true := by rw [hx]; simp
        have hr : (cut1 c s).1.length = k := by rw [he]; simp [cut1, hx]
        clear he
        go_wp2
        go_ret
        exact ⟨by rw [hr]; rfl, rfl⟩
      · have e1 : ((x.toNat : Int) == (c.toNat : Int)) = false := by
          rw [beq_eq_false_iff_ne]
          intro h
          exact hx (UInt8.toNat_inj.1 (by omega))
        have hr : (cut1 c s).1.length = k + 1 + (cut1 c (s.drop (k + 1))).1.length := by
          rw [he]
          simp only [cut1, if_neg hx, List.length_cons]
          omega
        have HR := hide hr
        clear he hr
        go_wp2
        go_roundw
        case rel => exact ⟨k + 1, by omega, by go_num, unhide HR, by first | rfl | trivial⟩
        case measure => simp [intOf]; omega
    · have hk2 : k = s.length := by omega
      have hr : (cut1 c s).1.length = s.length := by
        rw [he, hk2, List.drop_length]
        simp [cut1]
      clear HIX he
      go_wp2
      go_ret
      exact ⟨by rw [hr]; rfl, rfl⟩
theorem cut1_at (c : UInt8) : ∀ s : List UInt8, s.take (cut1 c s).1.length = (cut1 c s).1 ∧ s.drop (min ((cut1 c s).1.length + 1) s.length) = (cut1 c s).2
  | [] => by simp [cut1]
  | x :: r => by
    have ih := cut1_at c r
    by_cases hx : x = c
    · simp [cut1, hx]
    · simp only [cut1, if_neg hx, List.length_cons, List.take_succ_cons]
      refine ⟨by rw [ih.1], ?_⟩
      rw [show min ((cut1 c r).1.length + 1 + 1) (r.length + 1) = min ((cut1 c r).1.length + 1) r.length + 1 by omega, List.drop_succ_cons]
      exact ih.2
end Go.Proofs.YtilmkmplaehcaaaDoor
