/-
  The document's Cut: a text at a byte.
-/
import Derived.Test.YtilmkmplaehcaaaDoorPcs
import Derived.BigRegion
import Derived.Laws.OwnMore
namespace Go.Proofs.YtilmkmplaehcaaaDoor
set_option linter.unusedVariables false
open Go.RowKit

theorem pcs_snoc_eq (c : UInt8) (l : List UInt8) : pcs c (l ++ [c]) = pcs c l ++ [[]] := pcs_app2 c l []
theorem pcs_snoc_ne (c x : UInt8) (hx : x ≠ c) : ∀ l : List UInt8, pcs c (l ++ [x]) = (pcs c l).dropLast ++ [lastP c l ++ [x]]
  | [] => by
    unfold lastP
    simp [pcs, hx]
  | y :: l => by
    have ih := pcs_snoc_ne c x hx l
    unfold lastP at ih ⊢
    rw [List.cons_append, pcs, pcs, ih]
    cases hp : pcs c l with
    | nil => exact absurd hp (pcs_ne c l)
    | cons q t =>
      by_cases hy : y = c
      · rw [if_pos hy, if_pos hy]
        simp [List.getLastD_eq_getLast?, List.getLast?_cons_cons]
      · rw [if_neg hy, if_neg hy]
        cases t with
        | nil => simp
        | cons u t' => simp [List.getLastD_eq_getLast?, List.getLast?_cons_cons]
theorem infoSt : (Tryd.prog.info? 9).map (fun i => (i.zero, i.size, i.bytes)) = some (some (.string ⟨#[]⟩), 1, 16) := by kernel_rfl
theorem one_ext (s : List UInt8) (k : Nat) (hk : k < s.length) : (⟨s.toArray⟩ : ByteArray).extract k (k + 1) = ⟨[s.getD k 0].toArray⟩ := by
  apply ByteArray.ext
  apply Array.toList_inj.1
  rw [Lib.extract_data]
  show List.take (k + 1 - k) (List.drop k s) = _
  rw [show k + 1 - k = 1 by omega]
  simp [List.getD, hk, List.take_one, List.head?_drop]
theorem one_slice (w : World) (s : List UInt8) (k : Nat) (hk : k < s.length) : (Instr.slice 9 (S s) (some (.int .i64 (k : Int))) (some (.int .i64 ((k : Int) + 1))) none).run Tryd.prog w = .ok (S [s.getD k 0]) w := by
  have h := run_slice_string w 9 ⟨s.toArray⟩ .i64 .i64 (k : Int) ((k : Int) + 1) Tryd.underlying9 (by omega) (by omega) (by rw [size_S]; omega)
  rw [show ((k : Int)).toNat = k by omega, show ((k : Int) + 1).toNat = k + 1 by omega] at h
  rw [h, one_ext s k hk]
theorem cat_to (x y : List UInt8) : (⟨x.toArray⟩ : ByteArray) ++ (⟨y.toArray⟩ : ByteArray) = ⟨(x ++ y).toArray⟩ := by
  apply ByteArray.ext
  rw [ByteArray.data_append]
  simp
theorem set_last (ps : List (List UInt8)) (h : ps ≠ []) (q : List UInt8) : (ps.map S).set (ps.length - 1) (S q) = (ps.dropLast ++ [q]).map S := by
  have e : ps = ps.dropLast ++ [ps.getLast h] := (List.dropLast_concat_getLast h).symm
  obtain ⟨a, b, rfl⟩ : ∃ a b, ps = a ++ [b] := ⟨_, _, e⟩
  simp
theorem last_at (c : UInt8) (l : List UInt8) : (pcs c l)[(pcs c l).length - 1]? = some (lastP c l) := by
  have h0 := List.length_pos_iff.2 (pcs_ne c l)
  unfold lastP
  rw [List.getLastD_eq_getLast?, List.getLast?_eq_getElem?]
  rw [List.getElem?_eq_getElem (by omega)]
  rfl

set_option maxHeartbeats 2000000 in
set_option maxRecDepth 100000 in
theorem rcut_any (s : List UInt8) (c : UInt8) (w : World) (hs : s.length ≤ 1000000) : Calls Tryd.prog 17 #[S s, B c] w fun e w' => ∃ v, e = .returned v ∧ w'.ownsRow w.heap.size 9 1 v (pcs c s).length ((pcs c s).map S) ∧ Below w.heap.size w w' := by
  have hsz := size_S s
  have HIX := hide (fun (v : World) (k : Nat) (hk : k < s.length) => idx_str v s .i64 k hk)
  have HSL := hide (fun (v : World) (k : Nat) (hk : k < s.length) => one_slice v s k hk)
  have own0 : (w.alloc (.cells #[S []] 9)).ownsRow w.heap.size 9 1 (.slice (some ⟨w.heap.size, 0, none⟩) 1 1) 1 [S []] := World.ownsRow_lit w #[S []] 1 (Nat.le_refl _) (by unfold maxLen; omega) rfl
  have hb0 : Below w.heap.size w (w.alloc (.cells #[S []] 9)) := (Below.refl _ _).alloc (Nat.le_refl _) _
  have ST : Hid (∃ (k g cap : Nat), k ≤ s.length ∧ Value.int .i64 0 = .int .i64 (k : Int) ∧ Value.slice (some ⟨w.heap.size, 0, none⟩) 1 1 = .slice (some ⟨g, 0, none⟩) (pcs c (s.take k)).length cap ∧ (w.alloc (.cells #[S []] 9)).ownsRow w.heap.size 9 1 (.slice (some ⟨g, 0, none⟩) (pcs c (s.take k)).length cap) (pcs c (s.take k)).length ((pcs c (s.take k)).map S) ∧ Below w.heap.size w (w.alloc (.cells #[S []] 9))) :=
    ⟨0, w.heap.size, 1, by omega, rfl, rfl, own0, hb0⟩
  clear own0 hb0
  go_enter Tryd.func17, Tryd.ntmps17
  go_wp2_with fail
  go_loopw [5, 6] (fun v i wr => ∃ (k g cap : Nat), k ≤ s.length ∧ i = .int .i64 (k : Int) ∧ v = .slice (some ⟨g, 0, none⟩) (pcs c (s.take k)).length cap ∧ wr.ownsRow w.heap.size 9 1 (.slice (some ⟨g, 0, none⟩) (pcs c (s.take k)).length cap) (pcs c (s.take k)).length ((pcs c (s.take k)).map S) ∧ Below w.heap.size w wr) (fun _ i _ => s.length - (intOf i).toNat)
  case atStart => exact unhide ST
  case round =>
    clear ST
    obtain ⟨k, g, cap, hk, rfl, rfl, own, hbr⟩ := hrel
    have hn0 := List.length_pos_iff.2 (pcs_ne c (s.take k))
    have hnl : (pcs c (s.take k)).length ≤ 1000001 := by
      rw [pcs_count]
      have : Lib.countByte (s.take k) c ≤ (s.take k).length := List.count_le_length
      rw [List.length_take] at this
      omega
    by_cases hkl : k < s.length
    · have hkl' : (k : Int) < (s.length : Int) := by omega
      have hx0 := unhide HIX wr k hkl
      have hsl := one_ext s k hkl
      have HT := hide (take_snoc s k 0 hkl)
      generalize s.getD k 0 = x at *
      by_cases hx : x = c
      · have e1 : ((x.toNat : Int) == (c.toNat : Int)) = true := by rw [hx]; simp
        have RL := RdV.lit wr [S []] 9 (0, 0) (by simp)
        have own2 := owns_below own (Ext.alloc wr (.cells #[S []] 9 (0, 0)))
        have hb2 : Below w.heap.size w (wr.alloc (.cells #[S []] 9 (0, 0))) := hbr.trans (Below.mono (Ext.alloc wr _) hbr.size)
        have hbase := hb2.size
        have hone : ∀ u ∈ [S []], u.oneCell' = true := by simp [Value.oneCell']
        have KEY : Hid (∀ v' w', w'.ownsRow w.heap.size 9 1 v' ((pcs c (s.take k)).length + 1) ((pcs c (s.take k)).map S ++ [S []]) → Below w.heap.size (wr.alloc (.cells #[S []] 9 (0, 0))) w' →
            (∃ (k' g' cap' : Nat), k' ≤ s.length ∧ Value.int .i64 ((k : Int) + 1) = .int .i64 (k' : Int) ∧ v' = .slice (some ⟨g', 0, none⟩) (pcs c (s.take k')).length cap' ∧ w'.ownsRow w.heap.size 9 1 (.slice (some ⟨g', 0, none⟩) (pcs c (s.take k')).length cap') (pcs c (s.take k')).length ((pcs c (s.take k')).map S) ∧ Below w.heap.size w w') ∧ s.length - ((k : Int) + 1).toNat < s.length - k) := by
          intro v' w' o' b'
          have e : pcs c (s.take (k + 1)) = pcs c (s.take k) ++ [[]] := by
            rw [unhide HT, hx]
            exact pcs_snoc_eq c _
          have o2 : w'.ownsRow w.heap.size 9 1 v' (pcs c (s.take (k + 1))).length ((pcs c (s.take (k + 1))).map S) := by
            rw [e, List.length_append, List.map_append]
            exact o'
          rcases o2.2 with ⟨_, h0⟩ | ⟨g', cap', cur, hv, _⟩
          · rw [e, List.length_append] at h0
            simp at h0
          · refine ⟨⟨k + 1, g', cap', by omega, by simp, hv, ?_, hb2.trans b'⟩, by omega⟩
            rw [← hv]
            exact o2
        clear own hbr hb2 HT hx HIX HSL
        go_wp2_with (at_builtin; refine wpList_app rfl (.tmp 19) (.tmp 20) 35 9 (.string ⟨#[]⟩) 16 Tryd.underlying35 infoSt rfl rfl w.heap.size _ _ _ rfl own2 _ _ _ [S []] rfl rfl RL hone (by omega) hbase ?_)
        intro v2 w3 o2 b2
        clear own2 RL hone
        have kk := hide (unhide KEY v2 w3 o2 b2)
        clear o2 b2 KEY
        go_wp2
        exact unhide kk
      · have hne : (x == c) = false := by simpa using hx
        have e1 : ((x.toNat : Int) == (c.toNat : Int)) = false := by
          rw [beq_eq_false_iff_ne]
          intro h
          exact hx (UInt8.toNat_inj.1 (by omega))
        have hse := pcs_snoc_ne c x hx (s.take k)
        have hla := last_at c (s.take k)
        have hlen : (lastP c (s.take k)).length ≤ 1000000 := by
          have h1 := pcs_len c (s.take k) (lastP c (s.take k)) (List.mem_of_getElem? hla)
          rw [List.length_take] at h1
          omega
        obtain ⟨m, hm⟩ : ∃ m, m = (pcs c (s.take k)).length - 1 := ⟨_, rfl⟩
        rw [← hm] at hla
        have c1 : wr.cell? ⟨g, m, none⟩ = some (S (lastP c (s.take k))) := by
          rw [own.cellAt m (by omega), List.getElem?_map, hla]
          rfl
        have f1 := own.frozenAt m
        obtain ⟨st, sg⟩ := own.stored m (S (lastP c (s.take k) ++ [x]))
        have hcat := cat_to (lastP c (s.take k)) [x]
        have KEY : Hid ((∃ (k' g' cap' : Nat), k' ≤ s.length ∧ Value.int .i64 ((k : Int) + 1) = .int .i64 (k' : Int) ∧ Value.slice (some ⟨g, 0, none⟩) (pcs c (s.take k)).length cap = .slice (some ⟨g', 0, none⟩) (pcs c (s.take k')).length cap' ∧ ((wr.setCell ⟨g, m, none⟩ (S (lastP c (s.take k) ++ [x]))).drew).ownsRow w.heap.size 9 1 (.slice (some ⟨g', 0, none⟩) (pcs c (s.take k')).length cap') (pcs c (s.take k')).length ((pcs c (s.take k')).map S) ∧ Below w.heap.size w ((wr.setCell ⟨g, m, none⟩ (S (lastP c (s.take k) ++ [x]))).drew)) ∧ s.length - ((k : Int) + 1).toNat < s.length - k) := by
          have e : pcs c (s.take (k + 1)) = (pcs c (s.take k)).dropLast ++ [lastP c (s.take k) ++ [x]] := by rw [unhide HT, hse]
          have el : (pcs c (s.take (k + 1))).length = (pcs c (s.take k)).length := by
            rw [e, List.length_append, List.length_dropLast]
            simp
            omega
          refine ⟨⟨k + 1, g, cap, by omega, by simp, by rw [el], ?_, ?_⟩, by omega⟩
          · rw [el, e, ← set_last (pcs c (s.take k)) (pcs_ne c _) (lastP c (s.take k) ++ [x]), ← hm]
            exact st
          · exact (hbr.trans ((Below.refl _ _).grown sg hbr.size (fun t ht => by
              simp only [Option.some.injEq] at ht
              subst ht
              exact (own.lt _ rfl).1))).drew
        have e2 : (((pcs c (s.take k)).length : Int) - 1).toNat = m := by omega
        have p1 : (0 : Int) ≤ ((pcs c (s.take k)).length : Int) - 1 := by omega
        have r1 : IntKind.i64.wrap (((pcs c (s.take k)).length : Int) - 1) = ((pcs c (s.take k)).length : Int) - 1 := by rw [IntKind.wrap_i64]; omega
        have r2 : IntKind.i64.wrap ((k : Int) + 1) = (k : Int) + 1 := by rw [IntKind.wrap_i64]; omega
        have b1 : ((pcs c (s.take k)).length : Int) - 1 < ((pcs c (s.take k)).length : Int) := by omega
        have hl2 : ¬ 9223372036854775807 < (lastP c (s.take k)).length + 1 := by omega
        clear hse hla st sg HT own hbr hx hm HIX HSL
        generalize lastP c (s.take k) ++ [x] = Z at *
        generalize lastP c (s.take k) = L at *
        generalize (pcs c (s.take k)).length = n at *
        go_wp2_with fail
        go_region
        clear c1 f1 hsl
        generalize (wr.setCell ⟨g, m, none⟩ (S Z)).drew = w3 at KEY ⊢
        go_wp2
        exact unhide KEY
    · have hkl' : ¬ (k : Int) < (s.length : Int) := by omega
      have e : s.take k = s := List.take_of_length_le (by omega)
      rw [e] at own ⊢
      have FF : Hid (∃ v, Ending.returned (.slice (some ⟨g, 0, none⟩) (pcs c s).length cap) = .returned v ∧ wr.ownsRow w.heap.size 9 1 v (pcs c s).length ((pcs c s).map S) ∧ Below w.heap.size w wr) := ⟨_, rfl, own, hbr⟩
      clear own hbr HIX HSL
      go_wp2
      go_ret
      exact unhide FF
end Go.Proofs.YtilmkmplaehcaaaDoor
