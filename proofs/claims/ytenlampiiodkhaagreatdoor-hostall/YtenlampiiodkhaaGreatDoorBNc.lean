/-
  Cut, I4Y, I4G, I4T, I4U, I4V, I4Z.
-/
import Derived.Test.YtenlampiiodkhaaGreatDoorBLc
import Derived.Test.YtenlampiiodkhaaGreatDoorPcsc
import Derived.BigRegion
import Derived.Laws.OwnMore
import Derived.Test.YtenlampiiodkhaaGreatDoorBMc
namespace Go.Proofs.YtenlampiiodkhaaGreatDoor
set_option linter.unusedVariables false
open Go.RowKit
theorem pcs_snoc_eq (c : UInt8) (l : List UInt8) : pcs c (l ++ [c]) = pcs c l ++ [[]] := pcs_app2 c l []
theorem pcs_snoc_ne (c x : UInt8) (hx : x ≠ c) : ∀ l : List UInt8, pcs c (l ++ [x]) = (pcs c l).dropLast ++ [lastP c l ++ [x]]
  | [] => by
    unfold lastP; simp [pcs, hx]
  | y :: l => by
    have ih := pcs_snoc_ne c x hx l; unfold lastP at ih ⊢; rw [List.cons_append, pcs, pcs, ih]
    cases hp : pcs c l with
    | nil => exact absurd hp (pcs_ne c l)
    | cons q t =>
      by_cases hy : y = c
      · rw [if_pos hy, if_pos hy]; simp [List.getLastD_eq_getLast?, List.getLast?_cons_cons]
      · rw [if_neg hy, if_neg hy]
        cases t with
        | nil => simp
        | cons u t' => simp [List.getLastD_eq_getLast?, List.getLast?_cons_cons]
theorem infoSt : (Tryz.prog.info? 9).map (fun i => (i.zero, i.size, i.bytes)) = some (some (.string ⟨#[]⟩), 1, 16) := by kernel_rfl
theorem one_ext (s : List UInt8) (k : Nat) (hk : k < s.length) : (⟨s.toArray⟩ : ByteArray).extract k (k + 1) = ⟨[s.getD k 0].toArray⟩ := by
  apply ByteArray.ext; apply Array.toList_inj.1; rw [Lib.extract_data]; show List.take (k + 1 - k) (List.drop k s) = _; rw [show k + 1 - k = 1 by omega]; simp [List.getD, hk, List.take_one, List.head?_drop]
theorem one_slice (w : World) (s : List UInt8) (k : Nat) (hk : k < s.length) : (Instr.slice 9 (S s) (some (.int .i64 (k : Int))) (some (.int .i64 ((k : Int) + 1))) none).run Tryz.prog w = .ok (S [s.getD k 0]) w := by
  have h := run_slice_string w 9 ⟨s.toArray⟩ .i64 .i64 (k : Int) ((k : Int) + 1) Tryz.underlying9 (by omega) (by omega) (by rw [size_S]; omega); rw [show ((k : Int)).toNat = k by omega, show ((k : Int) + 1).toNat = k + 1 by omega] at h; rw [h, one_ext s k hk]
theorem cat_to (x y : List UInt8) : (⟨x.toArray⟩ : ByteArray) ++ (⟨y.toArray⟩ : ByteArray) = ⟨(x ++ y).toArray⟩ := by
  apply ByteArray.ext; rw [ByteArray.data_append]; simp
theorem set_last (ps : List (List UInt8)) (h : ps ≠ []) (q : List UInt8) : (ps.map S).set (ps.length - 1) (S q) = (ps.dropLast ++ [q]).map S := by
  have e : ps = ps.dropLast ++ [ps.getLast h] := (List.dropLast_concat_getLast h).symm; obtain ⟨a, b, rfl⟩ : ∃ a b, ps = a ++ [b] := ⟨_, _, e⟩; simp
theorem last_at (c : UInt8) (l : List UInt8) : (pcs c l)[(pcs c l).length - 1]? = some (lastP c l) := by
  have h0 := List.length_pos_iff.2 (pcs_ne c l); unfold lastP; rw [List.getLastD_eq_getLast?, List.getLast?_eq_getElem?]; rw [List.getElem?_eq_getElem (by omega)]; rfl
set_option maxHeartbeats 2000000 in
set_option maxRecDepth 100000 in
theorem rcut_any (s : List UInt8) (c : UInt8) (w : World) (hs : s.length ≤ 1000000) : Calls Tryz.prog 39 #[S s, B c] w fun e w' => ∃ v, e = .returned v ∧ w'.ownsRow w.heap.size 9 1 v (pcs c s).length ((pcs c s).map S) ∧ Below w.heap.size w w' := by
  have hsz := size_S s; have HIX := hide (fun (v : World) (k : Nat) (hk : k < s.length) => idx_str v s .i64 k hk); have HSL := hide (fun (v : World) (k : Nat) (hk : k < s.length) => one_slice v s k hk); have own0 : (w.alloc (.cells #[S []] 9)).ownsRow w.heap.size 9 1 (.slice (some ⟨w.heap.size, 0, none⟩) 1 1) 1 [S []] := World.ownsRow_lit w #[S []] 1 (Nat.le_refl _) (by unfold maxLen; omega) rfl; have hb0 : Below w.heap.size w (w.alloc (.cells #[S []] 9)) := (Below.refl _ _).alloc (Nat.le_refl _) _; have ST : Hid (∃ (k g cap : Nat), k ≤ s.length ∧ Value.int .i64 0 = .int .i64 (k : Int) ∧ Value.slice (some ⟨w.heap.size, 0, none⟩) 1 1 = .slice (some ⟨g, 0, none⟩) (pcs c (s.take k)).length cap ∧ (w.alloc (.cells #[S []] 9)).ownsRow w.heap.size 9 1 (.slice (some ⟨g, 0, none⟩) (pcs c (s.take k)).length cap) (pcs c (s.take k)).length ((pcs c (s.take k)).map S) ∧ Below w.heap.size w (w.alloc (.cells #[S []] 9))) :=
    ⟨0, w.heap.size, 1, by omega, rfl, rfl, own0, hb0⟩
  clear own0 hb0; go_enter Tryz.func39, Tryz.ntmps39; go_wp2_with fail
  go_loopw [5, 6] (fun v i wr => ∃ (k g cap : Nat), k ≤ s.length ∧ i = .int .i64 (k : Int) ∧ v = .slice (some ⟨g, 0, none⟩) (pcs c (s.take k)).length cap ∧ wr.ownsRow w.heap.size 9 1 (.slice (some ⟨g, 0, none⟩) (pcs c (s.take k)).length cap) (pcs c (s.take k)).length ((pcs c (s.take k)).map S) ∧ Below w.heap.size w wr) (fun _ i _ => s.length - (intOf i).toNat)
  case atStart => exact unhide ST
  case round =>
    clear ST; obtain ⟨k, g, cap, hk, rfl, rfl, own, hbr⟩ := hrel; have hn0 := List.length_pos_iff.2 (pcs_ne c (s.take k)); have hnl : (pcs c (s.take k)).length ≤ 1000001 := by
      rw [pcs_count]; have : Lib.countByte (s.take k) c ≤ (s.take k).length := List.count_le_length; rw [List.length_take] at this; omega
    by_cases hkl : k < s.length
    · have hkl' : (k : Int) < (s.length : Int) := by omega
      have hx0 := unhide HIX wr k hkl; have hsl := one_ext s k hkl; have HT := hide (take_snoc s k 0 hkl); generalize s.getD k 0 = x at *; by_cases hx : x = c
      · have e1 : ((x.toNat : Int) == (c.toNat : Int)) = true := by rw [hx]; simp
        have RL := RdV.lit wr [S []] 9 (0, 0) (by simp); have own2 := owns_below own (Ext.alloc wr (.cells #[S []] 9 (0, 0))); have hb2 : Below w.heap.size w (wr.alloc (.cells #[S []] 9 (0, 0))) := hbr.trans (Below.mono (Ext.alloc wr _) hbr.size); have hbase := hb2.size; have hone : ∀ u ∈ [S []], u.oneCell' = true := by simp [Value.oneCell']
        have KEY : Hid (∀ v' w', w'.ownsRow w.heap.size 9 1 v' ((pcs c (s.take k)).length + 1) ((pcs c (s.take k)).map S ++ [S []]) → Below w.heap.size (wr.alloc (.cells #[S []] 9 (0, 0))) w' →
            (∃ (k' g' cap' : Nat), k' ≤ s.length ∧ Value.int .i64 ((k : Int) + 1) = .int .i64 (k' : Int) ∧ v' = .slice (some ⟨g', 0, none⟩) (pcs c (s.take k')).length cap' ∧ w'.ownsRow w.heap.size 9 1 (.slice (some ⟨g', 0, none⟩) (pcs c (s.take k')).length cap') (pcs c (s.take k')).length ((pcs c (s.take k')).map S) ∧ Below w.heap.size w w') ∧ s.length - ((k : Int) + 1).toNat < s.length - k) := by
          intro v' w' o' b'; have e : pcs c (s.take (k + 1)) = pcs c (s.take k) ++ [[]] := by
            rw [unhide HT, hx]; exact pcs_snoc_eq c _
          have o2 : w'.ownsRow w.heap.size 9 1 v' (pcs c (s.take (k + 1))).length ((pcs c (s.take (k + 1))).map S) := by
            rw [e, List.length_append, List.map_append]; exact o'
          rcases o2.2 with ⟨_, h0⟩ | ⟨g', cap', cur, hv, _⟩
          · rw [e, List.length_append] at h0; simp at h0
          · refine ⟨⟨k + 1, g', cap', by omega, by simp, hv, ?_, hb2.trans b'⟩, by omega⟩; rw [← hv]; exact o2
        clear own hbr hb2 HT hx HIX HSL; go_wp2_with (at_builtin; refine wpList_app rfl (.tmp 19) (.tmp 20) 28 9 (.string ⟨#[]⟩) 16 Tryz.underlying28 infoSt rfl rfl w.heap.size _ _ _ rfl own2 _ _ _ [S []] rfl rfl RL hone (by omega) hbase ?_)
        intro v2 w3 o2 b2; clear own2 RL hone; have kk := hide (unhide KEY v2 w3 o2 b2); clear o2 b2 KEY; go_wp2; exact unhide kk
      · have hne : (x == c) = false := by simpa using hx
        have e1 : ((x.toNat : Int) == (c.toNat : Int)) = false := by
          rw [beq_eq_false_iff_ne]; intro h; exact hx (UInt8.toNat_inj.1 (by omega))
        have hse := pcs_snoc_ne c x hx (s.take k); have hla := last_at c (s.take k); have hlen : (lastP c (s.take k)).length ≤ 1000000 := by
          have h1 := pcs_len c (s.take k) (lastP c (s.take k)) (List.mem_of_getElem? hla); rw [List.length_take] at h1; omega
        obtain ⟨m, hm⟩ : ∃ m, m = (pcs c (s.take k)).length - 1 := ⟨_, rfl⟩; rw [← hm] at hla; have c1 : wr.cell? ⟨g, m, none⟩ = some (S (lastP c (s.take k))) := by
          rw [own.cellAt m (by omega), List.getElem?_map, hla]; rfl
        have f1 := own.frozenAt m; obtain ⟨st, sg⟩ := own.stored m (S (lastP c (s.take k) ++ [x])); have hcat := cat_to (lastP c (s.take k)) [x]; have KEY : Hid ((∃ (k' g' cap' : Nat), k' ≤ s.length ∧ Value.int .i64 ((k : Int) + 1) = .int .i64 (k' : Int) ∧ Value.slice (some ⟨g, 0, none⟩) (pcs c (s.take k)).length cap = .slice (some ⟨g', 0, none⟩) (pcs c (s.take k')).length cap' ∧ ((wr.setCell ⟨g, m, none⟩ (S (lastP c (s.take k) ++ [x]))).drew).ownsRow w.heap.size 9 1 (.slice (some ⟨g', 0, none⟩) (pcs c (s.take k')).length cap') (pcs c (s.take k')).length ((pcs c (s.take k')).map S) ∧ Below w.heap.size w ((wr.setCell ⟨g, m, none⟩ (S (lastP c (s.take k) ++ [x]))).drew)) ∧ s.length - ((k : Int) + 1).toNat < s.length - k) := by
          have e : pcs c (s.take (k + 1)) = (pcs c (s.take k)).dropLast ++ [lastP c (s.take k) ++ [x]] := by rw [unhide HT, hse]
          have el : (pcs c (s.take (k + 1))).length = (pcs c (s.take k)).length := by
            rw [e, List.length_append, List.length_dropLast]; simp; omega
          refine ⟨⟨k + 1, g, cap, by omega, by simp, by rw [el], ?_, ?_⟩, by omega⟩
          · rw [el, e, ← set_last (pcs c (s.take k)) (pcs_ne c _) (lastP c (s.take k) ++ [x]), ← hm]; exact st
          · exact (hbr.trans ((Below.refl _ _).grown sg hbr.size (fun t ht => by
              simp only [Option.some.injEq] at ht; subst ht; exact (own.lt _ rfl).1))).drew
        have e2 : (((pcs c (s.take k)).length : Int) - 1).toNat = m := by omega
        have p1 : (0 : Int) ≤ ((pcs c (s.take k)).length : Int) - 1 := by omega
        have r1 : IntKind.i64.wrap (((pcs c (s.take k)).length : Int) - 1) = ((pcs c (s.take k)).length : Int) - 1 := by rw [IntKind.wrap_i64]; omega
        have r2 : IntKind.i64.wrap ((k : Int) + 1) = (k : Int) + 1 := by rw [IntKind.wrap_i64]; omega
        have b1 : ((pcs c (s.take k)).length : Int) - 1 < ((pcs c (s.take k)).length : Int) := by omega
        have hl2 : ¬ 9223372036854775807 < (lastP c (s.take k)).length + 1 := by omega
        clear hse hla st sg HT own hbr hx hm HIX HSL; generalize lastP c (s.take k) ++ [x] = Z at *; generalize lastP c (s.take k) = L at *; generalize (pcs c (s.take k)).length = n at *; go_wp2_with fail
        go_region
        clear c1 f1 hsl; generalize (wr.setCell ⟨g, m, none⟩ (S Z)).drew = w3 at KEY ⊢; go_wp2; exact unhide KEY
    · have hkl' : ¬ (k : Int) < (s.length : Int) := by omega
      have e : s.take k = s := List.take_of_length_le (by omega); rw [e] at own ⊢; have FF : Hid (∃ v, Ending.returned (.slice (some ⟨g, 0, none⟩) (pcs c s).length cap) = .returned v ∧ wr.ownsRow w.heap.size 9 1 v (pcs c s).length ((pcs c s).map S) ∧ Below w.heap.size w wr) := ⟨_, rfl, own, hbr⟩; clear own hbr HIX HSL; go_wp2; go_ret; exact unhide FF
end Go.Proofs.YtenlampiiodkhaaGreatDoor
namespace Go.Proofs.YtenlampiiodkhaaGreatDoor
set_option linter.unusedVariables false
open Go.RowKit
theorem lastP_mem (c : UInt8) (s : List UInt8) : lastP c s ∈ pcs c s := List.mem_of_getElem? (last_at c s)
set_option maxHeartbeats 2000000 in
set_option maxRecDepth 100000 in
theorem rparts_any (s : List UInt8) (w : World) (hs : s.length ≤ 1000000) : Calls Tryz.prog 78 #[S s] w fun e w' => ∃ g cap, e = .returned (.slice (some ⟨g, 0, none⟩) (pcs 46 (Lib.trimSuffix s [46])).length cap) ∧ RdV w' (some ⟨g, 0, none⟩) cap ((pcs 46 (Lib.trimSuffix s [46])).map S) ∧ Ext w w' := by
  have HC := hide (rcut_any s 46 w hs); have hpt := pcs_trim 46 s; have hla := last_at 46 s; have hn0 := List.length_pos_iff.2 (pcs_ne 46 s); generalize pcs 46 (Lib.trimSuffix s [46]) = qs at *; generalize lastP 46 s = L at *; generalize pcs 46 s = ps at *; go_enter Tryz.func78, Tryz.ntmps78; go_wp2_with fail
  refine (unhide HC).mono ?_; rintro e w1 ⟨v, rfl, own, hx⟩; clear HC; rcases own.2 with ⟨_, h0⟩ | ⟨g, cap, cur, rfl, _, _, hnc, hcm, _⟩
  · omega
  · have hr := RdV.of_owned_at own; have c1 : w1.cell? ⟨g, ps.length - 1, none⟩ = some (S L) := by
      rw [own.cellAt (ps.length - 1) (by omega), List.getElem?_map, hla]; rfl
    have hmx : cap ≤ 9223372036854775807 := by unfold maxLen at hcm; omega
    have ci : ((ps.length : Int) - 1).toNat = ps.length - 1 := by omega
    by_cases h1 : 1 < ps.length
    · have h1' : 1 < (ps.length : Int) := by omega
      by_cases hL : L = []
      · rw [if_pos ⟨h1, hL⟩] at hpt; have hie : L.isEmpty = true := by rw [hL]; rfl
        have FF : Hid (∃ g' cap', Ending.returned (.slice (some ⟨g, 0, none⟩) (ps.length - 1) cap) = .returned (.slice (some ⟨g', 0, none⟩) qs.length cap') ∧ RdV w1 (some ⟨g', 0, none⟩) cap' (qs.map S) ∧ Ext w w1) := by
          refine ⟨g, cap, ?_, ?_, hx⟩
          · rw [hpt, List.length_dropLast]
          · rw [hpt, List.dropLast_eq_take, List.map_take]; exact hr.take _
        clear hL hpt hla own hr hx; go_wp2; go_ret; exact unhide FF
      · rw [if_neg (fun h => hL h.2)] at hpt; have hie : L.isEmpty = false := by simpa using hL
        have hne : ¬ ((⟨L.toArray⟩ : ByteArray) = ⟨#[]⟩) := fun e => hL (by
          have := congrArg (fun b : ByteArray => b.data.toList) e; simpa using this)
        have FF : Hid (∃ g' cap', Ending.returned (.slice (some ⟨g, 0, none⟩) ps.length cap) = .returned (.slice (some ⟨g', 0, none⟩) qs.length cap') ∧ RdV w1 (some ⟨g', 0, none⟩) cap' (qs.map S) ∧ Ext w w1) := by
          rw [hpt]; exact ⟨g, cap, rfl, hr, hx⟩
        clear hL hpt hla own hr hx; go_wp2; go_ret; exact unhide FF
    · have h1' : ¬ 1 < (ps.length : Int) := by omega
      rw [if_neg (fun h => h1 h.1)] at hpt; have FF : Hid (∃ g' cap', Ending.returned (.slice (some ⟨g, 0, none⟩) ps.length cap) = .returned (.slice (some ⟨g', 0, none⟩) qs.length cap') ∧ RdV w1 (some ⟨g', 0, none⟩) cap' (qs.map S) ∧ Ext w w1) := by
        rw [hpt]; exact ⟨g, cap, rfl, hr, hx⟩
      clear hpt hla own hr hx; go_wp2; go_ret; exact unhide FF
def isDec (b : UInt8) : Bool := decide (48 ≤ b.toNat) && decide (b.toNat ≤ 57)
theorem isDec_iff : ∀ b : Fin 256, isDec (UInt8.ofNat b.val) = decide (dgV (UInt8.ofNat b.val) < 10) := by decide +kernel
theorem isDec_eq (b : UInt8) : isDec b = decide (dgV b < 10) := by
  have := isDec_iff ⟨b.toNat, b.toNat_lt⟩; simpa using this
def hasX (x : List UInt8) : Bool := decide (2 ≤ x.length) && (x.getD 1 0 == 120 || x.getD 1 0 == 88)
theorem okD_dec (x : List UInt8) : x.all isDec = okD 10 x := by
  unfold okD; congr 1; funext b; exact isDec_eq b
theorem dec_x : isDec 120 = false ∧ isDec 88 = false := by decide
theorem all_at {x : List UInt8} (h : x.all isDec = true) (i : Nat) (hi : i < x.length) : isDec (x.getD i 0) = true := List.all_eq_true.1 h _ (getD_mem x i hi)
theorem hasX_not {x : List UInt8} (h : hasX x = true) : x.all isDec = false := by
  rw [Bool.eq_false_iff]; intro ha; unfold hasX at h; simp only [Bool.and_eq_true, decide_eq_true_eq, Bool.or_eq_true, beq_iff_eq] at h; have := all_at ha 1 (by omega); rcases h.2 with e | e <;> rw [e] at this
  · rw [dec_x.1] at this
    cases this
  · rw [dec_x.2] at this
    cases this
theorem rends_eq (x : List UInt8) : endB x = ((!x.isEmpty && x.all isDec) || ((rnum x).isSome && hasX x)) := by
  cases hm : mrk x with
  | true =>
    have hX : hasX x = true := by
      unfold mrk at hm; unfold hasX; simp only [Bool.and_eq_true] at hm ⊢; exact ⟨hm.1.1, hm.2⟩
    have hne : x ≠ [] := by
      rintro rfl
      cases hm
    rw [hasX_not hX, hX]; unfold endB rnum; have eD : i4digs x = x.drop 2 := by unfold i4digs; rw [hm]; rfl
    have eB : bas x = 16 := by unfold bas; rw [hm]; rfl
    rw [hm, eD, eB]
    cases okD 16 (x.drop 2) <;> simp [hne]
  | false =>
    unfold endB; rw [hm, okD_dec]; simp only [Bool.false_eq_true, if_false]
    cases hX : hasX x with
    | false => simp
    | true =>
      have h0 := hasX_not hX; have ho : oct x = false := by
        unfold mrk at hm; unfold hasX at hX; unfold oct; simp only [Bool.and_eq_true] at hX; rw [hX.1, hX.2] at hm; simp only [Bool.true_and, Bool.and_true] at hm; rw [hm, Bool.and_false]
      have eD : i4digs x = x := by unfold i4digs; rw [hm, ho]; rfl
      have eB : bas x = 10 := by unfold bas; rw [hm, ho]; rfl
      have hr : rnum x = none := by
        unfold rnum; rw [eD, eB, if_neg]; rintro ⟨_, h2⟩; rw [← okD_dec, h0] at h2
        cases h2
      rw [okD_dec] at h0; rw [hr, h0]; simp
set_option maxHeartbeats 2000000 in
set_option maxRecDepth 100000 in
theorem rends_any (s : List UInt8) (w : World) (hs : s.length ≤ 100000) : Calls Tryz.prog 47 #[S s] w fun e w' => e = .returned (.bool (ends s)) ∧ Ext w w' := by
  have HC := hide (rparts_any s w (by omega)); have htl := trim_len 46 s; unfold ends; generalize Lib.trimSuffix s [46] = t at *; have hla := last_at 46 t; have hll := pcs_len 46 t _ (lastP_mem 46 t); have hn0 := List.length_pos_iff.2 (pcs_ne 46 t); rw [rends_eq]; generalize lastP 46 t = x at *; generalize pcs 46 t = ps at *; have fin : ∀ b : Bool, b = ((!x.isEmpty && x.all isDec) || ((rnum x).isSome && hasX x)) → Ending.returned (.bool b) = .returned (.bool ((!x.isEmpty && x.all isDec) || ((rnum x).isSome && hasX x))) := fun b h => by rw [h]
  have FIN := hide fin; clear fin; have HN := hide (fun v => rnumber_any x v (by omega)); have hsz := size_S x; have HIX := hide (fun (v : World) (k : Nat) (hk : k < x.length) => idx_str v x .i64 k hk); generalize hR : ((!x.isEmpty && x.all isDec) || ((rnum x).isSome && hasX x)) = RR at *; have HR := hide hR; clear hR; go_enter Tryz.func47, Tryz.ntmps47; go_wp2_with fail
  refine (unhide HC).mono ?_; rintro e w1 ⟨g, cap, rfl, hr, hx⟩; clear HC; have hle := hr.le; have hmx := hr.max; simp only [List.length_map] at hle; have c1 : w1.cell? ⟨g, ps.length - 1, none⟩ = some (S x) := by
    obtain ⟨b', off', eb, hc⟩ := hr.cell (ps.length - 1) (by simp; omega); simp only [Option.some.injEq, Addr.mk.injEq] at eb; obtain ⟨rfl, rfl, _⟩ := eb; rw [Nat.zero_add] at hc; rw [hc, List.getElem?_map, hla]; rfl
  have ci : ((ps.length : Int) - 1).toNat = ps.length - 1 := by omega
  clear hr hla; go_wp2_with fail
  go_loopw [5, 6] (fun b i wr => ∃ (k : Nat) (ok : Bool), k ≤ x.length ∧ i = .int .i64 k ∧ b = .bool ok ∧ Hid (ok = (!x.isEmpty && (x.take k).all isDec)) ∧ wr = w1) (fun _ i _ => x.length - (intOf i).toNat)
  case atStart => exact ⟨0, _, by omega, rfl, rfl, hide (by cases x <;> simp), rfl⟩
  case round =>
    obtain ⟨k, ok, hk, rfl, rfl, HOK, hw⟩ := hrel; subst hw; clear c1 ci; by_cases hkl : k < x.length
    · have hkl' : (k : Int) < (x.length : Int) := by omega
      have hx0 := unhide HIX wr k hkl; have HT := hide (take_snoc x k 0 hkl); have HNX : Hid (∀ q : Bool, q = (ok && isDec (x.getD k 0)) → q = (!x.isEmpty && (x.take (k + 1)).all isDec)) := fun q hq => by
        rw [hq, unhide HOK, unhide HT, List.all_append]; simp [Bool.and_assoc]
      have hy := (x.getD k 0).toNat_lt; generalize x.getD k 0 = y at *; have KK : Hid (∀ q : Bool, q = (ok && isDec y) → ((∃ (k' : Nat) (ok' : Bool), k' ≤ x.length ∧ Value.int .i64 ((k : Int) + 1) = .int .i64 k' ∧ Value.bool q = .bool ok' ∧ Hid (ok' = (!x.isEmpty && (x.take k').all isDec)) ∧ True) ∧ x.length - ((k : Int) + 1).toNat < x.length - k)) := fun q hq =>
        ⟨⟨k + 1, q, by omega, by simp, rfl, unhide HNX q hq, trivial⟩, by omega⟩
      clear HNX HT HOK HIX HN HR FIN
      cases ok with
      | false =>
        have kk := hide (unhide KK false rfl); clear KK; go_wp2; exact unhide kk
      | true =>
        by_cases h48 : 48 ≤ y.toNat
        · have h48' : (48 : Int) ≤ (y.toNat : Int) := by omega
          by_cases h57 : y.toNat ≤ 57
          · have h57' : (y.toNat : Int) ≤ 57 := by omega
            have kk := hide (unhide KK true (by unfold isDec; simp [h48, h57])); clear KK; go_wp2; exact unhide kk
          · have h57' : ¬ (y.toNat : Int) ≤ 57 := by omega
            have kk := hide (unhide KK false (by unfold isDec; simp [h57])); clear KK; go_wp2; exact unhide kk
        · have h48' : ¬ (48 : Int) ≤ (y.toNat : Int) := by omega
          have kk := hide (unhide KK false (by unfold isDec; simp [h48])); clear KK; go_wp2; exact unhide kk
    · have hkl' : ¬ (k : Int) < (x.length : Int) := by omega
      have e : x.take k = x := List.take_of_length_le (by omega); rw [e] at HOK
      cases ok with
      | true =>
        have HF := hide (unhide FIN true (by rw [← unhide HR, ← unhide HOK]; rfl)); clear HOK HR FIN HN HIX e; go_wp2; go_ret; exact ⟨unhide HF, hx⟩
      | false =>
        have HF : Hid (∀ b, b = ((rnum x).isSome && hasX x) → Ending.returned (.bool b) = .returned (.bool RR)) := fun b hb => unhide FIN b (by rw [← unhide HR, ← unhide HOK, hb]; rfl); clear HOK HR FIN e; have e1 := byte_eq (x.getD 1 0) 120; have e2 := byte_eq (x.getD 1 0) 88; simp only [show (((120 : UInt8).toNat : Nat) : Int) = 120 from rfl, show (((88 : UInt8).toNat : Nat) : Int) = 88 from rfl] at e1 e2; have HN1 := hide (unhide HN wr); clear HN
        cases hs : (rnum x).isSome with
        | false =>
          rw [hs] at HF HN1; have HF2 := hide (unhide HF false rfl); clear HF HIX hs e1 e2; generalize numV (rnum x) = nv at *; go_wp2_with fail
          refine (unhide HN1).mono ?_; rintro e w2 ⟨rfl, hw⟩; subst hw; clear HN1; go_wp2; go_ret; exact ⟨unhide HF2, hx⟩
        | true =>
          rw [hs] at HF HN1; generalize numV (rnum x) = nv at *; by_cases hl : 2 ≤ x.length
          · have hl' : (2 : Int) ≤ (x.length : Int) := by omega
            have i1 : (Instr.index 9 (S x) (.int .i64 1)).run Tryz.prog wr = .ok (B (x.getD 1 0)) wr := unhide HIX wr 1 (by omega); have HF3 : Hid (∀ b, b = (x.getD 1 0 == 120 || x.getD 1 0 == 88) → Ending.returned (.bool b) = .returned (.bool RR)) := fun b hb => unhide HF b (by unfold hasX; rw [show decide (2 ≤ x.length) = true from decide_eq_true hl, hb]; rfl); clear HF HIX hs; generalize x.getD 1 0 = y at *
            cases c1 : (y == 120) with
            | true =>
              rw [c1] at e1 HF3; have HF4 := hide (unhide HF3 true rfl); clear HF3 c1; go_wp2_with fail
              refine (unhide HN1).mono ?_; rintro e w2 ⟨rfl, hw⟩; subst hw; clear HN1; go_wp2; go_ret; exact ⟨unhide HF4, hx⟩
            | false =>
              rw [c1] at e1 HF3
              cases c2 : (y == 88) with
              | true =>
                rw [c2] at e2 HF3; have HF4 := hide (unhide HF3 true rfl); clear HF3 c1 c2; go_wp2_with fail
                refine (unhide HN1).mono ?_; rintro e w2 ⟨rfl, hw⟩; subst hw; clear HN1; go_wp2; go_ret; exact ⟨unhide HF4, hx⟩
              | false =>
                rw [c2] at e2 HF3; have HF4 := hide (unhide HF3 false rfl); clear HF3 c1 c2; go_wp2_with fail
                refine (unhide HN1).mono ?_; rintro e w2 ⟨rfl, hw⟩; subst hw; clear HN1; go_wp2; go_ret; exact ⟨unhide HF4, hx⟩
          · have hl' : ¬ (2 : Int) ≤ (x.length : Int) := by omega
            have HF4 := hide (unhide HF false (by unfold hasX; rw [show decide (2 ≤ x.length) = false from decide_eq_false hl]; rfl)); clear HF HIX hs e1 e2; go_wp2_with fail
            refine (unhide HN1).mono ?_; rintro e w2 ⟨rfl, hw⟩; subst hw; clear HN1; go_wp2; go_ret; exact ⟨unhide HF4, hx⟩
end Go.Proofs.YtenlampiiodkhaaGreatDoor
namespace Go.Proofs.YtenlampiiodkhaaGreatDoor
set_option linter.unusedVariables false
open Go.RowKit
end Go.Proofs.YtenlampiiodkhaaGreatDoor
namespace Go.Proofs.YtenlampiiodkhaaGreatDoor
set_option linter.unusedVariables false
open Go.RowKit
structure Wrt (b n m : Nat) (acc : List UInt8) : Prop where
  eq : bdg b n = bdg b m ++ acc
  le : m ≤ n / 2 ^ acc.length
  pos : acc = [] ∨ 0 < m
theorem Wrt.start (b n : Nat) : Wrt b n n [] := ⟨by simp, by simp, .inl rfl⟩
theorem Wrt.len {b n m : Nat} {acc : List UInt8} (h : Wrt b n m acc) (hn : n < 18446744073709551616) : acc.length ≤ 64 := by
  rcases h.pos with h0 | h0
  · rw [h0]; simp
  · have h1 : 1 ≤ n / 2 ^ acc.length := Nat.le_trans h0 h.le; have h2 := (Nat.le_div_iff_mul_le (Nat.two_pow_pos acc.length)).1 h1; rw [Nat.one_mul] at h2; have h3 : 2 ^ acc.length < 2 ^ 64 := Nat.lt_of_le_of_lt h2 hn; have := (Nat.pow_lt_pow_iff_right (show 1 < 2 by decide)).1 h3; omega
theorem Wrt.next {b n m : Nat} {acc : List UInt8} (h : Wrt b n m acc) (hb : 2 ≤ b) (hm : ¬ m < b) : Wrt b n (m / b) (hexd (m % b) :: acc) := by
  refine ⟨?_, ?_, .inr (Nat.div_pos (by omega) (by omega))⟩
  · rw [h.eq, bdg_great hm hb]; simp
  · rw [List.length_cons, Nat.pow_succ, ← Nat.div_div_eq_div_mul]; exact Nat.le_trans (Nat.div_le_div_left hb (by decide)) (Nat.div_le_div_right h.le)
theorem Wrt.last {b n m : Nat} {acc : List UInt8} (h : Wrt b n m acc) (hb : b ≤ 16) (hm : m < b) : bdg b n = hexd (m % b) :: acc := by
  rw [h.eq, bdg_small hm hb, Nat.mod_eq_of_lt hm]; rfl
theorem cat_one (x : UInt8) (acc : List UInt8) : (⟨[x].toArray⟩ : ByteArray) ++ (⟨acc.toArray⟩ : ByteArray) = ⟨(x :: acc).toArray⟩ := by
  apply ByteArray.ext; rw [ByteArray.data_append]; simp
theorem hexd_ten : ∀ d : Fin 10, (((hexd d.val).toNat : Nat) : Int) = 48 + (d.val : Int) := by decide +kernel
set_option maxHeartbeats 2000000 in
set_option maxRecDepth 100000 in
theorem ten_any (n : Nat) (w : World) (hn : n < 18446744073709551616) : Calls Tryz.prog 53 #[.int .u64 (n : Int)] w fun e w' => e = .returned (S (bdg 10 n)) ∧ Ext w w' := by
  have fin : ∀ s, s = bdg 10 n → Ending.returned (S s) = .returned (S (bdg 10 n)) := fun s h => by rw [h]
  have FIN := hide fin; clear fin; go_enter Tryz.func53, Tryz.ntmps53; go_wp2_with fail
  go_loopw [0, 3] (fun x s wr => ∃ (m : Nat) (acc : List UInt8), x = .int .u64 (m : Int) ∧ s = S acc ∧ Hid (Wrt 10 n m acc) ∧ m < 18446744073709551616 ∧ Ext w wr) (fun x _ _ => (intOf x).toNat)
  case atStart => exact ⟨n, [], rfl, rfl, Wrt.start 10 n, hn, Ext.refl _⟩
  case round =>
    obtain ⟨m, acc, rfl, rfl, HW, hm, hx⟩ := hrel; have hlen := (unhide HW).len hn; obtain ⟨d, hd⟩ : ∃ d, d = m % 10 := ⟨_, rfl⟩; have hd9 : d ≤ 9 := by omega
    have hrem : (m : Int) % 10 = (d : Int) := by omega
    have hdv := hexd_ten ⟨d, by omega⟩; simp only at hdv; have hcv : (convert 22 9 (.slice (some ⟨wr.heap.size, 0, none⟩) 1 1)).run Tryz.prog (wr.alloc (.cells #[.int .u8 (48 + (d : Int))] 5 (0, 0))) = .ok (S [hexd d]) (wr.alloc (.cells #[.int .u8 (48 + (d : Int))] 5 (0, 0))) := by
      have h := oconv_str (wr.alloc (.cells #[B (hexd d)] 5 (0, 0))) (some ⟨wr.heap.size, 0, none⟩) 1 1 [hexd d] rfl (RdV.lit wr [B (hexd d)] 5 (0, 0) (by simp)); rw [show B (hexd d) = .int .u8 (48 + (d : Int)) by rw [← hdv]] at h; exact h
    have hcat := cat_one (hexd d) acc; have hl2 : ¬ 9223372036854775807 < 1 + acc.length := by omega
    have hx2 := hx.trans (Ext.alloc wr (.cells #[.int .u8 (48 + (d : Int))] 5 (0, 0))); by_cases hm10 : m < 10
    · have hq : (m : Int) / 10 = 0 := by omega
      have HF := hide (unhide FIN (hexd d :: acc) (by rw [(unhide HW).last (by decide) hm10, ← hd])); clear HW hd hdv hx FIN; generalize hexd d :: acc = Z at *; generalize hexd d = xd at *; go_wp2; go_ret; exact ⟨unhide HF, hx2⟩
    · obtain ⟨q, hq⟩ : ∃ q, q = m / 10 := ⟨_, rfl⟩; have hqi : (m : Int) / 10 = (q : Int) := by omega
      have hq0 : ((q : Int) == 0) = false := by simp; omega
      have hq0' : ¬ (q : Int) = 0 := by omega
      have KK : Hid ((∃ (m' : Nat) (acc' : List UInt8), Value.int .u64 (q : Int) = .int .u64 (m' : Int) ∧ S (hexd d :: acc) = S acc' ∧ Hid (Wrt 10 n m' acc') ∧ m' < 18446744073709551616 ∧ Ext w (wr.alloc (.cells #[.int .u8 (48 + (d : Int))] 5 (0, 0)))) ∧ ((q : Int)).toNat < ((m : Int)).toNat) :=
        ⟨⟨q, hexd d :: acc, rfl, rfl, by rw [hq, hd]; exact (unhide HW).next (by decide) hm10, by omega, hx2⟩, by omega⟩
      clear HW hd hdv hx FIN hq hx2; generalize hexd d :: acc = Z at *; generalize hexd d = xd at *; go_wp2; exact unhide KK
end Go.Proofs.YtenlampiiodkhaaGreatDoor
namespace Go.Proofs.YtenlampiiodkhaaGreatDoor
set_option linter.unusedVariables false
open Go.RowKit
def hexs : List UInt8 := [48, 49, 50, 51, 52, 53, 54, 55, 56, 57, 97, 98, 99, 100, 101, 102]
theorem hexs_at : ∀ d : Fin 16, (⟨hexs.toArray⟩ : ByteArray).extract d.val (d.val + 1) = ⟨[hexd d.val].toArray⟩ := by decide +kernel
end Go.Proofs.YtenlampiiodkhaaGreatDoor
namespace Go.Proofs.YtenlampiiodkhaaGreatDoor
set_option linter.unusedVariables false
open Go.RowKit
theorem cat_two (x y : List UInt8) : (⟨x.toArray⟩ : ByteArray) ++ (⟨y.toArray⟩ : ByteArray) = ⟨(x ++ y).toArray⟩ := by
  apply ByteArray.ext; rw [ByteArray.data_append]; simp
theorem ten_len (n : Nat) (h : n ≤ 255) : (bdg 10 n).length ≤ 3 := by
  by_cases h1 : n < 10
  · rw [bdg_small h1 (by decide)]; simp
  · rw [bdg_great h1 (by decide)]; by_cases h2 : n / 10 < 10
    · rw [bdg_small h2 (by decide)]; simp
    · rw [bdg_great h2 (by decide), bdg_small (by omega) (by decide)]; simp
end Go.Proofs.YtenlampiiodkhaaGreatDoor
namespace Go.Proofs.YtenlampiiodkhaaGreatDoor
set_option linter.unusedVariables false
open Go.RowKit
def rsum (n : Nat) : Nat → Nat → List (List UInt8) → Option Nat
  | v, _, [] => some v
  | v, i, p :: t => (rnum p).bind fun x => if i + 1 = n then (if x < 256 ^ (5 - n) then rsum n (v + x) (i + 1) t else none) else (if x ≤ 255 then rsum n (v + x * 256 ^ (3 - i)) (i + 1) t else none)
theorem rnum_small (p : List UInt8) (most : Nat) (h : most < 1099511627776) : (rnum p).bind (fun x => if x ≤ most then some x else none) = numO p most := by
  unfold rnum numO; by_cases h1 : p ≠ [] ∧ okD (bas p) (i4digs p) = true
  · rw [if_pos h1]; simp only [Option.bind_some]; by_cases h2 : val (bas p) (i4digs p) ≤ most
    · rw [if_pos (by omega), if_pos ⟨h1.1, h1.2, h2⟩, Nat.min_eq_left (by omega)]
    · rw [if_neg (by omega), if_neg (fun h3 => h2 h3.2.2)]
  · rw [if_neg h1, if_neg (fun h3 => h1 ⟨h3.1, h3.2.1⟩)]; rfl
theorem rsum_mid (n v i : Nat) (p : List UInt8) (t : List (List UInt8)) (hi : i + 1 ≠ n) : rsum n v i (p :: t) = (numO p 255).bind fun x => rsum n (v + x * 256 ^ (3 - i)) (i + 1) t := by
  rw [← rnum_small p 255 (by decide), rsum]
  cases rnum p with
  | none => rfl
  | some x =>
    simp only [Option.bind_some, if_neg hi]; by_cases hx : x ≤ 255
    · simp [hx]
    · simp [hx]
theorem rsum_end (n v i : Nat) (p : List UInt8) (hi : i + 1 = n) (hn : 1 ≤ n) : rsum n v i [p] = (numO p (mostL n)).map fun x => v + x := by
  have hm : mostL n < 1099511627776 := by
    unfold mostL; have : 256 ^ (5 - n) ≤ 256 ^ 4 := Nat.pow_le_pow_right (by decide) (by omega); omega
  have hp := Nat.pow_pos (n := 5 - n) (show 0 < 256 by decide); rw [← rnum_small p (mostL n) hm, rsum]
  cases rnum p with
  | none => rfl
  | some x =>
    simp only [Option.bind_some, if_pos hi]; by_cases hx : x < 256 ^ (5 - n)
    · rw [if_pos hx, if_pos (by unfold mostL; omega)]; rfl
    · rw [if_neg hx, if_neg (by unfold mostL; omega)]; rfl
theorem add3 (a b c : Nat) : 0 + a + b + c = c + a + b := by omega
theorem add4 (a b c d : Nat) : 0 + a + b + c + d = d + a + b + c := by omega
theorem rsum_par (ps : List (List UInt8)) (h1 : 1 ≤ ps.length) (h4 : ps.length ≤ 4) : rsum ps.length 0 0 ps = parO ps := by
  unfold parO; rw [if_neg (by omega)]
  match ps, h1, h4 with
  | [p], _, _ =>
    show rsum 1 0 0 [p] = (numO p (mostL 1)).bind fun a => accO a 0 []; rw [rsum_end 1 0 0 p rfl (by decide)]
    cases numO p (mostL 1) with
    | none => rfl
    | some x => simp [accO]
  | [q, p], _, _ =>
    show rsum 2 0 0 [q, p] = (numO p (mostL 2)).bind fun a => accO a 0 [q]; rw [rsum_mid 2 0 0 q [p] (by decide)]
    cases hq : numO q 255 with
    | none =>
      cases numO p (mostL 2) with
      | none => rfl
      | some x =>
        show none = accO x 0 [q]; rw [accO, hq]; rfl
    | some y =>
      show rsum 2 (0 + y * 256 ^ (3 - 0)) 1 [p] = _; rw [rsum_end 2 _ 1 p rfl (by decide)]
      cases numO p (mostL 2) with
      | none => rfl
      | some x =>
        show some (0 + y * 256 ^ (3 - 0) + x) = accO x 0 [q]; rw [accO, hq]; show _ = some (x + y * 256 ^ (3 - 0)); generalize y * 256 ^ (3 - 0) = A; congr 1; omega
  | [q, r, p], _, _ =>
    show rsum 3 0 0 [q, r, p] = (numO p (mostL 3)).bind fun a => accO a 0 [q, r]; rw [rsum_mid 3 0 0 q [r, p] (by decide)]
    cases hq : numO q 255 with
    | none =>
      cases numO p (mostL 3) with
      | none => rfl
      | some x =>
        show none = accO x 0 [q, r]; rw [accO, hq]; rfl
    | some y =>
      show rsum 3 (0 + y * 256 ^ (3 - 0)) 1 [r, p] = _; rw [rsum_mid 3 _ 1 r [p] (by decide)]
      cases hr : numO r 255 with
      | none =>
        cases numO p (mostL 3) with
        | none => rfl
        | some x =>
          show none = accO x 0 [q, r]; rw [accO, hq]; show none = accO (x + y * 256 ^ (3 - 0)) 1 [r]; rw [accO, hr]; rfl
      | some z =>
        show rsum 3 (0 + y * 256 ^ (3 - 0) + z * 256 ^ (3 - 1)) 2 [p] = _; rw [rsum_end 3 _ 2 p rfl (by decide)]
        cases numO p (mostL 3) with
        | none => rfl
        | some x =>
          show some (0 + y * 256 ^ (3 - 0) + z * 256 ^ (3 - 1) + x) = accO x 0 [q, r]; rw [accO, hq]; show _ = accO (x + y * 256 ^ (3 - 0)) 1 [r]; rw [accO, hr]; simp only [Option.bind_some, accO]; exact congrArg some (add3 _ _ _)
  | [q, r, t, p], _, _ =>
    show rsum 4 0 0 [q, r, t, p] = (numO p (mostL 4)).bind fun a => accO a 0 [q, r, t]; rw [rsum_mid 4 0 0 q [r, t, p] (by decide)]
    cases hq : numO q 255 with
    | none =>
      cases numO p (mostL 4) with
      | none => rfl
      | some x =>
        show none = accO x 0 [q, r, t]; rw [accO, hq]; rfl
    | some y =>
      show rsum 4 (0 + y * 256 ^ (3 - 0)) 1 [r, t, p] = _; rw [rsum_mid 4 _ 1 r [t, p] (by decide)]
      cases hr : numO r 255 with
      | none =>
        cases numO p (mostL 4) with
        | none => rfl
        | some x =>
          show none = accO x 0 [q, r, t]; rw [accO, hq]; show none = accO (x + y * 256 ^ (3 - 0)) 1 [r, t]; rw [accO, hr]; rfl
      | some z =>
        show rsum 4 (0 + y * 256 ^ (3 - 0) + z * 256 ^ (3 - 1)) 2 [t, p] = _; rw [rsum_mid 4 _ 2 t [p] (by decide)]
        cases ht : numO t 255 with
        | none =>
          cases numO p (mostL 4) with
          | none => rfl
          | some x =>
            show none = accO x 0 [q, r, t]; rw [accO, hq]; show none = accO (x + y * 256 ^ (3 - 0)) 1 [r, t]; rw [accO, hr]; show none = accO (x + y * 256 ^ (3 - 0) + z * 256 ^ (3 - 1)) 2 [t]; rw [accO, ht]; rfl
        | some u =>
          show rsum 4 (0 + y * 256 ^ (3 - 0) + z * 256 ^ (3 - 1) + u * 256 ^ (3 - 2)) 3 [p] = _; rw [rsum_end 4 _ 3 p rfl (by decide)]
          cases numO p (mostL 4) with
          | none => rfl
          | some x =>
            show some (0 + y * 256 ^ (3 - 0) + z * 256 ^ (3 - 1) + u * 256 ^ (3 - 2) + x) = accO x 0 [q, r, t]; rw [accO, hq]; show _ = accO (x + y * 256 ^ (3 - 0)) 1 [r, t]; rw [accO, hr]; show _ = accO (x + y * 256 ^ (3 - 0) + z * 256 ^ (3 - 1)) 2 [t]; rw [accO, ht]; simp only [Option.bind_some, accO]; exact congrArg some (add4 _ _ _ _)
theorem accO_lt (n : Nat) : ∀ (t : List (List UInt8)) (a i r : Nat), i + t.length + 1 ≤ n → n ≤ 4 → a < bd n i → accO a i t = some r → r < 4294967296
  | [], a, i, r, h1, h2, ha, h => by
    simp only [accO, Option.some.injEq] at h; have := bd_max (n := n) (k := i) (by simpa using h1) h2; omega
  | p :: t, a, i, r, h1, h2, ha, h => by
    rw [accO] at h
    cases hp : numO p 255 with
    | none =>
      rw [hp] at h
      cases h
    | some x =>
      rw [hp] at h; simp only [Option.bind_some] at h; simp only [List.length_cons] at h1; exact accO_lt n t _ _ r (by omega) h2 (bd_step (by omega) h2 ha (numO_le hp)).1 h
theorem parO_lt {ps : List (List UInt8)} {r : Nat} (h1 : 1 ≤ ps.length) (h : parO ps = some r) : r < 4294967296 := by
  unfold parO at h
  split at h
  · cases h
  · rename_i h4
    cases hp : numO (ps.getLastD []) (mostL ps.length) with
    | none =>
      rw [hp] at h
      cases h
    | some a =>
      rw [hp] at h; exact accO_lt ps.length ps.dropLast a 0 r (by rw [List.length_dropLast]; omega) (by omega) (bd_start h1 (by omega) (numO_le hp)) h
end Go.Proofs.YtenlampiiodkhaaGreatDoor
