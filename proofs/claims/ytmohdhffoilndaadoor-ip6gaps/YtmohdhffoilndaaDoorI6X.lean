/-
  One gap wherever it stands: the walk.
-/
import Derived.Test.YtmohdhffoilndaaDoorI6W
import Derived.Test.YtmohdhffoilndaaDoorReg3
namespace Go.Proofs.YtmohdhffoilndaaDoor
set_option linter.unusedVariables false
open Go.RowKit

theorem jbh_len : ∀ l : List Nat, (jb 58 (l.map h4)).length ≤ 5 * l.length := by
  intro l
  induction l with
  | nil => exact Nat.le_refl _
  | cons v t ih =>
    by_cases ht : t = []
    · subst ht
      show (h4 v).length ≤ _
      simp [h4]
    · rw [List.map_cons, jb_cons 58 _ _ (by simpa using ht), List.length_append, List.length_cons, List.length_cons]
      simp only [h4, List.length_cons, List.length_nil]
      omega
/-- The text behind so many pieces. -/
def gS (l : List Nat) (k j : Nat) : List UInt8 := if j ≤ k then lS l j else lS l k ++ [58, 58] ++ jb 58 (((l.take j).drop k).map h4)
theorem gS_zero (l : List Nat) (k : Nat) : gS l k 0 = [] := by
  unfold gS
  rw [if_pos (Nat.zero_le _)]
  rfl
theorem gS_gap (l : List Nat) (k : Nat) (h : k < l.length) : gS l k (k + 1) = gS l k k ++ [58, 58] ++ h4 (l.getD k 0) := by
  unfold gS
  rw [if_neg (by omega), if_pos (Nat.le_refl _), take_snoc l k 0 h, List.drop_append_of_le_length (by rw [List.length_take]; omega), List.drop_of_length_le (by rw [List.length_take]; omega)]
  rfl
theorem gS_colon (l : List Nat) (k j : Nat) (h : j < l.length) (hj : 0 < j) (hk : j ≠ k) : gS l k (j + 1) = gS l k j ++ [58] ++ h4 (l.getD j 0) := by
  unfold gS
  by_cases hjk : j < k
  · rw [if_pos (by omega), if_pos (by omega), lS_next l j hj h]
  · have hne : ((l.take j).drop k).map h4 ≠ [] := fun e => by
      have := congrArg List.length e
      rw [List.length_map, List.length_drop, List.length_take, List.length_nil] at this
      omega
    rw [if_neg (by omega), if_neg (by omega), take_snoc l j 0 h, List.drop_append_of_le_length (by rw [List.length_take]; omega), List.map_append, List.map_singleton, jb_snoc 58 _ _ hne]
    simp
theorem gS_first (l : List Nat) (k : Nat) (h : 0 < l.length) (hk : 0 ≠ k) : gS l k (0 + 1) = gS l k 0 ++ h4 (l.getD 0 0) := by
  rw [gS_zero]
  unfold gS
  rw [if_pos (by omega), lS_first l h]
  rfl
theorem gS_len (l : List Nat) (k j : Nat) : (gS l k j).length ≤ 5 * k + 5 * j + 2 := by
  unfold gS
  split
  · have := lS_len l j
    omega
  · have h1 := lS_len l k
    have h2 := jbh_len ((l.take j).drop k)
    rw [List.length_drop, List.length_take] at h2
    rw [List.length_append, List.length_append, show ([58, 58] : List UInt8).length = 2 from rfl]
    omega
def gE (l : List Nat) (k : Nat) : List UInt8 := lS l k ++ [58, 58] ++ jb 58 ((l.drop k).map h4)
theorem gS_end (l : List Nat) (k : Nat) (h : k < l.length) : gS l k l.length = gE l k := by
  unfold gS gE
  rw [if_neg (by omega), List.take_length]
theorem gS_tail (l : List Nat) : gS l l.length l.length ++ [58, 58] = gE l l.length := by
  unfold gS gE
  rw [if_pos (Nat.le_refl _), List.drop_length]
  simp [jb]
theorem gE_len (l : List Nat) (k : Nat) : (gE l k).length ≤ 5 * k + 5 * l.length + 2 := by
  unfold gE
  have h1 := lS_len l k
  have h2 := jbh_len (l.drop k)
  rw [List.length_drop] at h2
  rw [List.length_append, List.length_append, show ([58, 58] : List UInt8).length = 2 from rfl]
  omega
def gL (l : List Nat) (k : Nat) : List Nat := l.take k ++ List.replicate (8 - l.length) 0 ++ l.drop k
theorem gE_par (l : List Nat) (k : Nat) (hs : small l) (hk : k ≤ l.length) (h7 : l.length ≤ 7) : par6 (gE l k) = some (gL l k) ∧ par6 (gE l k ++ [58]) = none ∧ par6 (gE l k ++ [58, 58]) = none := by
  have hx := h4_map (small_take hs k)
  have hy := h4_map (small_drop hs k)
  have e0 : gE l k = jb 58 ((l.take k).map h4) ++ 58 :: 58 :: jb 58 ((l.drop k).map h4) := by unfold gE lS; simp
  refine ⟨?_, ?_, ?_⟩
  · rw [e0, par_gap _ _ hx.1 hy.1, hx.2, hy.2]
    unfold lay8 gL
    rw [if_pos (by rw [List.length_take, List.length_drop]; omega)]
    congr 3
    rw [List.length_take, List.length_drop]
    congr 1
    omega
  · rw [e0, show jb 58 ((l.take k).map h4) ++ 58 :: 58 :: jb 58 ((l.drop k).map h4) ++ [58] = jb 58 ((l.take k).map h4) ++ 58 :: 58 :: (jb 58 ((l.drop k).map h4) ++ [58]) by simp]
    exact par_gap_bad _ hx.1 _
  · rw [e0, show jb 58 ((l.take k).map h4) ++ 58 :: 58 :: jb 58 ((l.drop k).map h4) ++ [58, 58] = jb 58 ((l.take k).map h4) ++ 58 :: 58 :: ((jb 58 ((l.drop k).map h4) ++ [58]) ++ [58]) by simp]
    exact par_gap_bad _ hx.1 _

/-- The eight pieces, so many laid. -/
def gV (l : List Nat) (k j p : Nat) : Nat := if p < k then (if p < j then l.getD p 0 else 0) else if 8 - l.length + k ≤ p ∧ p < 8 - l.length + j then l.getD (p - (8 - l.length)) 0 else 0
def gW (l : List Nat) (k j : Nat) : List Nat := (List.range 8).map (gV l k j)
theorem gW_len (l : List Nat) (k j : Nat) : (gW l k j).length = 8 := by simp [gW]
theorem gW_at (l : List Nat) (k j p : Nat) (hp : p < (gW l k j).length) : (gW l k j)[p] = gV l k j p := by simp [gW]
theorem gW_zero (l : List Nat) (k : Nat) : gW l k 0 = [0, 0, 0, 0, 0, 0, 0, 0] := by
  have e : ∀ p, gV l k 0 p = 0 := fun p => by
    unfold gV
    split
    · rw [if_neg (by omega)]
    · rw [if_neg (by omega)]
  unfold gW
  rw [show List.range 8 = [0, 1, 2, 3, 4, 5, 6, 7] from rfl]
  simp [e]
theorem gW_set (l : List Nat) (k j p : Nat) (hj : j < l.length) (h7 : l.length ≤ 7) (hk : k ≤ l.length) (hp : p = if j < k then j else 8 - l.length + j) : (gW l k j).set p (l.getD j 0) = gW l k (j + 1) := by
  apply List.ext_getElem
  · rw [List.length_set, gW_len, gW_len]
  · intro i h1 h2
    rw [List.getElem_set, gW_at, gW_at]
    rw [gW_len] at h2
    unfold gV
    by_cases hjk : j < k
    · rw [if_pos hjk] at hp
      by_cases hpi : p = i
      · rw [if_pos hpi, if_pos (by omega), if_pos (by omega)]
        congr 1
        omega
      · rw [if_neg hpi]
        by_cases hik : i < k
        · rw [if_pos hik, if_pos hik]
          by_cases hij : i < j
          · rw [if_pos hij, if_pos (by omega)]
          · rw [if_neg hij, if_neg (by omega)]
        · rw [if_neg hik, if_neg hik, if_neg (by omega), if_neg (by omega)]
    · rw [if_neg hjk] at hp
      by_cases hpi : p = i
      · rw [if_pos hpi, if_neg (by omega), if_pos (by omega)]
        congr 1
        omega
      · rw [if_neg hpi]
        by_cases hik : i < k
        · rw [if_pos hik, if_pos hik, if_pos (by omega), if_pos (by omega)]
        · rw [if_neg hik, if_neg hik]
          by_cases hij : 8 - l.length + k ≤ i ∧ i < 8 - l.length + j
          · rw [if_pos hij, if_pos (by omega)]
          · rw [if_neg hij, if_neg (by omega)]
theorem gW_end (l : List Nat) (k : Nat) (h7 : l.length ≤ 7) (hk : k ≤ l.length) : gW l k l.length = gL l k := by
  show gW l k l.length = l.take k ++ List.replicate (8 - l.length) 0 ++ l.drop k
  apply List.ext_getElem
  · rw [gW_len, List.length_append, List.length_append, List.length_take, List.length_replicate, List.length_drop]
    omega
  · intro i h1 h2
    rw [gW_at]
    rw [gW_len] at h1
    unfold gV
    by_cases hik : i < k
    · rw [if_pos hik, if_pos (by omega), List.getElem_append_left (by rw [List.length_append, List.length_take, List.length_replicate]; omega), List.getElem_append_left (by rw [List.length_take]; omega), List.getElem_take]
      simp [List.getD, show i < l.length by omega]
    · rw [if_neg hik]
      by_cases hig : i < 8 - l.length + k
      · rw [if_neg (by omega), List.getElem_append_left (by rw [List.length_append, List.length_take, List.length_replicate]; omega), List.getElem_append_right (by rw [List.length_take]; omega)]
        simp
      · have hlt : i - (8 - l.length) < l.length := by omega
        rw [if_pos (by omega), List.getElem_append_right (by rw [List.length_append, List.length_take, List.length_replicate]; omega), List.getElem_drop]
        simp only [List.getD, List.getElem?_eq_getElem hlt, Option.getD_some]
        congr 1
        rw [List.length_append, List.length_take, List.length_replicate]
        omega

section
variable {ops : Array Oper} {Q : Exit → Act → World → Prop} {A : Tmp → Value → World → Prop} {a0 : Act} {w0 : World} {o : Oper} {d : Tmp}
theorem ok_catw (hw : Wanted ops A o) (hdst : o.dst = some d) (x y : Tmp) (ty ty' : TypeId) (ho : o.op = .binOp .add ty (.tmp x) (.tmp y) ty') (hx1 : (depSlots ops o).contains x = true) (hy1 : (depSlots ops o).contains y = true)
    (p q : List UInt8) (hl : p.length + q.length ≤ 1000) (hX : ∀ v w, A x v w → v = S p) (hY : ∀ v w, A y v w → v = S q) (hF : ∀ w, A d (S (p ++ q)) w) : StepOk Tryd.prog ops Q A a0 w0 o :=
  ok_val hw hdst fun a w hx hf hd => ⟨S (p ++ q), w, by
    have e1 : a.tmps.getD x undef = .string ⟨p.toArray⟩ := hX _ _ (hd x hx1)
    have e2 : a.tmps.getD y undef = .string ⟨q.toArray⟩ := hY _ _ (hd y hy1)
    have h1 : (⟨p.toArray⟩ : ByteArray).size = p.length := by simp [ByteArray.size]
    have h2 : (⟨q.toArray⟩ : ByteArray).size = q.length := by simp [ByteArray.size]
    simp only [execOp, ho, Act.eval, e1, e2]
    simp [eqGuard, binOp, Op.stringOp, h1, h2, cat_to, S]
    try omega, hF w, Ext.refl _⟩
end
theorem addr_16w (w : World) (b off n cap j : Nat) (hj : j < n) : (Instr.indexAt 37 (.slice (some ⟨b, off, none⟩) n cap) (.int .i64 (j : Int))).run Tryd.prog w = .ok (.pointer (some ⟨b, off + j, none⟩)) w := by
  have he : Tryd.prog.elem 37 = 22 := by kernel_rfl
  rw [run_indexAt_slice w 37 ⟨b, off, none⟩ n cap .i64 (j : Int) (by rw [he]; exact Tryd.underlying37), if_pos ⟨by omega, by omega⟩, he, size16]
  simp only [Result.andThen]
  rw [Addr.add_lit]
  simp

set_option maxHeartbeats 8000000 in
set_option maxRecDepth 100000 in
theorem gaps_walk (ao : Option Addr) (n cap : Nat) (l : List Nat) (hln : l.length = n) (m : Nat) (hm : m < 256) (hs : small l) (w : World) (tb : Tb8 w) (hR : RdV w ao cap (l.map U)) :
    Calls Tryd.prog 8 #[.slice ao n cap, .int .u8 (m : Int)] w fun e w' => e = .returned (.bool true) ∧ Ext w w' := by
  have HB := hide (begun_yes w tb)
  have hle := hR.le
  have hmx := hR.max
  rw [List.length_map, hln] at hle
  by_cases h7 : n ≤ 7
  · have h7' : ¬ (7 : Int) < (n : Int) := by omega
    obtain ⟨k, hk⟩ : ∃ k, k = m % (n + 1) := ⟨_, rfl⟩
    have hkn : k ≤ n := by
      have := Nat.mod_lt m (show 0 < n + 1 by omega)
      omega
    have hkm : (m : Int) % ((n : Int) + 1) = (k : Int) := by rw [hk]; simp
    have hkt : Int.tmod (m : Int) ((n : Int) + 1) = (k : Int) := by rw [Int.tmod_eq_emod_of_nonneg (by omega)]; exact hkm
    have HTB := hide (fun w' (hx : Ext w w') => tb.below hx)
    have HR := hide hR
    have HSM := hide hs
    have hs2 := hs
    clear hR hs tb hk
    go_enter Tryd.func8, Tryd.ntmps8
    go_wp2_with fail
    refine (unhide HB).mono ?_
    rintro e w1 ⟨rfl, hx1⟩
    clear HB
    have hz1 := Z8_new w1
    have hxz := hx1.trans (Z8_ext w1)
    have hgw : w.heap.size ≤ w1.heap.size := hx1.size
    unfold Z8 at hz1 hxz
    have HZ := hide hz1
    clear hz1
    go_wp2_with fail
    generalize hg : w1.heap.size = g at *
    generalize w1.alloc (.cells #[.int .u16 0, .int .u16 0, .int .u16 0, .int .u16 0, .int .u16 0, .int .u16 0, .int .u16 0, .int .u16 0] 23) = w2 at *
    clear hg
    have HZ0 : Hid (w2.heap[g]? = some (.cells ((gW l k 0).map U).toArray 23 (0, 0))) := by
      show _ = _
      rw [gW_zero]
      exact unhide HZ
    have HS0 : Hid (S (gS l k 0) = S []) := congrArg S (gS_zero l k)
    clear HZ
    go_loopw [6, 8] (fun s i wr => ∃ j : Nat, j ≤ n ∧ i = .int .i64 j ∧ s = S (gS l k j) ∧ Hid (wr.heap[g]? = some (.cells ((gW l k j).map U).toArray 23 (0, 0))) ∧ Below g w2 wr) (fun _ i _ => n - (intOf i).toNat)
    case atStart => exact ⟨0, by omega, rfl, (unhide HS0).symm, HZ0, Below.refl _ _⟩
    case round =>
      clear HZ0 HS0
      obtain ⟨j, hj, rfl, rfl, HG, hb⟩ := hrel
      have hx2 : Ext w wr := Below.trans hxz (Below.mono hb hgw)
      by_cases hjn : j < n
      · have hjn' : (j : Int) < (n : Int) := by omega
        obtain ⟨b, off, rfl, hc0⟩ := (unhide HR).cells (by rw [List.length_map]; omega)
        have hcj : w.cell? ⟨b, off + j, none⟩ = some (U (l.getD j 0)) := by
          rw [hc0 j (by rw [List.length_map]; omega), List.getElem?_map, List.getElem?_eq_getElem (show j < l.length by omega)]
          simp [List.getD, show j < l.length by omega]
        have hbw : b < w.heap.size := cell_lt hcj
        have CK : Hid (∀ u, Ext w u → u.cell? ⟨b, off + j, none⟩ = some (U (l.getD j 0))) := fun u hu => (hu.cell (p := ⟨b, off + j, none⟩) hbw).trans hcj
        have hv : l.getD j 0 < 65536 := hs2 (l.getD j 0) (by simp only [List.getD, List.getElem?_eq_getElem (show j < l.length by omega), Option.getD_some]; exact List.getElem_mem _)
        have hgl := gS_len l k j
        obtain ⟨p, hp⟩ : ∃ p, p = if j < k then j else 8 - n + j := ⟨_, rfl⟩
        have hp8 : p < 8 := by
          rw [hp]
          split <;> omega
        have c0 : ∀ u : World, u.heap[g]? = some (.cells ((gW l k j).map U).toArray 23 (0, 0)) → u.cell? ⟨g, p, none⟩ = some (U ((gW l k j).getD p 0)) := fun u hu => cell_l hu p (by rw [gW_len]; exact hp8)
        have hset := gW_set l k j p (by omega) (by omega) (by omega) (by rw [hp, hln])
        have HGB := hide (fun u (hu : Below g wr u) => hb.trans hu)
        clear hb hkm hkt hxz hx1 hgw hs2
        by_cases hjk : j = k
        · subst hjk
          have q1 : ((j : Int) == (j : Int)) = true := by simp
          have hs0 : (⟨(gS l j j).toArray⟩ : ByteArray) ++ ⟨#[58, 58]⟩ = ⟨(gS l j j ++ [58, 58]).toArray⟩ := cat_to _ [58, 58]
          have hfin : gS l j j ++ [58, 58] ++ h4 (l.getD j 0) = gS l j (j + 1) := by
            exact (gS_gap l j (by omega)).symm
          have hlen : (gS l j j ++ [58, 58]).length + (h4 (l.getD j 0)).length ≤ 1000 := by
            rw [show (h4 (l.getD j 0)).length = 4 from rfl]
            try simp only [List.length_append, List.length_cons, List.length_nil]
            omega
          clear HR HSM HTB hc0 hcj
          generalize l.getD j 0 = v at *
          generalize gS l j j ++ [58, 58] = s0 at *
          go_wp2_with fail
          refine wp_region_open3 (A := knows [(41, isF (S s0)), (42, isF (.slice (some ⟨b, off, none⟩) n cap)), (43, isF (.int .i64 (j : Int))), (44, isF (.pointer (some ⟨b, off + j, none⟩))), (45, isF (U v)), (46, isF (U (v / 2 ^ 12))), (47, isF (B (hexd (v / 2 ^ 12)))), (48, isF (.slice (some ⟨b, off, none⟩) n cap)), (49, isF (.int .i64 (j : Int))), (50, isF (.pointer (some ⟨b, off + j, none⟩))), (51, isF (U v)), (52, isF (U (v / 2 ^ 8))), (53, isF (U (v / 2 ^ 8 % 16))), (54, isF (B (hexd (v / 2 ^ 8 % 16)))), (55, isF (.slice (some ⟨b, off, none⟩) n cap)), (56, isF (.int .i64 (j : Int))), (57, isF (.pointer (some ⟨b, off + j, none⟩))), (58, isF (U v)), (59, isF (U (v / 2 ^ 4))), (60, isF (U (v / 2 ^ 4 % 16))), (61, isF (B (hexd (v / 2 ^ 4 % 16)))), (62, isF (.slice (some ⟨b, off, none⟩) n cap)), (63, isF (.int .i64 (j : Int))), (64, isF (.pointer (some ⟨b, off + j, none⟩))), (65, isF (U v)), (66, isF (U (v % 16))), (67, isF (B (hexd (v % 16)))), (68, cellsF ((h4 v).map B)), (69, isF (S (h4 v))), (70, isF (S (s0 ++ h4 v))), (6, isF (S (s0 ++ h4 v)))]) [41, 42, 43, 44, 45, 46, 47, 48, 49, 50, 51, 52, 53, 54, 55, 56, 57, 58, 59, 60, 61, 62, 63, 64, 65, 66, 67, 68, 69, 70, 6] (by kernel_rfl) (by kernel_rfl) (by kernel_rfl) (knows_mono _) (steps_first rfl (ok_still 0 rfl rfl 6 (S s0) rfl (by kernel_rfl) rfl (fun _ _ => rfl)) ?_) ?_
          · skip
            refine allOps_cons (ok_fixed (.inl rfl) rfl 0 (.slice (some ⟨b, off, none⟩) n cap) (.inl rfl) (by kernel_rfl) rfl (fun _ _ => rfl)) ?_
            refine allOps_cons (ok_fixed (.inl rfl) rfl 8 (.int .i64 (j : Int)) (.inl rfl) (by kernel_rfl) rfl (fun _ _ => rfl)) ?_
            refine allOps_cons (ok_addr2q (.inl rfl) rfl 42 43 _ rfl (by kernel_rfl) (by kernel_rfl) _ _ _ (fun _ _ h => h) (fun _ _ h => h) (fun u => addr_16w u b off n cap j hjn) (fun _ => rfl)) ?_
            refine allOps_cons (ok_loadq (.inl rfl) rfl 44 _ rfl (by kernel_rfl) _ (U v) (fun _ _ h => h) (fun u hx => load_16w (unhide CK u (hx2.trans hx))) (fun _ => rfl)) ?_
            refine allOps_cons (ok_shrw (.inl rfl) rfl 45 _ _ 12 (by decide) rfl (by kernel_rfl) v (fun _ _ h => h) (fun _ => rfl)) ?_
            refine allOps_cons (ok_idxw (.inl rfl) rfl 46 _ _ rfl (by kernel_rfl) _ _ (fun _ _ h => h) (fun u => idx_digw u (v / 2 ^ 12) (by omega)) (fun _ => rfl)) ?_
            refine allOps_cons (ok_fixed (.inl rfl) rfl 0 (.slice (some ⟨b, off, none⟩) n cap) (.inl rfl) (by kernel_rfl) rfl (fun _ _ => rfl)) ?_
            refine allOps_cons (ok_fixed (.inl rfl) rfl 8 (.int .i64 (j : Int)) (.inl rfl) (by kernel_rfl) rfl (fun _ _ => rfl)) ?_
            refine allOps_cons (ok_addr2q (.inl rfl) rfl 48 49 _ rfl (by kernel_rfl) (by kernel_rfl) _ _ _ (fun _ _ h => h) (fun _ _ h => h) (fun u => addr_16w u b off n cap j hjn) (fun _ => rfl)) ?_
            refine allOps_cons (ok_loadq (.inl rfl) rfl 50 _ rfl (by kernel_rfl) _ (U v) (fun _ _ h => h) (fun u hx => load_16w (unhide CK u (hx2.trans hx))) (fun _ => rfl)) ?_
            refine allOps_cons (ok_shrw (.inl rfl) rfl 51 _ _ 8 (by decide) rfl (by kernel_rfl) v (fun _ _ h => h) (fun _ => rfl)) ?_
            refine allOps_cons (ok_andw (.inl rfl) rfl 52 _ _ rfl (by kernel_rfl) (v / 2 ^ 8) (by omega) (fun _ _ h => h) (fun _ => rfl)) ?_
            refine allOps_cons (ok_idxw (.inl rfl) rfl 53 _ _ rfl (by kernel_rfl) _ _ (fun _ _ h => h) (fun u => idx_digw u (v / 2 ^ 8 % 16) (by omega)) (fun _ => rfl)) ?_
            refine allOps_cons (ok_fixed (.inl rfl) rfl 0 (.slice (some ⟨b, off, none⟩) n cap) (.inl rfl) (by kernel_rfl) rfl (fun _ _ => rfl)) ?_
            refine allOps_cons (ok_fixed (.inl rfl) rfl 8 (.int .i64 (j : Int)) (.inl rfl) (by kernel_rfl) rfl (fun _ _ => rfl)) ?_
            refine allOps_cons (ok_addr2q (.inl rfl) rfl 55 56 _ rfl (by kernel_rfl) (by kernel_rfl) _ _ _ (fun _ _ h => h) (fun _ _ h => h) (fun u => addr_16w u b off n cap j hjn) (fun _ => rfl)) ?_
            refine allOps_cons (ok_loadq (.inl rfl) rfl 57 _ rfl (by kernel_rfl) _ (U v) (fun _ _ h => h) (fun u hx => load_16w (unhide CK u (hx2.trans hx))) (fun _ => rfl)) ?_
            refine allOps_cons (ok_shrw (.inl rfl) rfl 58 _ _ 4 (by decide) rfl (by kernel_rfl) v (fun _ _ h => h) (fun _ => rfl)) ?_
            refine allOps_cons (ok_andw (.inl rfl) rfl 59 _ _ rfl (by kernel_rfl) (v / 2 ^ 4) (by omega) (fun _ _ h => h) (fun _ => rfl)) ?_
            refine allOps_cons (ok_idxw (.inl rfl) rfl 60 _ _ rfl (by kernel_rfl) _ _ (fun _ _ h => h) (fun u => idx_digw u (v / 2 ^ 4 % 16) (by omega)) (fun _ => rfl)) ?_
            refine allOps_cons (ok_fixed (.inl rfl) rfl 0 (.slice (some ⟨b, off, none⟩) n cap) (.inl rfl) (by kernel_rfl) rfl (fun _ _ => rfl)) ?_
            refine allOps_cons (ok_fixed (.inl rfl) rfl 8 (.int .i64 (j : Int)) (.inl rfl) (by kernel_rfl) rfl (fun _ _ => rfl)) ?_
            refine allOps_cons (ok_addr2q (.inl rfl) rfl 62 63 _ rfl (by kernel_rfl) (by kernel_rfl) _ _ _ (fun _ _ h => h) (fun _ _ h => h) (fun u => addr_16w u b off n cap j hjn) (fun _ => rfl)) ?_
            refine allOps_cons (ok_loadq (.inl rfl) rfl 64 _ rfl (by kernel_rfl) _ (U v) (fun _ _ h => h) (fun u hx => load_16w (unhide CK u (hx2.trans hx))) (fun _ => rfl)) ?_
            refine allOps_cons (ok_andw (.inl rfl) rfl 65 _ _ rfl (by kernel_rfl) (v) (by omega) (fun _ _ h => h) (fun _ => rfl)) ?_
            refine allOps_cons (ok_idxw (.inl rfl) rfl 66 _ _ rfl (by kernel_rfl) _ _ (fun _ _ h => h) (fun u => idx_digw u (v % 16) (by omega)) (fun _ => rfl)) ?_
            refine allOps_cons (ok_bytes4 (.inl rfl) rfl 47 54 61 67 rfl (by kernel_rfl) (by kernel_rfl) (by kernel_rfl) (by kernel_rfl) _ _ _ _ (fun _ _ h => h) (fun _ _ h => h) (fun _ _ h => h) (fun _ _ h => h) (fun v' w' h => h4_holds v v' w' h)) ?_
            refine allOps_cons (ok_strw (.inl rfl) rfl 68 rfl (by kernel_rfl) (h4 v) (fun _ _ h => h) (fun _ => rfl)) ?_
            refine allOps_cons (ok_catw (.inl rfl) rfl 41 69 _ _ rfl (by kernel_rfl) (by kernel_rfl) s0 (h4 v) hlen (fun _ _ h => h) (fun _ _ h => h) (fun _ => rfl)) ?_
            refine allOps_cons (ok_move (.inl rfl) rfl 70 (.inr rfl) (by kernel_rfl) (fun _ _ h => h)) ?_
            exact allOps_nil
          · intro vs wz hx hkn
            have h6 : vs 6 = S (gS l j (j + 1)) := by rw [← hfin]; exact hkn 6 rfl
            have HGz := heap_ext (unhide HG) hx
            have c1 := unhide CK wz (hx2.trans hx)
            have f0 := froz8 HGz p
            have hcp := c0 wz HGz
            have HG2 : Hid ((wz.setCell ⟨g, p, none⟩ (U v)).heap[g]? = some (.cells ((gW l j (j + 1)).map U).toArray 23 (0, 0))) := by
              show _ = _
              rw [set_heap HGz, List.setIfInBounds_toArray, ← List.map_set, hset]
            have KK : Hid ((∃ j' : Nat, j' ≤ n ∧ Value.int .i64 ((j : Int) + 1) = .int .i64 j' ∧ S (gS l j (j + 1)) = S (gS l j j') ∧ Hid ((wz.setCell ⟨g, p, none⟩ (U v)).heap[g]? = some (.cells ((gW l j j').map U).toArray 23 (0, 0))) ∧ Below g w2 (wz.setCell ⟨g, p, none⟩ (U v))) ∧ n - ((j : Int) + 1).toNat < n - j) :=
              ⟨⟨j + 1, by omega, by simp, rfl, HG2, (unhide HGB wz (Below.mono hx (Nat.le_of_lt (heap_lt (unhide HG))))).trans (below_set (Nat.le_refl _))⟩, by omega⟩
            simp only [putAll, h6, Act.put, List.setIfInBounds_toArray, List.set_cons_succ, List.set_cons_zero]
            clear hkn h6 hx hgl CK HG HG2 HGz HGB hset c0 hfin hlen hln hle hmx
            generalize gS l j (j + 1) = s1 at *
            generalize (gW l j j).getD p 0 = y at *
            generalize vs 41 = u41
            generalize vs 42 = u42
            generalize vs 43 = u43
            generalize vs 44 = u44
            generalize vs 45 = u45
            generalize vs 46 = u46
            generalize vs 47 = u47
            generalize vs 48 = u48
            generalize vs 49 = u49
            generalize vs 50 = u50
            generalize vs 51 = u51
            generalize vs 52 = u52
            generalize vs 53 = u53
            generalize vs 54 = u54
            generalize vs 55 = u55
            generalize vs 56 = u56
            generalize vs 57 = u57
            generalize vs 58 = u58
            generalize vs 59 = u59
            generalize vs 60 = u60
            generalize vs 61 = u61
            generalize vs 62 = u62
            generalize vs 63 = u63
            generalize vs 64 = u64
            generalize vs 65 = u65
            generalize vs 66 = u66
            generalize vs 67 = u67
            generalize vs 68 = u68
            generalize vs 69 = u69
            generalize vs 70 = u70
            have hjk2 : ¬ j < j := by omega
            have hlt' : ¬ (j : Int) < (j : Int) := by omega
            have hpos : (8 : Int) - (n : Int) + (j : Int) = (p : Int) := by
              rw [hp, if_neg hjk2]
              omega
            clear hp hjk2
            go_wp2
            exact unhide KK
        · by_cases hj0 : 0 < j
          · have q1 : ((j : Int) == (k : Int)) = false := by
              rw [beq_eq_false_iff_ne]
              omega
            have q2 : (0 : Int) < (j : Int) := by omega
            have hs0 : (⟨(gS l k j).toArray⟩ : ByteArray) ++ ⟨#[58]⟩ = ⟨(gS l k j ++ [58]).toArray⟩ := cat_to _ [58]
            have hfin : gS l k j ++ [58] ++ h4 (l.getD j 0) = gS l k (j + 1) := (gS_colon l k j (by omega) (by omega) hjk).symm
            have hlen : (gS l k j ++ [58]).length + (h4 (l.getD j 0)).length ≤ 1000 := by
              rw [show (h4 (l.getD j 0)).length = 4 from rfl]
              try simp only [List.length_append, List.length_cons, List.length_nil]
              omega
            clear HR HSM HTB hc0 hcj
            generalize l.getD j 0 = v at *
            generalize gS l k j ++ [58] = s0 at *
            go_wp2_with fail
            refine wp_region_open3 (A := knows [(41, isF (S s0)), (42, isF (.slice (some ⟨b, off, none⟩) n cap)), (43, isF (.int .i64 (j : Int))), (44, isF (.pointer (some ⟨b, off + j, none⟩))), (45, isF (U v)), (46, isF (U (v / 2 ^ 12))), (47, isF (B (hexd (v / 2 ^ 12)))), (48, isF (.slice (some ⟨b, off, none⟩) n cap)), (49, isF (.int .i64 (j : Int))), (50, isF (.pointer (some ⟨b, off + j, none⟩))), (51, isF (U v)), (52, isF (U (v / 2 ^ 8))), (53, isF (U (v / 2 ^ 8 % 16))), (54, isF (B (hexd (v / 2 ^ 8 % 16)))), (55, isF (.slice (some ⟨b, off, none⟩) n cap)), (56, isF (.int .i64 (j : Int))), (57, isF (.pointer (some ⟨b, off + j, none⟩))), (58, isF (U v)), (59, isF (U (v / 2 ^ 4))), (60, isF (U (v / 2 ^ 4 % 16))), (61, isF (B (hexd (v / 2 ^ 4 % 16)))), (62, isF (.slice (some ⟨b, off, none⟩) n cap)), (63, isF (.int .i64 (j : Int))), (64, isF (.pointer (some ⟨b, off + j, none⟩))), (65, isF (U v)), (66, isF (U (v % 16))), (67, isF (B (hexd (v % 16)))), (68, cellsF ((h4 v).map B)), (69, isF (S (h4 v))), (70, isF (S (s0 ++ h4 v))), (6, isF (S (s0 ++ h4 v)))]) [41, 42, 43, 44, 45, 46, 47, 48, 49, 50, 51, 52, 53, 54, 55, 56, 57, 58, 59, 60, 61, 62, 63, 64, 65, 66, 67, 68, 69, 70, 6] (by kernel_rfl) (by kernel_rfl) (by kernel_rfl) (knows_mono _) (steps_first rfl (ok_still 0 rfl rfl 6 (S s0) rfl (by kernel_rfl) rfl (fun _ _ => rfl)) ?_) ?_
            · skip
              refine allOps_cons (ok_fixed (.inl rfl) rfl 0 (.slice (some ⟨b, off, none⟩) n cap) (.inl rfl) (by kernel_rfl) rfl (fun _ _ => rfl)) ?_
              refine allOps_cons (ok_fixed (.inl rfl) rfl 8 (.int .i64 (j : Int)) (.inl rfl) (by kernel_rfl) rfl (fun _ _ => rfl)) ?_
              refine allOps_cons (ok_addr2q (.inl rfl) rfl 42 43 _ rfl (by kernel_rfl) (by kernel_rfl) _ _ _ (fun _ _ h => h) (fun _ _ h => h) (fun u => addr_16w u b off n cap j hjn) (fun _ => rfl)) ?_
              refine allOps_cons (ok_loadq (.inl rfl) rfl 44 _ rfl (by kernel_rfl) _ (U v) (fun _ _ h => h) (fun u hx => load_16w (unhide CK u (hx2.trans hx))) (fun _ => rfl)) ?_
              refine allOps_cons (ok_shrw (.inl rfl) rfl 45 _ _ 12 (by decide) rfl (by kernel_rfl) v (fun _ _ h => h) (fun _ => rfl)) ?_
              refine allOps_cons (ok_idxw (.inl rfl) rfl 46 _ _ rfl (by kernel_rfl) _ _ (fun _ _ h => h) (fun u => idx_digw u (v / 2 ^ 12) (by omega)) (fun _ => rfl)) ?_
              refine allOps_cons (ok_fixed (.inl rfl) rfl 0 (.slice (some ⟨b, off, none⟩) n cap) (.inl rfl) (by kernel_rfl) rfl (fun _ _ => rfl)) ?_
              refine allOps_cons (ok_fixed (.inl rfl) rfl 8 (.int .i64 (j : Int)) (.inl rfl) (by kernel_rfl) rfl (fun _ _ => rfl)) ?_
              refine allOps_cons (ok_addr2q (.inl rfl) rfl 48 49 _ rfl (by kernel_rfl) (by kernel_rfl) _ _ _ (fun _ _ h => h) (fun _ _ h => h) (fun u => addr_16w u b off n cap j hjn) (fun _ => rfl)) ?_
              refine allOps_cons (ok_loadq (.inl rfl) rfl 50 _ rfl (by kernel_rfl) _ (U v) (fun _ _ h => h) (fun u hx => load_16w (unhide CK u (hx2.trans hx))) (fun _ => rfl)) ?_
              refine allOps_cons (ok_shrw (.inl rfl) rfl 51 _ _ 8 (by decide) rfl (by kernel_rfl) v (fun _ _ h => h) (fun _ => rfl)) ?_
              refine allOps_cons (ok_andw (.inl rfl) rfl 52 _ _ rfl (by kernel_rfl) (v / 2 ^ 8) (by omega) (fun _ _ h => h) (fun _ => rfl)) ?_
              refine allOps_cons (ok_idxw (.inl rfl) rfl 53 _ _ rfl (by kernel_rfl) _ _ (fun _ _ h => h) (fun u => idx_digw u (v / 2 ^ 8 % 16) (by omega)) (fun _ => rfl)) ?_
              refine allOps_cons (ok_fixed (.inl rfl) rfl 0 (.slice (some ⟨b, off, none⟩) n cap) (.inl rfl) (by kernel_rfl) rfl (fun _ _ => rfl)) ?_
              refine allOps_cons (ok_fixed (.inl rfl) rfl 8 (.int .i64 (j : Int)) (.inl rfl) (by kernel_rfl) rfl (fun _ _ => rfl)) ?_
              refine allOps_cons (ok_addr2q (.inl rfl) rfl 55 56 _ rfl (by kernel_rfl) (by kernel_rfl) _ _ _ (fun _ _ h => h) (fun _ _ h => h) (fun u => addr_16w u b off n cap j hjn) (fun _ => rfl)) ?_
              refine allOps_cons (ok_loadq (.inl rfl) rfl 57 _ rfl (by kernel_rfl) _ (U v) (fun _ _ h => h) (fun u hx => load_16w (unhide CK u (hx2.trans hx))) (fun _ => rfl)) ?_
              refine allOps_cons (ok_shrw (.inl rfl) rfl 58 _ _ 4 (by decide) rfl (by kernel_rfl) v (fun _ _ h => h) (fun _ => rfl)) ?_
              refine allOps_cons (ok_andw (.inl rfl) rfl 59 _ _ rfl (by kernel_rfl) (v / 2 ^ 4) (by omega) (fun _ _ h => h) (fun _ => rfl)) ?_
              refine allOps_cons (ok_idxw (.inl rfl) rfl 60 _ _ rfl (by kernel_rfl) _ _ (fun _ _ h => h) (fun u => idx_digw u (v / 2 ^ 4 % 16) (by omega)) (fun _ => rfl)) ?_
              refine allOps_cons (ok_fixed (.inl rfl) rfl 0 (.slice (some ⟨b, off, none⟩) n cap) (.inl rfl) (by kernel_rfl) rfl (fun _ _ => rfl)) ?_
              refine allOps_cons (ok_fixed (.inl rfl) rfl 8 (.int .i64 (j : Int)) (.inl rfl) (by kernel_rfl) rfl (fun _ _ => rfl)) ?_
              refine allOps_cons (ok_addr2q (.inl rfl) rfl 62 63 _ rfl (by kernel_rfl) (by kernel_rfl) _ _ _ (fun _ _ h => h) (fun _ _ h => h) (fun u => addr_16w u b off n cap j hjn) (fun _ => rfl)) ?_
              refine allOps_cons (ok_loadq (.inl rfl) rfl 64 _ rfl (by kernel_rfl) _ (U v) (fun _ _ h => h) (fun u hx => load_16w (unhide CK u (hx2.trans hx))) (fun _ => rfl)) ?_
              refine allOps_cons (ok_andw (.inl rfl) rfl 65 _ _ rfl (by kernel_rfl) (v) (by omega) (fun _ _ h => h) (fun _ => rfl)) ?_
              refine allOps_cons (ok_idxw (.inl rfl) rfl 66 _ _ rfl (by kernel_rfl) _ _ (fun _ _ h => h) (fun u => idx_digw u (v % 16) (by omega)) (fun _ => rfl)) ?_
              refine allOps_cons (ok_bytes4 (.inl rfl) rfl 47 54 61 67 rfl (by kernel_rfl) (by kernel_rfl) (by kernel_rfl) (by kernel_rfl) _ _ _ _ (fun _ _ h => h) (fun _ _ h => h) (fun _ _ h => h) (fun _ _ h => h) (fun v' w' h => h4_holds v v' w' h)) ?_
              refine allOps_cons (ok_strw (.inl rfl) rfl 68 rfl (by kernel_rfl) (h4 v) (fun _ _ h => h) (fun _ => rfl)) ?_
              refine allOps_cons (ok_catw (.inl rfl) rfl 41 69 _ _ rfl (by kernel_rfl) (by kernel_rfl) s0 (h4 v) hlen (fun _ _ h => h) (fun _ _ h => h) (fun _ => rfl)) ?_
              refine allOps_cons (ok_move (.inl rfl) rfl 70 (.inr rfl) (by kernel_rfl) (fun _ _ h => h)) ?_
              exact allOps_nil
            · intro vs wz hx hkn
              have h6 : vs 6 = S (gS l k (j + 1)) := by rw [← hfin]; exact hkn 6 rfl
              have HGz := heap_ext (unhide HG) hx
              have c1 := unhide CK wz (hx2.trans hx)
              have f0 := froz8 HGz p
              have hcp := c0 wz HGz
              have HG2 : Hid ((wz.setCell ⟨g, p, none⟩ (U v)).heap[g]? = some (.cells ((gW l k (j + 1)).map U).toArray 23 (0, 0))) := by
                show _ = _
                rw [set_heap HGz, List.setIfInBounds_toArray, ← List.map_set, hset]
              have KK : Hid ((∃ j' : Nat, j' ≤ n ∧ Value.int .i64 ((j : Int) + 1) = .int .i64 j' ∧ S (gS l k (j + 1)) = S (gS l k j') ∧ Hid ((wz.setCell ⟨g, p, none⟩ (U v)).heap[g]? = some (.cells ((gW l k j').map U).toArray 23 (0, 0))) ∧ Below g w2 (wz.setCell ⟨g, p, none⟩ (U v))) ∧ n - ((j : Int) + 1).toNat < n - j) :=
                ⟨⟨j + 1, by omega, by simp, rfl, HG2, (unhide HGB wz (Below.mono hx (Nat.le_of_lt (heap_lt (unhide HG))))).trans (below_set (Nat.le_refl _))⟩, by omega⟩
              simp only [putAll, h6, Act.put, List.setIfInBounds_toArray, List.set_cons_succ, List.set_cons_zero]
              clear hkn h6 hx hgl CK HG HG2 HGz HGB hset c0 hfin hlen hln hle hmx
              generalize gS l k (j + 1) = s1 at *
              generalize (gW l k j).getD p 0 = y at *
              generalize vs 41 = u41
              generalize vs 42 = u42
              generalize vs 43 = u43
              generalize vs 44 = u44
              generalize vs 45 = u45
              generalize vs 46 = u46
              generalize vs 47 = u47
              generalize vs 48 = u48
              generalize vs 49 = u49
              generalize vs 50 = u50
              generalize vs 51 = u51
              generalize vs 52 = u52
              generalize vs 53 = u53
              generalize vs 54 = u54
              generalize vs 55 = u55
              generalize vs 56 = u56
              generalize vs 57 = u57
              generalize vs 58 = u58
              generalize vs 59 = u59
              generalize vs 60 = u60
              generalize vs 61 = u61
              generalize vs 62 = u62
              generalize vs 63 = u63
              generalize vs 64 = u64
              generalize vs 65 = u65
              generalize vs 66 = u66
              generalize vs 67 = u67
              generalize vs 68 = u68
              generalize vs 69 = u69
              generalize vs 70 = u70
              by_cases hjk2 : j < k
              · have hlt' : (j : Int) < (k : Int) := by omega
                obtain rfl : p = j := by rw [hp, if_pos hjk2]
                clear hp hjk2
                go_wp2
                exact unhide KK
              · have hlt' : ¬ (j : Int) < (k : Int) := by omega
                have hpos : (8 : Int) - (n : Int) + (j : Int) = (p : Int) := by
                  rw [hp, if_neg hjk2]
                  omega
                clear hp hjk2
                go_wp2
                exact unhide KK
          · have q1 : ((j : Int) == (k : Int)) = false := by
              rw [beq_eq_false_iff_ne]
              omega
            have q2 : ¬ (0 : Int) < (j : Int) := by omega
            have hfin : gS l k j ++ h4 (l.getD j 0) = gS l k (j + 1) := by
              obtain rfl : j = 0 := by omega
              exact (gS_first l k (by omega) (fun e => hjk e)).symm
            have hlen : (gS l k j).length + (h4 (l.getD j 0)).length ≤ 1000 := by
              rw [show (h4 (l.getD j 0)).length = 4 from rfl]
              try simp only [List.length_append, List.length_cons, List.length_nil]
              omega
            clear HR HSM HTB hc0 hcj
            generalize l.getD j 0 = v at *
            generalize gS l k j = s0 at *
            go_wp2_with fail
            refine wp_region_open3 (A := knows [(41, isF (S s0)), (42, isF (.slice (some ⟨b, off, none⟩) n cap)), (43, isF (.int .i64 (j : Int))), (44, isF (.pointer (some ⟨b, off + j, none⟩))), (45, isF (U v)), (46, isF (U (v / 2 ^ 12))), (47, isF (B (hexd (v / 2 ^ 12)))), (48, isF (.slice (some ⟨b, off, none⟩) n cap)), (49, isF (.int .i64 (j : Int))), (50, isF (.pointer (some ⟨b, off + j, none⟩))), (51, isF (U v)), (52, isF (U (v / 2 ^ 8))), (53, isF (U (v / 2 ^ 8 % 16))), (54, isF (B (hexd (v / 2 ^ 8 % 16)))), (55, isF (.slice (some ⟨b, off, none⟩) n cap)), (56, isF (.int .i64 (j : Int))), (57, isF (.pointer (some ⟨b, off + j, none⟩))), (58, isF (U v)), (59, isF (U (v / 2 ^ 4))), (60, isF (U (v / 2 ^ 4 % 16))), (61, isF (B (hexd (v / 2 ^ 4 % 16)))), (62, isF (.slice (some ⟨b, off, none⟩) n cap)), (63, isF (.int .i64 (j : Int))), (64, isF (.pointer (some ⟨b, off + j, none⟩))), (65, isF (U v)), (66, isF (U (v % 16))), (67, isF (B (hexd (v % 16)))), (68, cellsF ((h4 v).map B)), (69, isF (S (h4 v))), (70, isF (S (s0 ++ h4 v))), (6, isF (S (s0 ++ h4 v)))]) [41, 42, 43, 44, 45, 46, 47, 48, 49, 50, 51, 52, 53, 54, 55, 56, 57, 58, 59, 60, 61, 62, 63, 64, 65, 66, 67, 68, 69, 70, 6] (by kernel_rfl) (by kernel_rfl) (by kernel_rfl) (knows_mono _) (steps_first rfl (ok_still 0 rfl rfl 6 (S s0) rfl (by kernel_rfl) rfl (fun _ _ => rfl)) ?_) ?_
            · skip
              refine allOps_cons (ok_fixed (.inl rfl) rfl 0 (.slice (some ⟨b, off, none⟩) n cap) (.inl rfl) (by kernel_rfl) rfl (fun _ _ => rfl)) ?_
              refine allOps_cons (ok_fixed (.inl rfl) rfl 8 (.int .i64 (j : Int)) (.inl rfl) (by kernel_rfl) rfl (fun _ _ => rfl)) ?_
              refine allOps_cons (ok_addr2q (.inl rfl) rfl 42 43 _ rfl (by kernel_rfl) (by kernel_rfl) _ _ _ (fun _ _ h => h) (fun _ _ h => h) (fun u => addr_16w u b off n cap j hjn) (fun _ => rfl)) ?_
              refine allOps_cons (ok_loadq (.inl rfl) rfl 44 _ rfl (by kernel_rfl) _ (U v) (fun _ _ h => h) (fun u hx => load_16w (unhide CK u (hx2.trans hx))) (fun _ => rfl)) ?_
              refine allOps_cons (ok_shrw (.inl rfl) rfl 45 _ _ 12 (by decide) rfl (by kernel_rfl) v (fun _ _ h => h) (fun _ => rfl)) ?_
              refine allOps_cons (ok_idxw (.inl rfl) rfl 46 _ _ rfl (by kernel_rfl) _ _ (fun _ _ h => h) (fun u => idx_digw u (v / 2 ^ 12) (by omega)) (fun _ => rfl)) ?_
              refine allOps_cons (ok_fixed (.inl rfl) rfl 0 (.slice (some ⟨b, off, none⟩) n cap) (.inl rfl) (by kernel_rfl) rfl (fun _ _ => rfl)) ?_
              refine allOps_cons (ok_fixed (.inl rfl) rfl 8 (.int .i64 (j : Int)) (.inl rfl) (by kernel_rfl) rfl (fun _ _ => rfl)) ?_
              refine allOps_cons (ok_addr2q (.inl rfl) rfl 48 49 _ rfl (by kernel_rfl) (by kernel_rfl) _ _ _ (fun _ _ h => h) (fun _ _ h => h) (fun u => addr_16w u b off n cap j hjn) (fun _ => rfl)) ?_
              refine allOps_cons (ok_loadq (.inl rfl) rfl 50 _ rfl (by kernel_rfl) _ (U v) (fun _ _ h => h) (fun u hx => load_16w (unhide CK u (hx2.trans hx))) (fun _ => rfl)) ?_
              refine allOps_cons (ok_shrw (.inl rfl) rfl 51 _ _ 8 (by decide) rfl (by kernel_rfl) v (fun _ _ h => h) (fun _ => rfl)) ?_
              refine allOps_cons (ok_andw (.inl rfl) rfl 52 _ _ rfl (by kernel_rfl) (v / 2 ^ 8) (by omega) (fun _ _ h => h) (fun _ => rfl)) ?_
              refine allOps_cons (ok_idxw (.inl rfl) rfl 53 _ _ rfl (by kernel_rfl) _ _ (fun _ _ h => h) (fun u => idx_digw u (v / 2 ^ 8 % 16) (by omega)) (fun _ => rfl)) ?_
              refine allOps_cons (ok_fixed (.inl rfl) rfl 0 (.slice (some ⟨b, off, none⟩) n cap) (.inl rfl) (by kernel_rfl) rfl (fun _ _ => rfl)) ?_
              refine allOps_cons (ok_fixed (.inl rfl) rfl 8 (.int .i64 (j : Int)) (.inl rfl) (by kernel_rfl) rfl (fun _ _ => rfl)) ?_
              refine allOps_cons (ok_addr2q (.inl rfl) rfl 55 56 _ rfl (by kernel_rfl) (by kernel_rfl) _ _ _ (fun _ _ h => h) (fun _ _ h => h) (fun u => addr_16w u b off n cap j hjn) (fun _ => rfl)) ?_
              refine allOps_cons (ok_loadq (.inl rfl) rfl 57 _ rfl (by kernel_rfl) _ (U v) (fun _ _ h => h) (fun u hx => load_16w (unhide CK u (hx2.trans hx))) (fun _ => rfl)) ?_
              refine allOps_cons (ok_shrw (.inl rfl) rfl 58 _ _ 4 (by decide) rfl (by kernel_rfl) v (fun _ _ h => h) (fun _ => rfl)) ?_
              refine allOps_cons (ok_andw (.inl rfl) rfl 59 _ _ rfl (by kernel_rfl) (v / 2 ^ 4) (by omega) (fun _ _ h => h) (fun _ => rfl)) ?_
              refine allOps_cons (ok_idxw (.inl rfl) rfl 60 _ _ rfl (by kernel_rfl) _ _ (fun _ _ h => h) (fun u => idx_digw u (v / 2 ^ 4 % 16) (by omega)) (fun _ => rfl)) ?_
              refine allOps_cons (ok_fixed (.inl rfl) rfl 0 (.slice (some ⟨b, off, none⟩) n cap) (.inl rfl) (by kernel_rfl) rfl (fun _ _ => rfl)) ?_
              refine allOps_cons (ok_fixed (.inl rfl) rfl 8 (.int .i64 (j : Int)) (.inl rfl) (by kernel_rfl) rfl (fun _ _ => rfl)) ?_
              refine allOps_cons (ok_addr2q (.inl rfl) rfl 62 63 _ rfl (by kernel_rfl) (by kernel_rfl) _ _ _ (fun _ _ h => h) (fun _ _ h => h) (fun u => addr_16w u b off n cap j hjn) (fun _ => rfl)) ?_
              refine allOps_cons (ok_loadq (.inl rfl) rfl 64 _ rfl (by kernel_rfl) _ (U v) (fun _ _ h => h) (fun u hx => load_16w (unhide CK u (hx2.trans hx))) (fun _ => rfl)) ?_
              refine allOps_cons (ok_andw (.inl rfl) rfl 65 _ _ rfl (by kernel_rfl) (v) (by omega) (fun _ _ h => h) (fun _ => rfl)) ?_
              refine allOps_cons (ok_idxw (.inl rfl) rfl 66 _ _ rfl (by kernel_rfl) _ _ (fun _ _ h => h) (fun u => idx_digw u (v % 16) (by omega)) (fun _ => rfl)) ?_
              refine allOps_cons (ok_bytes4 (.inl rfl) rfl 47 54 61 67 rfl (by kernel_rfl) (by kernel_rfl) (by kernel_rfl) (by kernel_rfl) _ _ _ _ (fun _ _ h => h) (fun _ _ h => h) (fun _ _ h => h) (fun _ _ h => h) (fun v' w' h => h4_holds v v' w' h)) ?_
              refine allOps_cons (ok_strw (.inl rfl) rfl 68 rfl (by kernel_rfl) (h4 v) (fun _ _ h => h) (fun _ => rfl)) ?_
              refine allOps_cons (ok_catw (.inl rfl) rfl 41 69 _ _ rfl (by kernel_rfl) (by kernel_rfl) s0 (h4 v) hlen (fun _ _ h => h) (fun _ _ h => h) (fun _ => rfl)) ?_
              refine allOps_cons (ok_move (.inl rfl) rfl 70 (.inr rfl) (by kernel_rfl) (fun _ _ h => h)) ?_
              exact allOps_nil
            · intro vs wz hx hkn
              have h6 : vs 6 = S (gS l k (j + 1)) := by rw [← hfin]; exact hkn 6 rfl
              have HGz := heap_ext (unhide HG) hx
              have c1 := unhide CK wz (hx2.trans hx)
              have f0 := froz8 HGz p
              have hcp := c0 wz HGz
              have HG2 : Hid ((wz.setCell ⟨g, p, none⟩ (U v)).heap[g]? = some (.cells ((gW l k (j + 1)).map U).toArray 23 (0, 0))) := by
                show _ = _
                rw [set_heap HGz, List.setIfInBounds_toArray, ← List.map_set, hset]
              have KK : Hid ((∃ j' : Nat, j' ≤ n ∧ Value.int .i64 ((j : Int) + 1) = .int .i64 j' ∧ S (gS l k (j + 1)) = S (gS l k j') ∧ Hid ((wz.setCell ⟨g, p, none⟩ (U v)).heap[g]? = some (.cells ((gW l k j').map U).toArray 23 (0, 0))) ∧ Below g w2 (wz.setCell ⟨g, p, none⟩ (U v))) ∧ n - ((j : Int) + 1).toNat < n - j) :=
                ⟨⟨j + 1, by omega, by simp, rfl, HG2, (unhide HGB wz (Below.mono hx (Nat.le_of_lt (heap_lt (unhide HG))))).trans (below_set (Nat.le_refl _))⟩, by omega⟩
              simp only [putAll, h6, Act.put, List.setIfInBounds_toArray, List.set_cons_succ, List.set_cons_zero]
              clear hkn h6 hx hgl CK HG HG2 HGz HGB hset c0 hfin hlen hln hle hmx
              generalize gS l k (j + 1) = s1 at *
              generalize (gW l k j).getD p 0 = y at *
              generalize vs 41 = u41
              generalize vs 42 = u42
              generalize vs 43 = u43
              generalize vs 44 = u44
              generalize vs 45 = u45
              generalize vs 46 = u46
              generalize vs 47 = u47
              generalize vs 48 = u48
              generalize vs 49 = u49
              generalize vs 50 = u50
              generalize vs 51 = u51
              generalize vs 52 = u52
              generalize vs 53 = u53
              generalize vs 54 = u54
              generalize vs 55 = u55
              generalize vs 56 = u56
              generalize vs 57 = u57
              generalize vs 58 = u58
              generalize vs 59 = u59
              generalize vs 60 = u60
              generalize vs 61 = u61
              generalize vs 62 = u62
              generalize vs 63 = u63
              generalize vs 64 = u64
              generalize vs 65 = u65
              generalize vs 66 = u66
              generalize vs 67 = u67
              generalize vs 68 = u68
              generalize vs 69 = u69
              generalize vs 70 = u70
              have hjk2 : j < k := by omega
              have hlt' : (j : Int) < (k : Int) := by omega
              obtain rfl : p = j := by rw [hp, if_pos hjk2]
              clear hp hjk2
              go_wp2
              exact unhide KK
      · have hjn' : ¬ (j : Int) < (n : Int) := by omega
        have hje : j = n := by omega
        subst hje
        obtain ⟨p1, p2, p3⟩ := gE_par l k (unhide HSM) (by omega) (by omega)
        have hel : (gE l k).length ≤ 80 := by
          have := gE_len l k
          omega
        have hWE := gW_end l k (by omega) (by omega)
        rw [hln] at hWE
        rw [hWE] at HG
        obtain ⟨x0, x1, x2, x3, x4, x5, x6, x7, hx8⟩ := list8q (gL l k) (by rw [← hWE]; exact gW_len _ _ _)
        rw [hx8] at HG p1
        have HA : Hid (wr.heap[g]? = some (.cells #[U x0, U x1, U x2, U x3, U x4, U x5, U x6, U x7] 23 (0, 0))) := unhide HG
        have H1 : Hid (∀ v, Ext w v → Calls Tryd.prog 10 #[S (gE l k)] v fun e w' => e = .returned (.tuple #[.agg #[U x0, U x1, U x2, U x3, U x4, U x5, U x6, U x7], .int .i64 0]) ∧ Ext v w') := fun v hv => parse6_lit _ _ p1 (by omega) v (unhide HTB v hv)
        have H2 : Hid (∀ v, Ext w v → Calls Tryd.prog 10 #[S (gE l k ++ [58, 58])] v fun e w' => e = .returned (.tuple #[.agg #[.int .u16 0, .int .u16 0, .int .u16 0, .int .u16 0, .int .u16 0, .int .u16 0, .int .u16 0, .int .u16 0], .int .i64 5]) ∧ Ext v w') := fun v hv => parse6_lit _ _ p3 (by rw [List.length_append, show ([58, 58] : List UInt8).length = 2 from rfl]; omega) v (unhide HTB v hv)
        have H3 : Hid (∀ v, Ext w v → Calls Tryd.prog 10 #[S (gE l k ++ [58])] v fun e w' => e = .returned (.tuple #[.agg #[.int .u16 0, .int .u16 0, .int .u16 0, .int .u16 0, .int .u16 0, .int .u16 0, .int .u16 0, .int .u16 0], .int .i64 5]) ∧ Ext v w') := fun v hv => parse6_lit _ _ p2 (by rw [List.length_append, show ([58] : List UInt8).length = 1 from rfl]; omega) v (unhide HTB v hv)
        have hc2 : (⟨(gE l k).toArray⟩ : ByteArray) ++ ⟨#[58, 58]⟩ = ⟨(gE l k ++ [58, 58]).toArray⟩ := cat_to _ [58, 58]
        have hc3 : (⟨(gE l k).toArray⟩ : ByteArray) ++ ⟨#[58]⟩ = ⟨(gE l k ++ [58]).toArray⟩ := cat_to _ [58]
        have hgl := gS_len l k j
        clear HG p1 p2 p3 hWE hx8 HTB HSM HR hb hkm hkt hxz hx1 hgw hs2
        by_cases hkn2 : k = j
        · have q1 : ((k : Int) == (j : Int)) = true := by rw [hkn2]; simp
          have hc1 : (⟨(gS l k j).toArray⟩ : ByteArray) ++ ⟨#[58, 58]⟩ = ⟨(gE l k).toArray⟩ := by
            rw [hkn2, ← hln, ← gS_tail l]
            exact cat_to _ [58, 58]
          clear hkn2 hln
          generalize gS l k j = s0 at *
          generalize gE l k ++ [58, 58] = t2 at *
          generalize gE l k ++ [58] = t3 at *
          generalize gE l k = t1 at *
          have HQ1 := hide (unhide H1 wr hx2)
          clear H1
          go_wp2_with fail
          refine (unhide HQ1).mono ?_
          rintro e w5 ⟨rfl, hx5⟩
          clear HQ1
          have hx05 := hx2.trans hx5
          have hB6 : (w5.alloc (.cells #[U x0, U x1, U x2, U x3, U x4, U x5, U x6, U x7] 23)).heap[w5.heap.size]? = some (.cells #[U x0, U x1, U x2, U x3, U x4, U x5, U x6, U x7] 23 (0, 0)) := alloc_new _ _
          have hA6 := heap_ext (heap_ext (unhide HA) hx5) (Ext.alloc w5 (.cells #[U x0, U x1, U x2, U x3, U x4, U x5, U x6, U x7] 23))
          have hx06 := hx05.trans (Ext.alloc w5 (.cells #[U x0, U x1, U x2, U x3, U x4, U x5, U x6, U x7] 23))
          have HQ2 := hide (unhide H2 _ hx06)
          clear H2 hx05 hx5 HA hx2
          go_wp2_with fail
          refine (unhide HQ2).mono ?_
          rintro e w7 ⟨rfl, hx7⟩
          clear HQ2
          have hA8 := heap_ext (heap_ext hA6 hx7) (Ext.alloc w7 (.cells #[.int .u16 0, .int .u16 0, .int .u16 0, .int .u16 0, .int .u16 0, .int .u16 0, .int .u16 0, .int .u16 0] 23))
          have hB8 := heap_ext (heap_ext hB6 hx7) (Ext.alloc w7 (.cells #[.int .u16 0, .int .u16 0, .int .u16 0, .int .u16 0, .int .u16 0, .int .u16 0, .int .u16 0, .int .u16 0] 23))
          have hx08 := (hx06.trans hx7).trans (Ext.alloc w7 (.cells #[.int .u16 0, .int .u16 0, .int .u16 0, .int .u16 0, .int .u16 0, .int .u16 0, .int .u16 0, .int .u16 0] 23))
          have HQ3 := hide (unhide H3 _ hx08)
          clear H3 hx06 hx7 hA6 hB6
          go_wp2_with fail
          refine (unhide HQ3).mono ?_
          rintro e w9 ⟨rfl, hx9⟩
          clear HQ3
          have HX := hide ((hx08.trans hx9).trans (Ext.alloc w9 (.cells #[.int .u16 0, .int .u16 0, .int .u16 0, .int .u16 0, .int .u16 0, .int .u16 0, .int .u16 0, .int .u16 0] 23)))
          obtain ⟨c0, c1, c2, c3, c4, c5, c6, c7⟩ := cells8of (heap_ext (heap_ext hB8 hx9) (Ext.alloc w9 (.cells #[.int .u16 0, .int .u16 0, .int .u16 0, .int .u16 0, .int .u16 0, .int .u16 0, .int .u16 0, .int .u16 0] 23)))
          obtain ⟨d0, d1, d2, d3, d4, d5, d6, d7⟩ := cells8of (heap_ext (heap_ext hA8 hx9) (Ext.alloc w9 (.cells #[.int .u16 0, .int .u16 0, .int .u16 0, .int .u16 0, .int .u16 0, .int .u16 0, .int .u16 0, .int .u16 0] 23)))
          clear hA8 hB8 hx08 hx9
          have heq := fun v => eql8 v (x0 : Int) (x1 : Int) (x2 : Int) (x3 : Int) (x4 : Int) (x5 : Int) (x6 : Int) (x7 : Int)
          go_wp2
          go_ret
          exact ⟨rfl, unhide HX⟩
        · have q1 : ((k : Int) == (j : Int)) = false := by
            rw [beq_eq_false_iff_ne]
            omega
          have hSE : gS l k j = gE l k := by rw [← hln]; exact gS_end l k (by omega)
          clear hkn2 hln
          rw [hSE] at *
          generalize gE l k ++ [58, 58] = t2 at *
          generalize gE l k ++ [58] = t3 at *
          have HQ1 := hide (unhide H1 wr hx2)
          clear H1
          go_wp2_with fail
          refine (unhide HQ1).mono ?_
          rintro e w5 ⟨rfl, hx5⟩
          clear HQ1
          have hx05 := hx2.trans hx5
          have hB6 : (w5.alloc (.cells #[U x0, U x1, U x2, U x3, U x4, U x5, U x6, U x7] 23)).heap[w5.heap.size]? = some (.cells #[U x0, U x1, U x2, U x3, U x4, U x5, U x6, U x7] 23 (0, 0)) := alloc_new _ _
          have hA6 := heap_ext (heap_ext (unhide HA) hx5) (Ext.alloc w5 (.cells #[U x0, U x1, U x2, U x3, U x4, U x5, U x6, U x7] 23))
          have hx06 := hx05.trans (Ext.alloc w5 (.cells #[U x0, U x1, U x2, U x3, U x4, U x5, U x6, U x7] 23))
          have HQ2 := hide (unhide H2 _ hx06)
          clear H2 hx05 hx5 HA hx2
          go_wp2_with fail
          refine (unhide HQ2).mono ?_
          rintro e w7 ⟨rfl, hx7⟩
          clear HQ2
          have hA8 := heap_ext (heap_ext hA6 hx7) (Ext.alloc w7 (.cells #[.int .u16 0, .int .u16 0, .int .u16 0, .int .u16 0, .int .u16 0, .int .u16 0, .int .u16 0, .int .u16 0] 23))
          have hB8 := heap_ext (heap_ext hB6 hx7) (Ext.alloc w7 (.cells #[.int .u16 0, .int .u16 0, .int .u16 0, .int .u16 0, .int .u16 0, .int .u16 0, .int .u16 0, .int .u16 0] 23))
          have hx08 := (hx06.trans hx7).trans (Ext.alloc w7 (.cells #[.int .u16 0, .int .u16 0, .int .u16 0, .int .u16 0, .int .u16 0, .int .u16 0, .int .u16 0, .int .u16 0] 23))
          have HQ3 := hide (unhide H3 _ hx08)
          clear H3 hx06 hx7 hA6 hB6
          go_wp2_with fail
          refine (unhide HQ3).mono ?_
          rintro e w9 ⟨rfl, hx9⟩
          clear HQ3
          have HX := hide ((hx08.trans hx9).trans (Ext.alloc w9 (.cells #[.int .u16 0, .int .u16 0, .int .u16 0, .int .u16 0, .int .u16 0, .int .u16 0, .int .u16 0, .int .u16 0] 23)))
          obtain ⟨c0, c1, c2, c3, c4, c5, c6, c7⟩ := cells8of (heap_ext (heap_ext hB8 hx9) (Ext.alloc w9 (.cells #[.int .u16 0, .int .u16 0, .int .u16 0, .int .u16 0, .int .u16 0, .int .u16 0, .int .u16 0, .int .u16 0] 23)))
          obtain ⟨d0, d1, d2, d3, d4, d5, d6, d7⟩ := cells8of (heap_ext (heap_ext hA8 hx9) (Ext.alloc w9 (.cells #[.int .u16 0, .int .u16 0, .int .u16 0, .int .u16 0, .int .u16 0, .int .u16 0, .int .u16 0, .int .u16 0] 23)))
          clear hA8 hB8 hx08 hx9
          have heq := fun v => eql8 v (x0 : Int) (x1 : Int) (x2 : Int) (x3 : Int) (x4 : Int) (x5 : Int) (x6 : Int) (x7 : Int)
          go_wp2
          go_ret
          exact ⟨rfl, unhide HX⟩
  · have h7' : (7 : Int) < (n : Int) := by omega
    clear hR hs tb
    go_enter Tryd.func8, Tryd.ntmps8
    go_wp2_with fail
    refine (unhide HB).mono ?_
    rintro e w1 ⟨rfl, hx1⟩
    clear HB
    go_wp2
    go_ret
    exact ⟨rfl, hx1⟩
end Go.Proofs.YtmohdhffoilndaaDoor
