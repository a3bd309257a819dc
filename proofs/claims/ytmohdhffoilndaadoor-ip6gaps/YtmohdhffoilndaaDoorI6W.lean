/-
  A long address with all its pieces and their noughts, and with four numbers behind: the walk.
-/
import Derived.Test.YtmohdhffoilndaaDoorI6Q
import Derived.Test.YtmohdhffoilndaaDoorI4Q
namespace Go.Proofs.YtmohdhffoilndaaDoor
set_option linter.unusedVariables false
open Go.RowKit

def lS (a : List Nat) (k : Nat) : List UInt8 := jb 58 ((a.take k).map h4)
def lT (a : List Nat) (k : Nat) : List UInt8 := ((a.take k).map fun v => h4 v ++ [58]).flatten
theorem lS_first (a : List Nat) (h : 0 < a.length) : lS a 1 = h4 (a.getD 0 0) := by
  unfold lS
  rw [take_snoc a 0 0 h]
  rfl
theorem lS_next (a : List Nat) (k : Nat) (hk : 0 < k) (h : k < a.length) : lS a (k + 1) = lS a k ++ [58] ++ h4 (a.getD k 0) := by
  unfold lS
  have hne : (a.take k).map h4 ≠ [] := fun e => by
    have := congrArg List.length e
    rw [List.length_map, List.length_take, List.length_nil] at this
    omega
  rw [take_snoc a k 0 h, List.map_append, List.map_singleton, jb_snoc 58 _ _ hne]
  simp
theorem lT_next (a : List Nat) (k : Nat) (h : k < a.length) : lT a (k + 1) = lT a k ++ h4 (a.getD k 0) ++ [58] := by
  unfold lT
  rw [take_snoc a k 0 h]
  simp
theorem lT_jb (w : List UInt8) : ∀ l : List Nat, (l.map fun v => h4 v ++ [58]).flatten ++ w = jb 58 (l.map h4 ++ [w])
  | [] => rfl
  | v :: t => by
    rw [List.map_cons, List.map_cons, List.cons_append, jb_cons 58 _ _ (by simp), ← lT_jb w t]
    simp
theorem lT_len (a : List Nat) (k : Nat) : (lT a k).length ≤ 5 * k := by
  unfold lT
  have key : ∀ l : List Nat, (l.map fun v => h4 v ++ [58]).flatten.length = 5 * l.length := by
    intro l
    induction l with
    | nil => rfl
    | cons v t ih =>
      rw [List.map_cons, List.flatten_cons, List.length_append, ih]
      simp [h4]
      omega
  rw [key, List.length_take]
  omega
theorem lS_len (a : List Nat) (k : Nat) : (lS a k).length ≤ 5 * k := by
  unfold lS
  have key : ∀ l : List Nat, (jb 58 (l.map h4)).length ≤ 5 * l.length := by
    intro l
    induction l with
    | nil => exact Nat.le_refl _
    | cons v t ih =>
      by_cases ht : t = []
      · subst ht
        show (h4 v).length ≤ _
        simp [h4]
      · rw [List.map_cons, jb_cons 58 _ _ (by simpa using ht), List.length_append, List.length_cons, List.length_cons]
        simp only [h4, List.length_cons, List.length_nil]
        omega
  have := key (a.take k)
  rw [List.length_take] at this
  omega
theorem lS_par (a : List Nat) (h8 : a.length = 8) (hs : small a) : par6 (lS a 8) = some a := by
  unfold lS
  rw [List.take_of_length_le (by omega), par_all _ (h4_map hs).1, List.length_map, if_pos h8, (h4_map hs).2]
theorem lT_par (a0 a1 a2 a3 a4 a5 a6 a7 : Nat) (hs : small [a0, a1, a2, a3, a4, a5, a6, a7]) : par6 (lT [a0, a1, a2, a3, a4, a5, a6, a7] 6 ++ shw (a6 * 65536 + a7)) = some [a0, a1, a2, a3, a4, a5, a6, a7] := by
  have h7 : a7 < 65536 := hs a7 (by simp)
  have h6 : a6 < 65536 := hs a6 (by simp)
  obtain ⟨c1, c2⟩ := shw_col (a6 * 65536 + a7)
  have hk := h4_map (small_take hs 6)
  unfold lT
  rw [lT_jb, par_tail _ hk.1 _ c1 c2 _ (four_shw _ (by omega)) (by rw [List.length_map]; rfl), hk.2, show (a6 * 65536 + a7) / 65536 = a6 by omega, show (a6 * 65536 + a7) % 65536 = a7 by omega]
  rfl

section
variable {ops : Array Oper} {Q : Exit → Act → World → Prop} {A : Tmp → Value → World → Prop} {a0 : Act} {w0 : World} {o : Oper} {d : Tmp}

theorem ok_addrw (hw : Wanted ops A o) (hdst : o.dst = some d) (x y : Tmp) (t : TypeId) (ho : o.op = .indexAddr t (.tmp x) (.tmp y)) (hs : (dstSlots ops).contains x = false) (hy1 : (depSlots ops o).contains y = true) (v u v' : Value)
    (hv : a0.tmps.getD x undef = v) (hY : ∀ q w, A y q w → q = u) (hrun : ∀ w, (Instr.indexAt t v u).run Tryd.prog w = .ok v' w) (hF : ∀ w, A d v' w) : StepOk Tryd.prog ops Q A a0 w0 o :=
  ok_val hw hdst fun a w hx hf hd => ⟨v', w, by
    have e : a.tmps.getD x undef = v := by rw [hf x hs, hv]
    have e2 := hY _ _ (hd y hy1)
    simp only [execOp, ho, Act.eval, e, e2]
    simp [hrun], hF w, Ext.refl _⟩
theorem ok_idxw (hw : Wanted ops A o) (hdst : o.dst = some d) (y : Tmp) (t : TypeId) (s : Value) (ho : o.op = .index t (.const s) (.tmp y)) (hy1 : (depSlots ops o).contains y = true) (u v' : Value)
    (hY : ∀ q w, A y q w → q = u) (hrun : ∀ w, (Instr.index t s u).run Tryd.prog w = .ok v' w) (hF : ∀ w, A d v' w) : StepOk Tryd.prog ops Q A a0 w0 o :=
  ok_val hw hdst fun a w hx hf hd => ⟨v', w, by
    have e2 := hY _ _ (hd y hy1)
    simp only [execOp, ho, Act.eval, e2]
    simp [hrun], hF w, Ext.refl _⟩
theorem ok_shrw (hw : Wanted ops A o) (hdst : o.dst = some d) (x : Tmp) (ty ty' : TypeId) (c : Nat) (hc : c ≤ 16) (ho : o.op = .binOp .shr ty (.tmp x) (.const (.int .u64 (c : Int))) ty') (hx1 : (depSlots ops o).contains x = true) (n : Nat)
    (hX : ∀ v w, A x v w → v = U n) (hF : ∀ w, A d (U (n / 2 ^ c)) w) : StepOk Tryd.prog ops Q A a0 w0 o :=
  ok_val hw hdst fun a w hx hf hd => ⟨U (n / 2 ^ c), w, by
    have e1 : a.tmps.getD x undef = .int .u16 (n : Int) := hX _ _ (hd x hx1)
    simp only [execOp, ho, Act.eval, e1]
    simp [eqGuard, binOp, U], hF w, Ext.refl _⟩
theorem ok_andw (hw : Wanted ops A o) (hdst : o.dst = some d) (x : Tmp) (ty ty' : TypeId) (ho : o.op = .binOp .and ty (.tmp x) (.const (.int .u16 15)) ty') (hx1 : (depSlots ops o).contains x = true) (n : Nat) (hn : n < 65536)
    (hX : ∀ v w, A x v w → v = U n) (hF : ∀ w, A d (U (n % 16)) w) : StepOk Tryd.prog ops Q A a0 w0 o :=
  ok_val hw hdst fun a w hx hf hd => ⟨U (n % 16), w, by
    have e1 : a.tmps.getD x undef = .int .u16 (n : Int) := hX _ _ (hd x hx1)
    have e2 : bits .and .u16 (n : Int) 15 = ((n % 16 : Nat) : Int) := by
      rw [show (15 : Int) = ((15 : Nat) : Int) from rfl, u16_and_nat n 15 hn (by decide)]
      congr 1
      exact Nat.and_two_pow_sub_one_eq_mod n 4
    simp only [execOp, ho, Act.eval, e1]
    simp [eqGuard, binOp, intBits_and, e2, U], hF w, Ext.refl _⟩
theorem run_bytes4 (i0 i1 i2 i3 : Int) (w : World) : (Instr.buildSlice 30 4 #[(0, .int .u8 i0), (1, .int .u8 i1), (2, .int .u8 i2), (3, .int .u8 i3)]).run Tryd.prog w = .ok (.slice (some ⟨w.heap.size, 0, none⟩) 4 4) (w.alloc (.cells #[.int .u8 i0, .int .u8 i1, .int .u8 i2, .int .u8 i3] 5)) := by
  kernel_rfl
theorem ok_bytes4 (hw : Wanted ops A o) (hdst : o.dst = some d) (x0 x1 x2 x3 : Tmp) (ho : o.op = .buildSlice 30 4 #[(0, .tmp x0), (1, .tmp x1), (2, .tmp x2), (3, .tmp x3)])
    (h0 : (depSlots ops o).contains x0 = true) (h1 : (depSlots ops o).contains x1 = true) (h2 : (depSlots ops o).contains x2 = true) (h3 : (depSlots ops o).contains x3 = true) (b0 b1 b2 b3 : UInt8)
    (k0 : ∀ q w, A x0 q w → q = B b0) (k1 : ∀ q w, A x1 q w → q = B b1) (k2 : ∀ q w, A x2 q w → q = B b2) (k3 : ∀ q w, A x3 q w → q = B b3)
    (hF : ∀ v w, (cellsF [B b0, B b1, B b2, B b3]).holds v w → A d v w) : StepOk Tryd.prog ops Q A a0 w0 o :=
  ok_val hw hdst fun a w hx hf hd => ⟨.slice (some ⟨w.heap.size, 0, none⟩) 4 4, w.alloc (.cells #[B b0, B b1, B b2, B b3] 5), by
    have e0 := k0 _ _ (hd x0 h0)
    have e1 := k1 _ _ (hd x1 h1)
    have e2 := k2 _ _ (hd x2 h2)
    have e3 := k3 _ _ (hd x3 h3)
    have hr := run_bytes4 (b0.toNat : Int) (b1.toNat : Int) (b2.toNat : Int) (b3.toNat : Int) w
    rw [Array.getD_eq_getD_getElem?] at e0 e1 e2 e3
    simp only [execOp, ho]
    simp [Act.eval, e0, e1, e2, e3, B, hr], hF _ _ ⟨some ⟨w.heap.size, 0, none⟩, 4, rfl, RdV.lit w [B b0, B b1, B b2, B b3] 5 (0, 0) (by simp)⟩, Ext.alloc w _⟩
theorem ok_strw (hw : Wanted ops A o) (hdst : o.dst = some d) (x : Tmp) (ho : o.op = .convert 30 9 (.tmp x)) (hx1 : (depSlots ops o).contains x = true) (bs : List UInt8)
    (hX : ∀ v w, A x v w → (cellsF (bs.map B)).holds v w) (hF : ∀ w, A d (.string ⟨bs.toArray⟩) w) : StepOk Tryd.prog ops Q A a0 w0 o :=
  ok_conv hw hdst x ho hx1 bs (fun v w h _ => by
    obtain ⟨ao, cap, e, hr⟩ := hX v w h
    exact ⟨ao, cap, by rw [e]; simp, hr⟩) hF
end
theorem addr_8w (w : World) (g i : Nat) (hi : i < 8) : (Instr.indexAt 23 (.pointer (some ⟨g, 0, none⟩)) (.int .i64 (i : Int))).run Tryd.prog w = .ok (.pointer (some ⟨g, i, none⟩)) w := by
  have he : Tryd.prog.elem 23 = 22 := by kernel_rfl
  have hl : Tryd.prog.arrayLen 23 = 8 := by kernel_rfl
  rw [run_indexAt_array w 23 ⟨g, 0, none⟩ .i64 (i : Int) (by rw [he, hl]; exact Tryd.underlying23), he, hl, if_pos ⟨by omega, by omega⟩, size16]
  simp only [Result.andThen]
  rw [Addr.add_lit]
  simp
theorem load_16w {w : World} {p : Addr} {n : Nat} (h : w.cell? p = some (U n)) : (Instr.loadAt 22 (.pointer (some p))).run Tryd.prog w = .ok (U n) w := by
  have hu := Tryd.underlying22
  simp [Instr.loadAt, Instr.sureAddr, loadVar, isAgg, run_underlying hu, h]
def digw : List UInt8 := [48, 49, 50, 51, 52, 53, 54, 55, 56, 57, 97, 98, 99, 100, 101, 102]
theorem digw_at : ∀ n : Fin 16, digw.getD n.val 0 = hexd n.val := by decide +kernel
theorem idx_digw (w : World) (n : Nat) (h : n < 16) : (Instr.index 9 (.string ⟨#[48, 49, 50, 51, 52, 53, 54, 55, 56, 57, 97, 98, 99, 100, 101, 102]⟩) (U n)).run Tryd.prog w = .ok (B (hexd n)) w := by
  have := idx_str w digw .u16 n h
  rw [digw_at ⟨n, h⟩] at this
  exact this
theorem h4_holds (v : Nat) (u : Value) (w : World) (h : (cellsF [B (hexd (v / 2 ^ 12)), B (hexd (v / 2 ^ 8 % 16)), B (hexd (v / 2 ^ 4 % 16)), B (hexd (v % 16))]).holds u w) : (cellsF ((h4 v).map B)).holds u w := h

theorem or_add (a b : Nat) (ha : a < 65536) (hb : b < 65536) : bits .or .u32 ((a : Int) * 65536) (b : Int) = ((a * 65536 + b : Nat) : Int) := by
  rw [show (a : Int) * 65536 = ((a * 65536 : Nat) : Int) by omega, u32_or_nat _ _ (by omega) (by omega)]
  congr 1
  have := Nat.two_pow_add_eq_or_of_lt (i := 16) (b := b) hb a
  rw [show 2 ^ 16 * a = a * 65536 by omega] at this
  exact this.symm
theorem cell_l {w : World} {g : Nat} {l : List Nat} {t : TypeId} {fr : Nat × Nat} (h : w.heap[g]? = some (.cells (l.map U).toArray t fr)) (k : Nat) (hk : k < l.length) : w.cell? ⟨g, k, none⟩ = some (U (l.getD k 0)) := by
  have h2 : w.cell? ⟨g, k, none⟩ = (l.map U)[k]? := by simp [World.cell?, h]
  rw [h2, List.getElem?_map, List.getElem?_eq_getElem hk]
  simp [List.getD, hk]

set_option maxHeartbeats 8000000 in
set_option maxRecDepth 100000 in
theorem long6_walk (a0 a1 a2 a3 a4 a5 a6 a7 : Nat) (hsm : small [a0, a1, a2, a3, a4, a5, a6, a7]) (w : World) (tb : Tb8 w) : Calls Tryd.prog 5 #[.agg #[U a0, U a1, U a2, U a3, U a4, U a5, U a6, U a7]] w fun e w' => e = .returned (.bool true) ∧ Ext w w' := by
  have hxa : Ext w (w.alloc (.cells #[U a0, U a1, U a2, U a3, U a4, U a5, U a6, U a7] 23)) := Ext.alloc _ _
  have hA : (w.alloc (.cells #[U a0, U a1, U a2, U a3, U a4, U a5, U a6, U a7] 23)).heap[w.heap.size]? = some (.cells #[U a0, U a1, U a2, U a3, U a4, U a5, U a6, U a7] 23 (0, 0)) := alloc_new _ _
  have HB := hide (begun_yes _ (tb.below hxa))
  have HTB := hide (fun w' (hx : Ext w w') => tb.below hx)
  have HP1 := hide (lS_par [a0, a1, a2, a3, a4, a5, a6, a7] rfl hsm)
  have HP2 := hide (lT_par a0 a1 a2 a3 a4 a5 a6 a7 hsm)
  have HSM := hide hsm
  clear hsm tb
  go_enter Tryd.func5, Tryd.ntmps5
  go_wp2_with fail
  refine (unhide HB).mono ?_
  rintro e w1 ⟨rfl, hx1⟩
  clear HB
  have hA1 := hide (heap_ext hA hx1)
  have hx01 := hide (hxa.trans hx1)
  clear hA hx1 hxa
  generalize w.heap.size = g at *
  have HS0 : Hid (S (lS [a0, a1, a2, a3, a4, a5, a6, a7] 0) = S []) := rfl
  have HT0 : Hid (S (lT [a0, a1, a2, a3, a4, a5, a6, a7] (min 0 6)) = S []) := rfl
  go_wp2_with fail
  go_loopw [3, 4, 5] (fun s t i wr => ∃ k : Nat, k ≤ 8 ∧ i = .int .i64 k ∧ s = S (lS [a0, a1, a2, a3, a4, a5, a6, a7] k) ∧ t = S (lT [a0, a1, a2, a3, a4, a5, a6, a7] (min k 6)) ∧ Ext w1 wr) (fun _ _ i _ => 8 - (intOf i).toNat)
  case atStart => exact ⟨0, by omega, rfl, (unhide HS0).symm, (unhide HT0).symm, Ext.refl _⟩
  case round =>
    clear HS0 HT0
    obtain ⟨k, hk, rfl, rfl, rfl, hxr⟩ := hrel
    by_cases hk8 : k < 8
    · have hk8' : (k : Int) < 8 := by omega
      have CK : Hid (∀ u, Ext wr u → u.cell? ⟨g, k, none⟩ = some (U ([a0, a1, a2, a3, a4, a5, a6, a7].getD k 0))) := fun u hu => cell_l (l := [a0, a1, a2, a3, a4, a5, a6, a7]) (heap_ext (unhide hA1) (hxr.trans hu)) k hk8
      have hv : [a0, a1, a2, a3, a4, a5, a6, a7].getD k 0 < 65536 := unhide HSM _ (by simp only [List.getD, List.getElem?_eq_getElem (show k < [a0, a1, a2, a3, a4, a5, a6, a7].length from hk8), Option.getD_some]; exact List.getElem_mem _)
      have HN1 : Hid (k = 0 → lS [a0, a1, a2, a3, a4, a5, a6, a7] (k + 1) = lS [a0, a1, a2, a3, a4, a5, a6, a7] k ++ h4 ([a0, a1, a2, a3, a4, a5, a6, a7].getD k 0)) := fun e => by
        subst e
        exact lS_first [a0, a1, a2, a3, a4, a5, a6, a7] (by simp)
      have HN2 := hide (fun h => lS_next [a0, a1, a2, a3, a4, a5, a6, a7] k h hk8)
      have HN3 := hide (lT_next [a0, a1, a2, a3, a4, a5, a6, a7] k hk8)
      have hls := lS_len [a0, a1, a2, a3, a4, a5, a6, a7] k
      have hlt := lT_len [a0, a1, a2, a3, a4, a5, a6, a7] (min k 6)
      clear HP1 HP2 HSM HTB
      generalize [a0, a1, a2, a3, a4, a5, a6, a7] = l at *
      generalize l.getD k 0 = v at *
      go_wp2_with fail
      refine wp_region_open2 (A := knows [(17, isF (.int .i64 (k : Int))), (18, isF (.pointer (some ⟨g, k, none⟩))), (19, isF (U v)), (20, isF (U (v / 2 ^ 12))), (21, isF (B (hexd (v / 2 ^ 12)))), (22, isF (.int .i64 (k : Int))), (23, isF (.pointer (some ⟨g, k, none⟩))), (24, isF (U v)), (25, isF (U (v / 2 ^ 8))), (26, isF (U (v / 2 ^ 8 % 16))), (27, isF (B (hexd (v / 2 ^ 8 % 16)))), (28, isF (.int .i64 (k : Int))), (29, isF (.pointer (some ⟨g, k, none⟩))), (30, isF (U v)), (31, isF (U (v / 2 ^ 4))), (32, isF (U (v / 2 ^ 4 % 16))), (33, isF (B (hexd (v / 2 ^ 4 % 16)))), (34, isF (.int .i64 (k : Int))), (35, isF (.pointer (some ⟨g, k, none⟩))), (36, isF (U v)), (37, isF (U (v % 16))), (38, isF (B (hexd (v % 16)))), (39, cellsF ((h4 v).map B)), (40, isF (S (h4 v))), (6, isF (S (h4 v)))]) [17, 18, 19, 20, 21, 22, 23, 24, 25, 26, 27, 28, 29, 30, 31, 32, 33, 34, 35, 36, 37, 38, 39, 40, 6] (by kernel_rfl) (by kernel_rfl) (by kernel_rfl) (knows_mono _) (steps_of ?_) ?_
      · skip
        refine allOps_cons (ok_fixed (.inl rfl) rfl 5 (.int .i64 (k : Int)) (.inl rfl) (by kernel_rfl) rfl (fun _ _ => rfl)) ?_
        refine allOps_cons (ok_addrw (.inl rfl) rfl 1 17 _ rfl (by kernel_rfl) (by kernel_rfl) (.pointer (some ⟨g, 0, none⟩)) (.int .i64 (k : Int)) (.pointer (some ⟨g, k, none⟩)) rfl (fun _ _ h => h) (fun u => addr_8w u g k hk8) (fun _ => rfl)) ?_
        refine allOps_cons (ok_loadq (.inl rfl) rfl 18 _ rfl (by kernel_rfl) _ (U v) (fun _ _ h => h) (fun u hx => load_16w (unhide CK u hx)) (fun _ => rfl)) ?_
        refine allOps_cons (ok_shrw (.inl rfl) rfl 19 _ _ 12 (by decide) rfl (by kernel_rfl) v (fun _ _ h => h) (fun _ => rfl)) ?_
        refine allOps_cons (ok_idxw (.inl rfl) rfl 20 _ _ rfl (by kernel_rfl) _ _ (fun _ _ h => h) (fun u => idx_digw u (v / 2 ^ 12) (by omega)) (fun _ => rfl)) ?_
        refine allOps_cons (ok_fixed (.inl rfl) rfl 5 (.int .i64 (k : Int)) (.inl rfl) (by kernel_rfl) rfl (fun _ _ => rfl)) ?_
        refine allOps_cons (ok_addrw (.inl rfl) rfl 1 22 _ rfl (by kernel_rfl) (by kernel_rfl) (.pointer (some ⟨g, 0, none⟩)) (.int .i64 (k : Int)) (.pointer (some ⟨g, k, none⟩)) rfl (fun _ _ h => h) (fun u => addr_8w u g k hk8) (fun _ => rfl)) ?_
        refine allOps_cons (ok_loadq (.inl rfl) rfl 23 _ rfl (by kernel_rfl) _ (U v) (fun _ _ h => h) (fun u hx => load_16w (unhide CK u hx)) (fun _ => rfl)) ?_
        refine allOps_cons (ok_shrw (.inl rfl) rfl 24 _ _ 8 (by decide) rfl (by kernel_rfl) v (fun _ _ h => h) (fun _ => rfl)) ?_
        refine allOps_cons (ok_andw (.inl rfl) rfl 25 _ _ rfl (by kernel_rfl) (v / 2 ^ 8) (by omega) (fun _ _ h => h) (fun _ => rfl)) ?_
        refine allOps_cons (ok_idxw (.inl rfl) rfl 26 _ _ rfl (by kernel_rfl) _ _ (fun _ _ h => h) (fun u => idx_digw u (v / 2 ^ 8 % 16) (by omega)) (fun _ => rfl)) ?_
        refine allOps_cons (ok_fixed (.inl rfl) rfl 5 (.int .i64 (k : Int)) (.inl rfl) (by kernel_rfl) rfl (fun _ _ => rfl)) ?_
        refine allOps_cons (ok_addrw (.inl rfl) rfl 1 28 _ rfl (by kernel_rfl) (by kernel_rfl) (.pointer (some ⟨g, 0, none⟩)) (.int .i64 (k : Int)) (.pointer (some ⟨g, k, none⟩)) rfl (fun _ _ h => h) (fun u => addr_8w u g k hk8) (fun _ => rfl)) ?_
        refine allOps_cons (ok_loadq (.inl rfl) rfl 29 _ rfl (by kernel_rfl) _ (U v) (fun _ _ h => h) (fun u hx => load_16w (unhide CK u hx)) (fun _ => rfl)) ?_
        refine allOps_cons (ok_shrw (.inl rfl) rfl 30 _ _ 4 (by decide) rfl (by kernel_rfl) v (fun _ _ h => h) (fun _ => rfl)) ?_
        refine allOps_cons (ok_andw (.inl rfl) rfl 31 _ _ rfl (by kernel_rfl) (v / 2 ^ 4) (by omega) (fun _ _ h => h) (fun _ => rfl)) ?_
        refine allOps_cons (ok_idxw (.inl rfl) rfl 32 _ _ rfl (by kernel_rfl) _ _ (fun _ _ h => h) (fun u => idx_digw u (v / 2 ^ 4 % 16) (by omega)) (fun _ => rfl)) ?_
        refine allOps_cons (ok_fixed (.inl rfl) rfl 5 (.int .i64 (k : Int)) (.inl rfl) (by kernel_rfl) rfl (fun _ _ => rfl)) ?_
        refine allOps_cons (ok_addrw (.inl rfl) rfl 1 34 _ rfl (by kernel_rfl) (by kernel_rfl) (.pointer (some ⟨g, 0, none⟩)) (.int .i64 (k : Int)) (.pointer (some ⟨g, k, none⟩)) rfl (fun _ _ h => h) (fun u => addr_8w u g k hk8) (fun _ => rfl)) ?_
        refine allOps_cons (ok_loadq (.inl rfl) rfl 35 _ rfl (by kernel_rfl) _ (U v) (fun _ _ h => h) (fun u hx => load_16w (unhide CK u hx)) (fun _ => rfl)) ?_
        refine allOps_cons (ok_andw (.inl rfl) rfl 36 _ _ rfl (by kernel_rfl) (v) (by omega) (fun _ _ h => h) (fun _ => rfl)) ?_
        refine allOps_cons (ok_idxw (.inl rfl) rfl 37 _ _ rfl (by kernel_rfl) _ _ (fun _ _ h => h) (fun u => idx_digw u (v % 16) (by omega)) (fun _ => rfl)) ?_
        refine allOps_cons (ok_bytes4 (.inl rfl) rfl 21 27 33 38 rfl (by kernel_rfl) (by kernel_rfl) (by kernel_rfl) (by kernel_rfl) _ _ _ _ (fun _ _ h => h) (fun _ _ h => h) (fun _ _ h => h) (fun _ _ h => h) (fun v' w' h => h4_holds v v' w' h)) ?_
        refine allOps_cons (ok_strw (.inl rfl) rfl 39 rfl (by kernel_rfl) (h4 v) (fun _ _ h => h) (fun _ => rfl)) ?_
        refine allOps_cons (ok_move (.inl rfl) rfl 40 (.inr rfl) (by kernel_rfl) (fun _ _ h => h)) ?_
        exact allOps_nil
      · intro vs wz hx hkn
        have h6 : vs 6 = S (h4 v) := hkn 6 rfl
        have XZ := hide (hxr.trans hx)
        simp only [putAll, h6, Act.put, List.setIfInBounds_toArray, List.set_cons_succ, List.set_cons_zero]
        clear hkn h6 hx hxr CK
        generalize vs 17 = u17
        generalize vs 18 = u18
        generalize vs 19 = u19
        generalize vs 20 = u20
        generalize vs 21 = u21
        generalize vs 22 = u22
        generalize vs 23 = u23
        generalize vs 24 = u24
        generalize vs 25 = u25
        generalize vs 26 = u26
        generalize vs 27 = u27
        generalize vs 28 = u28
        generalize vs 29 = u29
        generalize vs 30 = u30
        generalize vs 31 = u31
        generalize vs 32 = u32
        generalize vs 33 = u33
        generalize vs 34 = u34
        generalize vs 35 = u35
        generalize vs 36 = u36
        generalize vs 37 = u37
        generalize vs 38 = u38
        generalize vs 39 = u39
        generalize vs 40 = u40
        have hq4 : (h4 v).length = 4 := rfl
        generalize h4 v = q at *
        have hk6 : min k 6 ≤ 6 := by omega
        by_cases hk0 : k = 0
        · have hs1 : (⟨(lS l k).toArray⟩ : ByteArray) ++ ⟨q.toArray⟩ = ⟨(lS l (k + 1)).toArray⟩ := by rw [unhide HN1 hk0]; exact cat_to _ _
          have ht1 : (⟨(lT l (min k 6)).toArray⟩ : ByteArray) ++ ⟨q.toArray⟩ = ⟨(lT l (min k 6) ++ q).toArray⟩ := cat_to _ _
          have ht2 : (⟨(lT l (min k 6) ++ q).toArray⟩ : ByteArray) ++ ⟨#[58]⟩ = ⟨(lT l (min (k + 1) 6)).toArray⟩ := by
            rw [show min (k + 1) 6 = k + 1 by omega, show min k 6 = k by omega, unhide HN3]
            exact cat_to _ [58]
          have htl : (lT l (min k 6) ++ q).length ≤ 60 := by rw [List.length_append]; omega
          have hk0' : ¬ (0 : Int) < (k : Int) := by omega
          have hk6' : (k : Int) < 6 := by omega
          have KK : Hid ((∃ k1 : Nat, k1 ≤ 8 ∧ Value.int .i64 ((k : Int) + 1) = .int .i64 k1 ∧ Value.string ⟨(lS l (k + 1)).toArray⟩ = S (lS l k1) ∧ Value.string ⟨(lT l (min (k + 1) 6)).toArray⟩ = S (lT l (min k1 6)) ∧ Ext w1 wz) ∧ 8 - ((k : Int) + 1).toNat < 8 - k) := ⟨⟨k + 1, by omega, by simp, rfl, rfl, unhide XZ⟩, by omega⟩
          clear hk0 hk6
          generalize lS l (k + 1) = s1 at *
          generalize lS l k = s0 at *
          generalize lT l (min (k + 1) 6) = t1 at *
          generalize lT l (min k 6) ++ q = tq at *
          generalize lT l (min k 6) = t0 at *
          clear HN1 HN2 HN3 XZ
          go_wp2
          exact unhide KK
        · by_cases hks : k < 6
          · have hk6' : (k : Int) < 6 := by omega
            have hs0 : (⟨(lS l k).toArray⟩ : ByteArray) ++ ⟨#[58]⟩ = ⟨(lS l k ++ [58]).toArray⟩ := cat_to _ [58]
            have hs1 : (⟨(lS l k ++ [58]).toArray⟩ : ByteArray) ++ ⟨q.toArray⟩ = ⟨(lS l (k + 1)).toArray⟩ := by rw [unhide HN2 (by omega)]; exact cat_to _ _
            have hsl : (lS l k ++ [58]).length ≤ 60 := by rw [List.length_append]; simp; omega
            have hk0' : (0 : Int) < (k : Int) := by omega
            have ht1 : (⟨(lT l (min k 6)).toArray⟩ : ByteArray) ++ ⟨q.toArray⟩ = ⟨(lT l (min k 6) ++ q).toArray⟩ := cat_to _ _
            have ht2 : (⟨(lT l (min k 6) ++ q).toArray⟩ : ByteArray) ++ ⟨#[58]⟩ = ⟨(lT l (min (k + 1) 6)).toArray⟩ := by
              rw [show min (k + 1) 6 = k + 1 by omega, show min k 6 = k by omega, unhide HN3]
              exact cat_to _ [58]
            have htl : (lT l (min k 6) ++ q).length ≤ 60 := by rw [List.length_append]; omega
            have KK : Hid ((∃ k1 : Nat, k1 ≤ 8 ∧ Value.int .i64 ((k : Int) + 1) = .int .i64 k1 ∧ Value.string ⟨(lS l (k + 1)).toArray⟩ = S (lS l k1) ∧ Value.string ⟨(lT l (min (k + 1) 6)).toArray⟩ = S (lT l (min k1 6)) ∧ Ext w1 wz) ∧ 8 - ((k : Int) + 1).toNat < 8 - k) := ⟨⟨k + 1, by omega, by simp, rfl, rfl, unhide XZ⟩, by omega⟩
            clear hk0 hk6
            generalize lS l k ++ [58] = sq at *
            generalize lS l (k + 1) = s1 at *
            generalize lS l k = s0 at *
            generalize lT l (min (k + 1) 6) = t1 at *
            generalize lT l (min k 6) ++ q = tq at *
            generalize lT l (min k 6) = t0 at *
            clear HN1 HN2 HN3 XZ
            go_wp2
            exact unhide KK
          · have hk6' : ¬ (k : Int) < 6 := by omega
            have hs0 : (⟨(lS l k).toArray⟩ : ByteArray) ++ ⟨#[58]⟩ = ⟨(lS l k ++ [58]).toArray⟩ := cat_to _ [58]
            have hs1 : (⟨(lS l k ++ [58]).toArray⟩ : ByteArray) ++ ⟨q.toArray⟩ = ⟨(lS l (k + 1)).toArray⟩ := by rw [unhide HN2 (by omega)]; exact cat_to _ _
            have hsl : (lS l k ++ [58]).length ≤ 60 := by rw [List.length_append]; simp; omega
            have hk0' : (0 : Int) < (k : Int) := by omega
            have KK : Hid ((∃ k1 : Nat, k1 ≤ 8 ∧ Value.int .i64 ((k : Int) + 1) = .int .i64 k1 ∧ Value.string ⟨(lS l (k + 1)).toArray⟩ = S (lS l k1) ∧ S (lT l (min k 6)) = S (lT l (min k1 6)) ∧ Ext w1 wz) ∧ 8 - ((k : Int) + 1).toNat < 8 - k) := ⟨⟨k + 1, by omega, by simp, rfl, by rw [show min (k + 1) 6 = min k 6 by omega], unhide XZ⟩, by omega⟩
            clear hk0 hk6 hks
            generalize lS l k ++ [58] = sq at *
            generalize lS l (k + 1) = s1 at *
            generalize lS l k = s0 at *
            generalize lT l (min k 6) = t0 at *
            clear HN1 HN2 HN3 XZ
            go_wp2
            exact unhide KK
    · have hk8' : ¬ (k : Int) < 8 := by omega
      have hke : k = 8 := by omega
      subst hke
      have hx04 := (unhide hx01).trans hxr
      have hA4 := heap_ext (unhide hA1) hxr
      obtain ⟨d0, d1, d2, d3, d4, d5, d6, d7⟩ := cells8of hA4
      have h6 : a6 < 65536 := unhide HSM a6 (by simp)
      have h7 : a7 < 65536 := unhide HSM a7 (by simp)
      have hn : a6 * 65536 + a7 < 4294967296 := by omega
      have HSW : Hid (∀ v, Ext w v → Calls Tryd.prog 14 #[.int .u32 (bits .or .u32 ((a6 : Int) * 65536) (a7 : Int))] v fun e w' => e = .returned (S (shw (a6 * 65536 + a7))) ∧ Ext v w') := fun v _ => by
        rw [or_add a6 a7 h6 h7]
        exact rshow_any (a6 * 65536 + a7) v hn
      have hls := lS_len [a0, a1, a2, a3, a4, a5, a6, a7] 8
      have hlt := lT_len [a0, a1, a2, a3, a4, a5, a6, a7] (min 8 6)
      have hlw := shw_len (a6 * 65536 + a7) hn
      have ht : (⟨(lT [a0, a1, a2, a3, a4, a5, a6, a7] (min 8 6)).toArray⟩ : ByteArray) ++ ⟨(shw (a6 * 65536 + a7)).toArray⟩ = ⟨(lT [a0, a1, a2, a3, a4, a5, a6, a7] (min 8 6) ++ shw (a6 * 65536 + a7)).toArray⟩ := cat_to _ _
      have hlq : (lT [a0, a1, a2, a3, a4, a5, a6, a7] (min 8 6) ++ shw (a6 * 65536 + a7)).length ≤ 100 := by rw [List.length_append]; omega
      have H1 : Hid (∀ v, Ext w v → Calls Tryd.prog 10 #[S (lS [a0, a1, a2, a3, a4, a5, a6, a7] 8)] v fun e w' => e = .returned (.tuple #[.agg #[U a0, U a1, U a2, U a3, U a4, U a5, U a6, U a7], .int .i64 0]) ∧ Ext v w') := fun v hv => parse6_lit (lS [a0, a1, a2, a3, a4, a5, a6, a7] 8) (some [a0, a1, a2, a3, a4, a5, a6, a7]) (unhide HP1) (by omega) v (unhide HTB v hv)
      have H2 : Hid (∀ v, Ext w v → Calls Tryd.prog 10 #[S (lT [a0, a1, a2, a3, a4, a5, a6, a7] (min 8 6) ++ shw (a6 * 65536 + a7))] v fun e w' => e = .returned (.tuple #[.agg #[U a0, U a1, U a2, U a3, U a4, U a5, U a6, U a7], .int .i64 0]) ∧ Ext v w') := fun v hv => parse6_lit (lT [a0, a1, a2, a3, a4, a5, a6, a7] (min 8 6) ++ shw (a6 * 65536 + a7)) (some [a0, a1, a2, a3, a4, a5, a6, a7]) (unhide HP2) (by omega) v (unhide HTB v hv)
      have HSQ := hide (unhide HSW wr hx04)
      clear HSM HSW HP1 HP2 HTB hA1 hx01 hxr
      generalize lT [a0, a1, a2, a3, a4, a5, a6, a7] (min 8 6) ++ shw (a6 * 65536 + a7) = q at *
      generalize lT [a0, a1, a2, a3, a4, a5, a6, a7] (min 8 6) = t0 at *
      generalize lS [a0, a1, a2, a3, a4, a5, a6, a7] 8 = s0 at *
      generalize shw (a6 * 65536 + a7) = z at *
      go_wp2_with fail
      refine (unhide HSQ).mono ?_
      rintro e w5 ⟨rfl, hx5⟩
      clear HSQ d0 d1 d2 d3 d4 d5 d6 d7
      have hA5 := heap_ext hA4 hx5
      have hx05 := hx04.trans hx5
      have HQ1 := hide (unhide H1 _ hx05)
      clear H1 hA4 hx04 hx5
      go_wp2_with fail
      refine (unhide HQ1).mono ?_
      rintro e w6 ⟨rfl, hx6⟩
      clear HQ1
      have hA6 := heap_ext hA5 hx6
      have hx06 := hx05.trans hx6
      have hB7 : (w6.alloc (.cells #[U a0, U a1, U a2, U a3, U a4, U a5, U a6, U a7] 23)).heap[w6.heap.size]? = some (.cells #[U a0, U a1, U a2, U a3, U a4, U a5, U a6, U a7] 23 (0, 0)) := alloc_new _ _
      have hA7 := heap_ext hA6 (Ext.alloc w6 (.cells #[U a0, U a1, U a2, U a3, U a4, U a5, U a6, U a7] 23))
      have hx07 := hx06.trans (Ext.alloc w6 (.cells #[U a0, U a1, U a2, U a3, U a4, U a5, U a6, U a7] 23))
      have HQ2 := hide (unhide H2 _ hx07)
      clear H2 hA5 hA6 hx05 hx06 hx6
      go_wp2_with fail
      refine (unhide HQ2).mono ?_
      rintro e w8 ⟨rfl, hx8⟩
      clear HQ2
      have hA8 := heap_ext hA7 hx8
      have hB8 := heap_ext hB7 hx8
      have HX := hide ((hx07.trans hx8).trans (Ext.alloc w8 (.cells #[U a0, U a1, U a2, U a3, U a4, U a5, U a6, U a7] 23)))
      obtain ⟨c0, c1, c2, c3, c4, c5, c6, c7⟩ := cells8of (heap_ext hB8 (Ext.alloc w8 (.cells #[U a0, U a1, U a2, U a3, U a4, U a5, U a6, U a7] 23)))
      obtain ⟨d0, d1, d2, d3, d4, d5, d6, d7⟩ := cells8of (heap_ext hA8 (Ext.alloc w8 (.cells #[U a0, U a1, U a2, U a3, U a4, U a5, U a6, U a7] 23)))
      obtain ⟨f0, f1, f2, f3, f4, f5, f6, f7⟩ := cells8of (show (w8.alloc (.cells #[U a0, U a1, U a2, U a3, U a4, U a5, U a6, U a7] 23)).heap[w8.heap.size]? = some (.cells #[U a0, U a1, U a2, U a3, U a4, U a5, U a6, U a7] 23 (0, 0)) from alloc_new _ _)
      clear hA7 hB7 hA8 hB8 hx07 hx8
      have heq := fun v => eql8 v (a0 : Int) (a1 : Int) (a2 : Int) (a3 : Int) (a4 : Int) (a5 : Int) (a6 : Int) (a7 : Int)
      go_wp2
      go_ret
      exact ⟨rfl, unhide HX⟩
end Go.Proofs.YtmohdhffoilndaaDoor
