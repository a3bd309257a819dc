/-
  EncB.
-/
import Derived.Test.YtenlampiiodkhaaGreatDoorEncAc
import Derived.Test.YtenlampiiodkhaaGreatDoorBTc
import Derived.Deep.RegionWith
import Derived.Handy
namespace Go.Proofs.YtenlampiiodkhaaGreatDoor
set_option linter.unusedVariables false
open Go.RowKit
def SB (w : World) (b : Nat) : Prop := ∃ X t fz, w.heap[b]? = some (.cells X t fz) ∧ t ≠ 5 ∧ t ≠ 21
def Kp (w w' : World) : Prop := ∀ b, SB w b → w'.heap[b]? = w.heap[b]?
theorem Kp.refl (w : World) : Kp w w := fun _ _ => rfl
theorem Kp.trans {a b c : World} (h : Kp a b) (k : Kp b c) : Kp a c := fun x hx => by
  have e := h x hx; have hx2 : SB b x := by unfold SB; rw [e]; exact hx
  rw [k x hx2, e]
theorem SB.lt {w : World} {b : Nat} (h : SB w b) : b < w.heap.size := by
  obtain ⟨X, t, fz, h, _⟩ := h; rcases Nat.lt_or_ge b w.heap.size with h' | h'
  · exact h'
  · rw [Array.getElem?_eq_none h'] at h; cases h
theorem Kp.of_ext {w w' : World} (h : Ext w w') : Kp w w' := fun b hb => h.block b hb.lt
theorem Kp.grown {w w' : World} {base : Nat} {v : Value} {n : Nat} {xs : List Value} (h : w.ownsRow base 5 1 v n xs) (hg : w.grownBy w' v.ownBlock) : Kp w w' := fun b hb => by
  refine hg.block b hb.lt fun e => ?_; obtain ⟨X, t, fz, hb, hne⟩ := hb; rcases h.2 with ⟨rfl, _⟩ | ⟨g, c, cur, rfl, _, h3, _⟩
  · simp [Value.ownBlock] at e
  · simp only [Value.ownBlock, Option.some.injEq] at e; rw [← e, hb] at h3; simp at h3; exact hne.1 h3.2.1
theorem wpList_app3 {w : World} {ops : Array Oper} {rest : List Oper} {o : Oper} {a : Act} {Q : Exit → Act → World → Prop} (hgd : o.guard = none) (s x : Operand) (t : TypeId)
    (hT : Tryz.prog.underlying t = some (.slice 5)) (ho : o.op = .call { callee := .builtin .append, args := #[s, x], argTypes := #[t, t] })
    (base : Nat) (v : Value) (n : Nat) (xs : List Value) (hs : a.eval s = v) (hown : w.ownsRow base 5 1 v n xs)
    (ad : Addr) (m c : Nat) (ys : List Value) (hx : a.eval x = .slice (some ad) m c) (hl : ys.length = m) (hr : RdV w (some ad) c ys) (hone : ∀ u ∈ ys, u.oneCell' = true) (hb : (n + m) * 2 ≤ 140737488355328) (hbase : base ≤ w.heap.size)
    (h : ∀ v' w', w'.ownsRow base 5 1 v' (n + m) (xs ++ ys) → Below base w w' → Kp w w' → wpList Tryz.prog ops Q rest (a.put o.dst v') w') : wpList Tryz.prog ops Q (o :: rest) a w := by
  obtain ⟨i0, hi, hz0, hz1, hz2⟩ := info_parts infoB; refine wpList_append_own _ hgd s x t ho base 5 i0 (.int .u8 0) 1 1 hT hi hz0 hz1 hz2 rfl (by decide) v n xs hs hown ad m c ys hx (by omega) (hr.news ad rfl) hone (by unfold maxLen; omega) (by omega) hbase ?_; intro v' w' h1 h2 _; exact h v' w' h1 ((Below.refl _ _).grown h2 hbase (fun t ht => (hown.lt t ht).1)) (Kp.grown hown h2)
def RelN (base : Nat) (w : World) (bias : Nat) (G : List UInt8) (N K : Nat) (o q k : Value) (wr : World) : Prop :=
  ∃ (f q' k' : Nat) (O : List UInt8), q = .int .i64 (q' : Int) ∧ k = .int .i64 (k' : Int) ∧ O ++ (vEnc bias f (36 * k' + 36) q').map letter = G ∧ q' ≤ f ∧ k' + f ≤ K ∧ O.length + q' ≤ N ∧
    wr.ownsRow base 5 1 o O.length (O.map B) ∧ Below base w wr ∧ base ≤ wr.heap.size ∧ Kp w wr
set_option maxHeartbeats 2000000 in
set_option maxRecDepth 100000 in
theorem appendNumber_any (base : Nat) (ao : Option Addr) (cap : Nat) (O : List UInt8) (q bias : Nat) (w : World) (hown : w.ownsRow base 5 1 (.slice ao O.length cap) O.length (O.map B)) (hbase : base ≤ w.heap.size) (hq : q ≤ 100000000) (hbi : bias ≤ 2400) (hO : O.length ≤ 10000000000) :
    Calls Tryz.prog 171 #[.slice ao O.length cap, .int .i64 (q : Int), .int .i64 (bias : Int)] w fun e w' =>
      ∃ v, e = .returned v ∧ w'.ownsRow base 5 1 v (O ++ (vEnc bias q 36 q).map letter).length ((O ++ (vEnc bias q 36 q).map letter).map B) ∧ Below base w w' ∧ Kp w w' := by
  have START : Hid (RelN base w bias (O ++ (vEnc bias q 36 q).map letter) (O.length + q) q (.slice ao O.length cap) (.int .i64 (q : Int)) (.int .i64 0) w) := ⟨q, q, 0, O, rfl, rfl, rfl, Nat.le_refl _, by omega, Nat.le_refl _, hown, Below.refl _ _, hbase, Kp.refl _⟩; clear hown hbase; generalize O ++ (vEnc bias q 36 q).map letter = G at *; generalize hN : O.length + q = N at *; go_enter Tryz.func171, Tryz.ntmps171; go_wp2_with fail
  go_loopw [0, 1, 7] (fun o v k wr => RelN base w bias G N q o v k wr) (fun _ v _ _ => (intOf v).toNat)
  case atStart => exact unhide START
  case round =>
    clear START; obtain ⟨f5, u, k5, O5, rfl, rfl, hG5, hqf, hkf, hOl5, own5, hb5, hbs5, kp5⟩ := hrel; have KP5 := hide kp5; clear kp5; have HG5 := hide hG5; clear hG5; obtain ⟨a5, c5, rfl, _, _⟩ := RdV.of_owned own5; have HED := hide (fun w => threshold_any k5 bias w (by omega) (by omega)); have ht1 := thr_pos (36 * k5 + 36) bias; have ht2 := thr_le (36 * k5 + 36) bias; by_cases hqt : u < thr (36 * k5 + 36) bias
    · have hG6 := unhide HG5; rw [vEnc_end hqt, List.map_singleton] at hG6; have hi := fun w => idx_letter w .i64 u (by omega); have HG6 := hide hG6; clear hG6 HG5; generalize thr (36 * k5 + 36) bias = t at *; have RL := RdV.lit wr [B (letter u)] 5 (0, 0) (by simp); have own2 := owns_below own5 (Ext.alloc wr (.cells #[B (letter u)] 5 (0, 0))); have hb2 : Below base w (wr.alloc (.cells #[B (letter u)] 5 (0, 0))) := hb5.trans (Below.mono (Ext.alloc wr _) hbs5); have hbase2 : base ≤ (wr.alloc (.cells #[B (letter u)] 5 (0, 0))).heap.size := by have := (Ext.alloc wr (.cells #[B (letter u)] 5 (0, 0))).size; omega
      have hone : ∀ u' ∈ [B (letter u)], u'.oneCell' = true := by simp [B, Value.oneCell']
      clear own5 hb5; go_wp2_with fail
      refine (unhide HED _).mono ?_; rintro e wz ⟨rfl, hwz⟩; subst hwz; clear HED; go_wp2_with (at_builtin; refine wpList_app3 rfl (.tmp 17) (.tmp 20) 22 Tryz.underlying22 rfl base _ _ _ rfl own2 _ _ _ [B (letter u)] rfl rfl RL hone (by omega) hbase2 ?_)
      intro v2 w2 o2 b2 k2; have KPG := hide (((unhide KP5).trans (Kp.of_ext (Ext.alloc _ _))).trans k2); clear k2; have hbG := hb2.trans b2; have ownG : w2.ownsRow base 5 1 v2 G.length (G.map B) := by rw [← unhide HG6]; simpa using o2
      clear own2 RL hone o2 b2 hb2 hbase2 HG6 hi; go_wp2; go_ret; exact ⟨_, rfl, ownG, hbG, unhide KPG⟩
    · cases f5 with
      | zero => omega
      | succ f5 =>
        have hG6 := unhide HG5; rw [vEnc_more hqt, List.map_cons] at hG6; obtain ⟨m1, m2, m3, m4⟩ := mod_int (q := u) (t := thr (36 * k5 + 36) bias) (by omega) ht2; have ha5 := Nat.mod_lt (u - thr (36 * k5 + 36) bias) (show 0 < 36 - thr (36 * k5 + 36) bias by omega); have hb55 := div_less u (thr (36 * k5 + 36) bias) (by omega) ht1 ht2; clear HG5; generalize thr (36 * k5 + 36) bias = t at *; generalize (u - t) % (36 - t) = a6 at *; generalize (u - t) / (36 - t) = b6 at *; have hi : ∀ w, (Instr.index 9 (.string ⟨#[97, 98, 99, 100, 101, 102, 103, 104, 105, 106, 107, 108, 109, 110, 111, 112, 113, 114, 115, 116, 117, 118, 119, 120, 121, 122, 48, 49, 50, 51, 52, 53, 54, 55, 56, 57]⟩) (.int .i64 ((t : Int) + (a6 : Int)))).run Tryz.prog w = .ok (B (letter (t + a6))) w := fun w => by
          have := idx_letter w .i64 (t + a6) (by omega)
          rwa [show ((t + a6 : Nat) : Int) = (t : Int) + (a6 : Int) by omega] at this
        generalize letter (t + a6) = lt5 at *; have HG6 := hide hG6; clear hG6; have RL := RdV.lit wr [B lt5] 5 (0, 0) (by simp); have own2 := owns_below own5 (Ext.alloc wr (.cells #[B lt5] 5 (0, 0))); have hb2 : Below base w (wr.alloc (.cells #[B lt5] 5 (0, 0))) := hb5.trans (Below.mono (Ext.alloc wr _) hbs5); have hbase2 : base ≤ (wr.alloc (.cells #[B lt5] 5 (0, 0))).heap.size := by have := (Ext.alloc wr (.cells #[B lt5] 5 (0, 0))).size; omega
        have hone : ∀ u' ∈ [B lt5], u'.oneCell' = true := by simp [B, Value.oneCell']
        have hbs6 : Hid (base ≤ (wr.alloc (.cells #[B lt5] 5 (0, 0))).heap.size) := hide hbase2; clear own5 hb5; go_wp2_with fail
        refine (unhide HED _).mono ?_; rintro e wz ⟨rfl, hwz⟩; subst hwz; clear HED; go_wp2_with (at_builtin; refine wpList_app3 rfl (.tmp 22) (.tmp 32) 22 Tryz.underlying22 rfl base _ _ _ rfl own2 _ _ _ [B lt5] rfl rfl RL hone (by omega) hbase2 ?_)
        intro v2 w2 o2 b2 k2; have KPG := hide (((unhide KP5).trans (Kp.of_ext (Ext.alloc _ _))).trans k2); clear k2; have REL : Hid (RelN base w bias G N q v2 (.int .i64 (b6 : Int)) (.int .i64 ((k5 : Int) + 1)) w2) := ⟨f5, b6, k5 + 1, O5 ++ [lt5], rfl, by simp, by rw [List.append_assoc, show 36 * (k5 + 1) + 36 = 36 * k5 + 36 + 36 by omega]; exact unhide HG6, by omega, by omega, by rw [List.length_append]; simp; omega, by simpa using o2, hb2.trans b2, Nat.le_trans (unhide hbs6) b2.size, unhide KPG⟩; clear own2 RL hone o2 b2 hb2 hbase2 HG6 hi hbs6; go_wp2; exact ⟨unhide REL, (show ((b6 : Int)).toNat < ((u : Int)).toNat by omega)⟩
structure WSt (W : World) (b c p s bi : Nat) (g : Bool) : Prop where
  c0 : W.cell? ⟨b, 0, none⟩ = some (.int .i64 (c : Int))
  c1 : W.cell? ⟨b, 1, none⟩ = some (.int .i64 (p : Int))
  c2 : W.cell? ⟨b, 2, none⟩ = some (.int .i64 (s : Int))
  c3 : W.cell? ⟨b, 3, none⟩ = some (.int .i64 (bi : Int))
  c4 : W.cell? ⟨b, 4, none⟩ = some (.bool g)
  f0 : W.frozen? ⟨b, 0, none⟩ = false
  f1 : W.frozen? ⟨b, 1, none⟩ = false
  f2 : W.frozen? ⟨b, 2, none⟩ = false
  f3 : W.frozen? ⟨b, 3, none⟩ = false
  f4 : W.frozen? ⟨b, 4, none⟩ = false
  sb : SB W b
theorem WSt.keep {W W' : World} {b c p s bi : Nat} {g : Bool} (h : WSt W b c p s bi g) {B : Nat} (hb : Below B W W') (hB : b < B) : WSt W' b c p s bi g :=
  ⟨by rw [hb.cell hB]; exact h.c0, by rw [hb.cell hB]; exact h.c1, by rw [hb.cell hB]; exact h.c2, by rw [hb.cell hB]; exact h.c3, by rw [hb.cell hB]; exact h.c4,
   by rw [hb.frozen hB]; exact h.f0, by rw [hb.frozen hB]; exact h.f1, by rw [hb.frozen hB]; exact h.f2, by rw [hb.frozen hB]; exact h.f3, by rw [hb.frozen hB]; exact h.f4, by unfold SB; rw [hb.block b hB]; exact h.sb⟩
theorem WSt.lt {W : World} {b c p s bi : Nat} {g : Bool} (h : WSt W b c p s bi g) : b < W.heap.size := cell_lt (a := ⟨b, 0, none⟩) h.c0
theorem SB.setCell {W : World} {b : Nat} (h : SB W b) (i : Nat) (v : Value) : SB (W.setCell ⟨b, i, none⟩ v) b := by
  obtain ⟨X, t, fz, h, hne⟩ := h; refine ⟨X.setIfInBounds i v, t, fz, ?_, hne⟩; simp [World.setCell, Array.getElem?_modify, h]
theorem SB.of_IB {W : World} {b : Nat} (h : IB W b) : SB W b := by
  obtain ⟨X, fz, h⟩ := h; exact ⟨X, _, fz, h, by decide⟩
theorem RdV.kp {w w' : World} {ao : Option Addr} {cap : Nat} {vs : List Value} (h : RdV w ao cap vs) (hs : ∀ b off, ao = some ⟨b, off, none⟩ → SB w b) (hk : Kp w w') : RdV w' ao cap vs := by
  refine ⟨h.le, h.max, h.nil, fun i hi => ?_⟩; obtain ⟨b, off, e, hc⟩ := h.cell i hi; refine ⟨b, off, e, ?_⟩; rw [← hc]; exact World.cell?_of_block (hk b (hs b off e))
theorem RdV.oth {w w' : World} {ao : Option Addr} {cap bw : Nat} {vs : List Value} (h : RdV w ao cap vs) (hs : ∀ b off, ao = some ⟨b, off, none⟩ → b ≠ bw) (hk : Oth bw w w') : RdV w' ao cap vs := by
  refine ⟨h.le, h.max, h.nil, fun i hi => ?_⟩; obtain ⟨b, off, e, hc⟩ := h.cell i hi; refine ⟨b, off, e, ?_⟩; rw [← hc]; exact World.cell?_of_block (hk.block b (hs b off e))
theorem SB.kp {w w' : World} {b : Nat} (h : SB w b) (hk : Kp w w') : SB w' b := by unfold SB; rw [hk b h]; exact h
theorem SB.oth {w w' : World} {b bw : Nat} (h : SB w b) (hk : Oth bw w w') (hb : b ≠ bw) : SB w' b := by unfold SB; rw [hk.block b hb]; exact h
theorem owns_oth {w w' : World} {base bw e size : Nat} {v : Value} {n : Nat} {xs : List Value} (h : w.ownsRow base e size v n xs) (hk : Oth bw w w') (hb : v.ownBlock ≠ some bw) : w'.ownsRow base e size v n xs := by
  refine ⟨h.1, ?_⟩; rcases h.2 with h | ⟨g, cap, cur, rfl, h2, h3, h4⟩
  · exact .inl h
  · refine .inr ⟨g, cap, cur, rfl, h2, ?_, h4⟩; rw [hk.block g (fun e => hb (by rw [e]; rfl))]; exact h3
theorem own_ne {w : World} {base bw : Nat} {v : Value} {n : Nat} {xs : List Value} (h : w.ownsRow base 5 1 v n xs) (hs : SB w bw) : v.ownBlock ≠ some bw := by
  intro e; obtain ⟨X, t, fz, hb, hne⟩ := hs; rcases h.2 with ⟨rfl, _⟩ | ⟨g, c, cur, rfl, _, h3, _⟩
  · simp [Value.ownBlock] at e
  · simp only [Value.ownBlock, Option.some.injEq] at e; rw [e, hb] at h3; simp at h3; exact hne.1 h3.2.1
theorem WSt.kp {W W' : World} {b c p s bi : Nat} {g : Bool} (h : WSt W b c p s bi g) (hk : Kp W W') : WSt W' b c p s bi g := by
  have e := hk b h.sb; exact ⟨by rw [World.cell?_of_block (w := W) (by exact e)]; exact h.c0, by rw [World.cell?_of_block (w := W) (by exact e)]; exact h.c1, by rw [World.cell?_of_block (w := W) (by exact e)]; exact h.c2, by rw [World.cell?_of_block (w := W) (by exact e)]; exact h.c3, by rw [World.cell?_of_block (w := W) (by exact e)]; exact h.c4,
    by rw [World.frozen?_of_block (w := W) (by exact e)]; exact h.f0, by rw [World.frozen?_of_block (w := W) (by exact e)]; exact h.f1, by rw [World.frozen?_of_block (w := W) (by exact e)]; exact h.f2, by rw [World.frozen?_of_block (w := W) (by exact e)]; exact h.f3, by rw [World.frozen?_of_block (w := W) (by exact e)]; exact h.f4, by unfold SB; rw [e]; exact h.sb⟩
theorem WSt.s0 {W : World} {b c p s bi : Nat} {g : Bool} (h : WSt W b c p s bi g) (v : Nat) : WSt (W.setCell ⟨b, 0, none⟩ (.int .i64 (v : Int))) b v p s bi g :=
  ⟨World.cell?_setCell_same _ _ _ h.c0, by rw [World.cell?_setCell_other _ _ _ _ (by intro e; simp only [Addr.mk.injEq] at e; omega)]; exact h.c1, by rw [World.cell?_setCell_other _ _ _ _ (by intro e; simp only [Addr.mk.injEq] at e; omega)]; exact h.c2, by rw [World.cell?_setCell_other _ _ _ _ (by intro e; simp only [Addr.mk.injEq] at e; omega)]; exact h.c3, by rw [World.cell?_setCell_other _ _ _ _ (by intro e; simp only [Addr.mk.injEq] at e; omega)]; exact h.c4, by rw [World.frozen?_setCell]; exact h.f0, by rw [World.frozen?_setCell]; exact h.f1, by rw [World.frozen?_setCell]; exact h.f2, by rw [World.frozen?_setCell]; exact h.f3, by rw [World.frozen?_setCell]; exact h.f4, h.sb.setCell _ _⟩
theorem WSt.s1 {W : World} {b c p s bi : Nat} {g : Bool} (h : WSt W b c p s bi g) (v : Nat) : WSt (W.setCell ⟨b, 1, none⟩ (.int .i64 (v : Int))) b c v s bi g :=
  ⟨by rw [World.cell?_setCell_other _ _ _ _ (by intro e; simp only [Addr.mk.injEq] at e; omega)]; exact h.c0, World.cell?_setCell_same _ _ _ h.c1, by rw [World.cell?_setCell_other _ _ _ _ (by intro e; simp only [Addr.mk.injEq] at e; omega)]; exact h.c2, by rw [World.cell?_setCell_other _ _ _ _ (by intro e; simp only [Addr.mk.injEq] at e; omega)]; exact h.c3, by rw [World.cell?_setCell_other _ _ _ _ (by intro e; simp only [Addr.mk.injEq] at e; omega)]; exact h.c4, by rw [World.frozen?_setCell]; exact h.f0, by rw [World.frozen?_setCell]; exact h.f1, by rw [World.frozen?_setCell]; exact h.f2, by rw [World.frozen?_setCell]; exact h.f3, by rw [World.frozen?_setCell]; exact h.f4, h.sb.setCell _ _⟩
theorem WSt.s2 {W : World} {b c p s bi : Nat} {g : Bool} (h : WSt W b c p s bi g) (v : Nat) : WSt (W.setCell ⟨b, 2, none⟩ (.int .i64 (v : Int))) b c p v bi g :=
  ⟨by rw [World.cell?_setCell_other _ _ _ _ (by intro e; simp only [Addr.mk.injEq] at e; omega)]; exact h.c0, by rw [World.cell?_setCell_other _ _ _ _ (by intro e; simp only [Addr.mk.injEq] at e; omega)]; exact h.c1, World.cell?_setCell_same _ _ _ h.c2, by rw [World.cell?_setCell_other _ _ _ _ (by intro e; simp only [Addr.mk.injEq] at e; omega)]; exact h.c3, by rw [World.cell?_setCell_other _ _ _ _ (by intro e; simp only [Addr.mk.injEq] at e; omega)]; exact h.c4, by rw [World.frozen?_setCell]; exact h.f0, by rw [World.frozen?_setCell]; exact h.f1, by rw [World.frozen?_setCell]; exact h.f2, by rw [World.frozen?_setCell]; exact h.f3, by rw [World.frozen?_setCell]; exact h.f4, h.sb.setCell _ _⟩
theorem WSt.s3 {W : World} {b c p s bi : Nat} {g : Bool} (h : WSt W b c p s bi g) (v : Nat) : WSt (W.setCell ⟨b, 3, none⟩ (.int .i64 (v : Int))) b c p s v g :=
  ⟨by rw [World.cell?_setCell_other _ _ _ _ (by intro e; simp only [Addr.mk.injEq] at e; omega)]; exact h.c0, by rw [World.cell?_setCell_other _ _ _ _ (by intro e; simp only [Addr.mk.injEq] at e; omega)]; exact h.c1, by rw [World.cell?_setCell_other _ _ _ _ (by intro e; simp only [Addr.mk.injEq] at e; omega)]; exact h.c2, World.cell?_setCell_same _ _ _ h.c3, by rw [World.cell?_setCell_other _ _ _ _ (by intro e; simp only [Addr.mk.injEq] at e; omega)]; exact h.c4, by rw [World.frozen?_setCell]; exact h.f0, by rw [World.frozen?_setCell]; exact h.f1, by rw [World.frozen?_setCell]; exact h.f2, by rw [World.frozen?_setCell]; exact h.f3, by rw [World.frozen?_setCell]; exact h.f4, h.sb.setCell _ _⟩
theorem WSt.s4 {W : World} {b c p s bi : Nat} {g : Bool} (h : WSt W b c p s bi g) (v : Bool) : WSt (W.setCell ⟨b, 4, none⟩ (.bool v)) b c p s bi v :=
  ⟨by rw [World.cell?_setCell_other _ _ _ _ (by intro e; simp only [Addr.mk.injEq] at e; omega)]; exact h.c0, by rw [World.cell?_setCell_other _ _ _ _ (by intro e; simp only [Addr.mk.injEq] at e; omega)]; exact h.c1, by rw [World.cell?_setCell_other _ _ _ _ (by intro e; simp only [Addr.mk.injEq] at e; omega)]; exact h.c2, by rw [World.cell?_setCell_other _ _ _ _ (by intro e; simp only [Addr.mk.injEq] at e; omega)]; exact h.c3, World.cell?_setCell_same _ _ _ h.c4, by rw [World.frozen?_setCell]; exact h.f0, by rw [World.frozen?_setCell]; exact h.f1, by rw [World.frozen?_setCell]; exact h.f2, by rw [World.frozen?_setCell]; exact h.f3, by rw [World.frozen?_setCell]; exact h.f4, h.sb.setCell _ _⟩
theorem WSt.drewN {W : World} {b c p s bi : Nat} {g : Bool} (h : WSt W b c p s bi g) (n : Nat) : WSt (W.drewN n) b c p s bi g := ⟨h.c0, h.c1, h.c2, h.c3, h.c4, h.f0, h.f1, h.f2, h.f3, h.f4, h.sb⟩
theorem WSt.drew {W : World} {b c p s bi : Nat} {g : Bool} (h : WSt W b c p s bi g) : WSt W.drew b c p s bi g := h.drewN 1
set_option maxHeartbeats 1000000 in
set_option maxRecDepth 100000 in
theorem deltaTo_any (W : World) (b c p s bi : Nat) (g : Bool) (code place d : Nat) (h : WSt W b c p s bi g) (hc : c ≤ code) (hcode : code ≤ 1114111) (hs : s ≤ 63) (hp : p ≤ 64) (hpl : place ≤ 64) (hd : (code - c) * (s + 1) + place = d + p) :
    Calls Tryz.prog 169 #[.pointer (some ⟨b, 0, none⟩), .int .i64 (code : Int), .int .i64 (place : Int)] W fun e w' => e = .returned (.int .i64 (d : Int)) ∧ ∃ q, w' = W.drewN q := by
  obtain ⟨c0, c1, c2, c3, c4, f0, f1, f2, f3, f4, sb⟩ := h; obtain ⟨m0, hm0⟩ : ∃ m, m = (code - c) * (s + 1) := ⟨_, rfl⟩; have hm1 : m0 ≤ 1114111 * 64 := by rw [hm0]; exact Nat.mul_le_mul (by omega) (by omega)
  have e1 : ((code : Int) - (c : Int)) * ((s : Int) + 1) = (m0 : Int) := by
    rw [hm0, Int.natCast_mul, Int.natCast_sub hc]; simp
  have HD : Hid ((m0 : Int) + (place : Int) - (p : Int) = (d : Int)) := (show (m0 : Int) + (place : Int) - (p : Int) = (d : Int) by omega); clear hm0 hd; go_enter Tryz.func169, Tryz.ntmps169; go_wp2_with fail
  go_quiet (fail)
  go_wp2; go_ret; rw [unhide HD]; exact ⟨rfl, nq, rfl⟩
set_option maxHeartbeats 2000000 in
set_option maxRecDepth 100000 in
theorem move_any (W : World) (b c p s bi : Nat) (g : Bool) (delta : Nat) (h : WSt W b c p s bi g) (hc : c ≤ 1000000000000) (hs : s ≤ 1000) (hp : p ≤ 1000) (hd : delta ≤ 1000000000000) :
    Calls Tryz.prog 172 #[.pointer (some ⟨b, 0, none⟩), .int .i64 (delta : Int)] W fun e w' =>
      e = .returned (.tuple #[.int .i64 ((c + (p + delta) / (s + 1) : Nat) : Int), .int .i64 (((p + delta) % (s + 1) : Nat) : Int)]) ∧ WSt w' b (c + (p + delta) / (s + 1)) ((p + delta) % (s + 1) + 1) (s + 1) (adp delta (s + 1) (!g)) true ∧ Oth b W w' := by
  have HW := hide h; obtain ⟨c0, c1, c2, c3, c4, f0, f1, f2, f3, f4, sb⟩ := h; have q1 : ((p : Int) + (delta : Int)) / ((s : Int) + 1) = (((p + delta) / (s + 1) : Nat) : Int) := by simp
  have q2 : ((p : Int) + (delta : Int)).tdiv ((s : Int) + 1) = (((p + delta) / (s + 1) : Nat) : Int) := by
    rw [Int.tdiv_eq_ediv_of_nonneg (by omega)]; exact q1
  have q3 : ((p : Int) + (delta : Int)) % ((s : Int) + 1) = (((p + delta) % (s + 1) : Nat) : Int) := by simp
  have q4 : ((p : Int) + (delta : Int)).tmod ((s : Int) + 1) = (((p + delta) % (s + 1) : Nat) : Int) := by
    rw [Int.tmod_eq_emod_of_nonneg (by omega)]; exact q3
  have l1 : (p + delta) / (s + 1) ≤ p + delta := Nat.div_le_self _ _; have l2 : (p + delta) % (s + 1) < s + 1 := Nat.mod_lt _ (by omega); generalize (p + delta) / (s + 1) = Q at *; generalize (p + delta) % (s + 1) = M at *; have hA := fun w => padapt_any delta (s + 1) (!g) w (by omega) (by omega) (by omega); have hAl := adp_le delta (s + 1) (!g); generalize adp delta (s + 1) (!g) = A at *; rw [show (((s + 1 : Nat)) : Int) = (s : Int) + 1 by omega] at hA; go_enter Tryz.func172, Tryz.ntmps172; go_wp2_with fail
  go_quiet (fail)
  go_wp2_with fail
  have h2 := (((((unhide HW).drewN nq).s0 (c + Q)).s1 (M + 1)).s2 (s + 1)); have o2 := ((((Oth.refl b W).drewN nq).setCell 0 (.int .i64 ((c + Q : Nat) : Int))).setCell 1 (.int .i64 ((M + 1 : Nat) : Int))).setCell 2 (.int .i64 ((s + 1 : Nat) : Int)); rw [show ((c + Q : Nat) : Int) = (c : Int) + (Q : Int) by omega, show ((M + 1 : Nat) : Int) = (M : Int) + 1 by omega, show ((s + 1 : Nat) : Int) = (s : Int) + 1 by omega] at h2 o2; clear c0 c1 c2 c3 c4 f0 f1 f2 f3 f4 sb HW q1 q2 q3 q4; generalize (((W.drewN nq).setCell ⟨b, 0, none⟩ (Value.int IntKind.i64 ((c : Int) + (Q : Int)))).setCell ⟨b, 1, none⟩ (Value.int IntKind.i64 ((M : Int) + 1))).setCell ⟨b, 2, none⟩ (Value.int IntKind.i64 ((s : Int) + 1)) = W2 at *; have HW := hide h2; have HO := hide o2; obtain ⟨c0, c1, c2, c3, c4, f0, f1, f2, f3, f4, sb⟩ := h2; rw [show ((s + 1 : Nat) : Int) = (s : Int) + 1 by omega] at c2; clear c0 c1 f0 f1 f2 o2 sb
  go_region_with (go_at_call 199; refine (hA _).mono ?_; rintro e w' ⟨rfl, rfl⟩)
  all_goals
    have h3 := ((unhide HW).s3 A).drew; have o3 := ((unhide HO).setCell 3 (.int .i64 (A : Int))).drewN 1; have HW3 := hide h3; have HO3 : Hid (Oth b W (W2.setCell ⟨b, 3, none⟩ (Value.int IntKind.i64 (A : Int))).drew) := hide o3; have d4 := h3.c4; have e4 := h3.f4; clear h3 o3 HW HO c2 c3 c4 f3 f4; generalize (W2.setCell ⟨b, 3, none⟩ (Value.int IntKind.i64 (A : Int))).drew = W3 at *; go_wp2; go_ret2; exact ⟨by simp, (unhide HW3).s4 true, (unhide HO3).setCell 4 (.bool true)⟩
set_option maxHeartbeats 1000000 in
set_option maxRecDepth 100000 in
theorem newWalk_any (size : Nat) (w : World) : Calls Tryz.prog 167 #[.int .i64 (size : Int)] w fun e w' => e = .returned (.agg #[.int .i64 128, .int .i64 0, .int .i64 (size : Int), .int .i64 72, .bool false]) ∧ Ext w w' := by
  go_enter Tryz.func167, Tryz.ntmps167; go_wp2; go_returns; exact ⟨rfl, Ext.alloc w _⟩
end Go.Proofs.YtenlampiiodkhaaGreatDoor
