/-
  The library's Insert of one code point into a row of the call's own, wherever.
-/
import Derived.Test.YtenlampiiodkhaaGreatDoorDecIm
namespace Go.Proofs.YtenlampiiodkhaaGreatDoor
set_option linter.unusedVariables false
open Go.RowKit Go.Proofs

theorem Kp.grownR {w w' : World} {base : Nat} {v : Value} {n : Nat} {xs : List Value} (h : w.ownsRow base 21 1 v n xs) (hg : w.grownBy w' v.ownBlock) : Kp w w' := fun b hb => by
  refine hg.block b hb.lt fun e => ?_
  obtain ⟨X, t, fz, hb, hne⟩ := hb
  rcases h.2 with ⟨rfl, _⟩ | ⟨g, c, cur, rfl, _, h3, _⟩
  · simp [Value.ownBlock] at e
  · simp only [Value.ownBlock, Option.some.injEq] at e
    rw [← e, hb] at h3
    simp at h3
    exact hne.2 h3.2.1
theorem Kp.othR {w w' : World} {g : Nat} {cur : Array Value} (hb : w.heap[g]? = some (.cells cur 21 (0, 0))) (h : Oth g w w') : Kp w w' := fun b hs => by
  refine h.block b fun e => ?_
  obtain ⟨X, t, fz, hb', hne⟩ := hs
  rw [e, hb] at hb'
  simp at hb'
  exact hne.2 hb'.2.1.symm

theorem wpList_appR {w : World} {ops : Array Oper} {rest : List Oper} {o : Oper} {a : Act} {Q : Exit → Act → World → Prop} (hgd : o.guard = none) (s x : Operand) (t : TypeId)
    (hT : Tryz.prog.underlying t = some (.slice 21)) (ho : o.op = .call { callee := .builtin .append, args := #[s, x], argTypes := #[t, t] })
    (base : Nat) (v : Value) (n : Nat) (xs : List Value) (hs : a.eval s = v) (hown : w.ownsRow base 21 1 v n xs)
    (ad : Addr) (m c : Nat) (ys : List Value) (hx : a.eval x = .slice (some ad) m c) (hl : ys.length = m) (hr : RdV w (some ad) c ys) (hone : ∀ u ∈ ys, u.oneCell' = true) (hb : (n + m) * 5 ≤ 140737488355328) (hbase : base ≤ w.heap.size)
    (h : ∀ v' w', w'.ownsRow base 21 1 v' (n + m) (xs ++ ys) → Below base w w' → Kp w w' → wpList Tryz.prog ops Q rest (a.put o.dst v') w') : wpList Tryz.prog ops Q (o :: rest) a w := by
  obtain ⟨i0, hi, hz0, hz1, hz2⟩ := info_parts infoR
  refine wpList_append_own _ hgd s x t ho base 21 i0 (.int .i32 0) 1 4 hT hi hz0 hz1 hz2 rfl (by decide) v n xs hs hown ad m c ys hx (by omega) (hr.news ad rfl) hone (by unfold maxLen; omega) (by omega) hbase ?_
  intro v' w' h1 h2 _
  exact h v' w' h1 ((Below.refl _ _).grown h2 hbase (fun t ht => (hown.lt t ht).1)) (Kp.grownR hown h2)

def TellsI (base : Nat) (w : World) (ys : List Value) (e : Ending) (w' : World) : Prop := ∃ v, e = .returned v ∧ w'.ownsRow base 21 1 v ys.length ys ∧ Below base w w' ∧ Kp w w'

set_option maxHeartbeats 2000000 in
set_option maxRecDepth 100000 in
theorem insert_any (base : Nat) (ao : Option Addr) (n cap i vb : Nat) (xs : List Value) (u : Value) (w : World) (hown : w.ownsRow base 21 1 (.slice ao n cap) n xs) (hbase : base ≤ w.heap.size) (hn : n ≤ 100) (hi : i ≤ n) (h1c : ∀ v ∈ xs, v.oneCell' = true) (h1v : u.oneCell' = true)
    (hvb : w.heap[vb]? = some (.cells #[u] 21 (0, 0))) (hne : (Value.slice ao n cap).ownBlock ≠ some vb) :
    Calls Tryz.prog 177 #[.slice ao n cap, .int .i64 (i : Int), .slice (some ⟨vb, 0, none⟩) 1 1] w (TellsI base w (xs.take i ++ u :: xs.drop i)) := by
  have hxl : xs.length = n := by have := hown.1; omega
  have hvc : w.cell? ⟨vb, 0, none⟩ = some u := by simp [World.cell?, hvb]
  have hyl : (xs.take i ++ u :: xs.drop i).length = n + 1 := by simp; omega
  by_cases hin : i = n
  · subst hin
    have hRv : RdV w (some ⟨vb, 0, none⟩) 1 [u] := ⟨by simp, by omega, fun e => (by cases e), fun j hj => ⟨vb, 0, rfl, by
      have hj0 : j = 0 := by simpa using hj
      subst hj0
      exact hvc⟩⟩
    have hone : ∀ v ∈ [u], v.oneCell' = true := by simpa using h1v
    have HY : Hid (xs.take i ++ u :: xs.drop i = xs ++ [u]) := by rw [List.take_of_length_le (by omega), List.drop_of_length_le (by omega)]; exact hide rfl
    have hRd := RdV.of_owned_at hown
    have hle := hRd.le
    have hmx := hRd.max
    have hnil := hRd.nil
    simp only [hxl] at hle
    clear hRd
    unfold TellsI
    rw [unhide HY]
    clear hyl HY
    go_enter Tryz.func177, Tryz.ntmps177
    cases ao with
    | none =>
      have h0 := hnil rfl
      subst h0
      have h00 : i = 0 := by omega
      subst h00
      go_wp2_with (at_builtin; refine wpList_appR rfl (.tmp 23) (.tmp 24) 45 Tryz.underlying45 rfl base _ _ _ rfl hown _ _ _ [u] rfl rfl hRv hone (by omega) hbase ?_)
      intro v2 w2 o2 b2 k2
      go_wp2
      go_ret
      exact ⟨_, rfl, by simpa [hxl] using o2, b2, k2⟩
    | some ad =>
      obtain ⟨g, go, gs⟩ := ad
      go_wp2_with (at_builtin; refine wpList_appR rfl (.tmp 23) (.tmp 24) 45 Tryz.underlying45 rfl base _ _ _ rfl hown _ _ _ [u] rfl rfl hRv hone (by omega) hbase ?_)
      all_goals
        intro v2 w2 o2 b2 k2
        go_wp2
        go_ret
        exact ⟨_, rfl, by simpa [hxl] using o2, b2, k2⟩
  · rcases hown.2 with ⟨h1, h2⟩ | ⟨g, cap', cur, h1, hg, hb, hl, hmx, hcs, htk⟩
    · omega
    · simp only [Value.slice.injEq] at h1
      obtain ⟨rfl, _, rfl⟩ := h1
      have hgv : vb ≠ g := fun e => hne (by rw [e]; rfl)
      have hcell : ∀ j v, xs[j]? = some v → w.cell? ⟨g, 0 + j, none⟩ = some v := fun j v hj => by
        have hjn : j < n := by have := (List.getElem?_eq_some_iff.1 hj).1; omega
        rw [Nat.zero_add, ← hj, ← htk, List.getElem?_take, if_pos (by omega)]
        simp [World.cell?, hb]
      by_cases hroom : n + 1 ≤ cap
      · have hall : ∀ j, j < n + 1 → (w.cell? ⟨g, 0 + j, none⟩).isSome = true := fun j hj => by
          rw [Nat.zero_add]
          have : j < cur.size := by omega
          simp [World.cell?, hb, this]
        have hfr : ∀ j, j < n + 1 → w.frozen? ⟨g, 0 + j, none⟩ = false := fun j hj => by
          rw [Nat.zero_add]
          exact hown.frozenAt j
        refine (ins_shift g 0 n cap i vb 0 1 xs u w (by omega) hroom (by unfold maxLen at hmx; omega) hgv hxl hcell hall hfr hvc h1c h1v 21 21 1 cur.size (by simp [World.shape?, hvb]) (by simp [World.shape?, hb]) (by omega) (by simp [World.frozen?, hvb]) (by simp [World.frozen?, hvb])).mono ?_
        rintro e w' ⟨rfl, rfl⟩
        obtain ⟨c1, e1, s1⟩ := block_setCells (g := g) (xs.drop i) (0 + (i + 1)) w.drew cur hb
        obtain ⟨c2, e2, s2⟩ := block_setCells (g := g) [u] (0 + i) _ c1 e1
        have hO : Oth g w ((w.drew.setCells g (0 + (i + 1)) (xs.drop i)).setCells g (0 + i) [u]) := oth_setCells _ _ _ (oth_setCells _ _ _ ((Oth.refl g w).drewN 1))
        refine ⟨_, rfl, ?_, hO.below (Below.refl _ _) hg, Kp.othR hb hO⟩
        rw [hyl]
        refine own_of_cells hg e2 (by omega) hroom hmx hyl fun j hj => ?_
        simp only [Nat.zero_add] at *
        have hin1 : ∀ j, j < (xs.drop i).length → (w.drew.cell? ⟨g, i + 1 + j, none⟩).isSome = true := fun j hj => hall _ (by simp at hj; omega)
        by_cases hji : j = i
        · subst hji
          have := World.cell?_setCells_in g [u] j (w.drew.setCells g (j + 1) (xs.drop j)) (fun q hq => by
            have : q = 0 := by simpa using hq
            subst this
            rw [Nat.add_zero, World.cell?_setCells_out g _ _ _ _ (fun _ _ => .inl (by show j < j + 1; omega))]
            exact hall _ (by omega)) 0 (by simp)
          refine (show _ = _ from this).trans ?_
          have hl2 : (xs.take j).length = j := by simp; omega
          rw [List.getElem?_append_right (by omega), hl2, Nat.sub_self]
          rfl
        · rw [World.cell?_setCells_out g [u] i _ ⟨g, j, none⟩ (fun _ _ => by show j < i ∨ i + 1 ≤ j; omega)]
          by_cases hlt : j < i
          · rw [World.cell?_setCells_out g _ _ _ ⟨g, j, none⟩ (fun _ _ => .inl (by show j < i + 1; omega)), List.getElem?_append_left (by simp; omega), List.getElem?_take, if_pos hlt]
            have hjx : j < xs.length := by omega
            rw [List.getElem?_eq_getElem hjx]
            exact hcell j _ (List.getElem?_eq_getElem hjx)
          · have := World.cell?_setCells_in g (xs.drop i) (i + 1) w.drew hin1 (j - (i + 1)) (by simp; omega)
            rw [show i + 1 + (j - (i + 1)) = j by omega] at this
            rw [this]
            have hl2 : (xs.take i).length = i := by simp; omega
            rw [List.getElem?_append_right (by omega), hl2, show j - i = (j - (i + 1)) + 1 by omega, List.getElem?_cons_succ, List.getElem?_eq_getElem (by simp; omega)]
      · refine (ins_grow g 0 n cap i vb 0 1 xs u w (by omega) hl (by omega) (by omega) hxl hcell hvc h1c h1v).mono ?_
        rintro e w' ⟨G, ROW, hG1, hG2, hRs, hRf, rfl, rfl⟩
        have hb0 : ((w.alloc (.cells ROW 21)).drew).heap[w.heap.size]? = some (.cells ROW 21 (0, 0)) := by
          show (w.heap.push _)[w.heap.size]? = _
          rw [Array.getElem?_push, if_pos rfl]
        obtain ⟨c1, e1, s1⟩ := block_setCells (g := w.heap.size) [u] i _ ROW hb0
        obtain ⟨c2, e2, s2⟩ := block_setCells (g := w.heap.size) (xs.drop i) (i + 1) (((w.alloc (.cells ROW 21)).drew.setCells w.heap.size i [u]).drew) c1 e1
        have hO : Oth w.heap.size (w.alloc (.cells ROW 21)) ((((w.alloc (.cells ROW 21)).drew.setCells w.heap.size i [u]).drew).setCells w.heap.size (i + 1) (xs.drop i)) :=
          oth_setCells _ _ _ ((oth_setCells _ _ _ ((Oth.refl _ _).drewN 1)).drewN 1)
        have hE : Ext w ((((w.alloc (.cells ROW 21)).drew.setCells w.heap.size i [u]).drew).setCells w.heap.size (i + 1) (xs.drop i)) := hO.below (Ext.alloc w _) (Nat.le_refl _)
        refine ⟨_, rfl, ?_, Below.mono hE hbase, Kp.of_ext hE⟩
        rw [hyl]
        have hrow : ∀ j, j < G → (w.alloc (.cells ROW 21)).cell? ⟨w.heap.size, j, none⟩ = ROW[j]? := fun j hj => by
          rw [World.cell?_alloc_mark]
        refine own_of_cells hbase e2 (by omega) hG2 hG1 hyl fun j hj => ?_
        have hsome : ∀ j, j < n + 1 → ((w.alloc (.cells ROW 21)).drew.cell? ⟨w.heap.size, j, none⟩).isSome = true := fun j hj => by
          show ((w.alloc (.cells ROW 21)).cell? ⟨w.heap.size, j, none⟩).isSome = true
          rw [hrow j (by omega), Array.getElem?_eq_getElem (by omega)]
          rfl
        have h1s : ∀ q, q < [u].length → (((w.alloc (.cells ROW 21)).drew).cell? ⟨w.heap.size, i + q, none⟩).isSome = true := fun q hq => hsome _ (by simp at hq; omega)
        have hl2 : (xs.take i).length = i := by simp; omega
        by_cases hge : i + 1 ≤ j
        · have := World.cell?_setCells_in w.heap.size (xs.drop i) (i + 1) (((w.alloc (.cells ROW 21)).drew.setCells w.heap.size i [u]).drew) (fun q hq => by
            show (((w.alloc (.cells ROW 21)).drew.setCells w.heap.size i [u]).cell? ⟨w.heap.size, i + 1 + q, none⟩).isSome = true
            exact isSome_setCells _ _ _ _ h1s _ (hsome _ (by simp at hq; omega))) (j - (i + 1)) (by simp; omega)
          rw [show i + 1 + (j - (i + 1)) = j by omega] at this
          rw [this, List.getElem?_append_right (by omega), hl2, show j - i = (j - (i + 1)) + 1 by omega, List.getElem?_cons_succ, List.getElem?_eq_getElem (by simp; omega)]
        · rw [World.cell?_setCells_out w.heap.size _ _ _ ⟨w.heap.size, j, none⟩ (fun _ _ => .inl (by show j < i + 1; omega))]
          show ((w.alloc (.cells ROW 21)).drew.setCells w.heap.size i [u]).cell? ⟨w.heap.size, j, none⟩ = _
          by_cases hji : j = i
          · subst hji
            have := World.cell?_setCells_in w.heap.size [u] j ((w.alloc (.cells ROW 21)).drew) h1s 0 (by simp)
            refine (show _ = _ from this).trans ?_
            rw [List.getElem?_append_right (by omega), hl2, Nat.sub_self]
            rfl
          · rw [World.cell?_setCells_out w.heap.size _ _ _ ⟨w.heap.size, j, none⟩ (fun _ _ => .inl (by show j < i; omega))]
            show (w.alloc (.cells ROW 21)).cell? ⟨w.heap.size, j, none⟩ = _
            rw [hrow j (by omega), hRf j (by omega), List.getElem?_append_left (by omega), List.getElem?_take, if_pos (by omega)]
end Go.Proofs.YtenlampiiodkhaaGreatDoor
