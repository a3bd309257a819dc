/-
  DecI, DecJ.
-/
import Derived.Test.YtenlampiiodkhaaGreatDoorEncBc
import Derived.Shelf.Spec.SlicesInsertGrow
import Derived.Deep.RegionLaw
namespace Go.Proofs.YtenlampiiodkhaaGreatDoor
set_option linter.unusedVariables false
open Go.RowKit Go.Proofs
theorem sizeR (w : World) : (Go.sizeOf 21).run Tryz.prog w = .ok 1 w := Tryz.sizeOf21 w
theorem block_setCells {g : Nat} {t : TypeId} {fz : Nat × Nat} : ∀ (vs : List Value) (o : Nat) (w : World) (cur : Array Value), w.heap[g]? = some (.cells cur t fz) → ∃ cur', (w.setCells g o vs).heap[g]? = some (.cells cur' t fz) ∧ cur'.size = cur.size
  | [], o, w, cur, h => ⟨cur, h, rfl⟩
  | v :: vs, o, w, cur, h => by
    have h1 : (w.setCell ⟨g, o, none⟩ v).heap[g]? = some (.cells (cur.setIfInBounds o v) t fz) := by simp [World.setCell, Array.getElem?_modify, h]
    obtain ⟨cur', e1, e2⟩ := block_setCells vs (o + 1) _ _ h1; exact ⟨cur', e1, by rw [e2]; simp⟩
theorem oth_setCells {g : Nat} {w0 : World} : ∀ (vs : List Value) (o : Nat) (w : World), Oth g w0 w → Oth g w0 (w.setCells g o vs)
  | [], o, w, h => h
  | v :: vs, o, w, h => oth_setCells vs (o + 1) _ (h.setCell o v)
theorem own_of_cells {w : World} {base g cap m : Nat} {cur : Array Value} {ys : List Value} (hg : base ≤ g) (hb : w.heap[g]? = some (.cells cur 21 (0, 0))) (hc : cur.size = cap) (hm : m ≤ cap) (hmx : cap ≤ maxLen) (hl : ys.length = m)
    (h : ∀ j, j < m → w.cell? ⟨g, j, none⟩ = ys[j]?) : w.ownsRow base 21 1 (.slice (some ⟨g, 0, none⟩) m cap) m ys := by
  refine ⟨by omega, .inr ⟨g, cap, cur, rfl, hg, hb, hm, hmx, by omega, ?_⟩⟩; apply List.ext_getElem?; intro j; rw [List.getElem?_take, Nat.mul_one]; by_cases hj : j < m
  · rw [if_pos hj, ← h j hj]; simp [World.cell?, hb]
  · rw [if_neg hj, List.getElem?_eq_none (by omega)]
theorem sizeI : (Tryz.prog.info? 21).map (·.size) = some 1 := by kernel_rfl
set_option maxHeartbeats 4000000 in
set_option maxRecDepth 100000 in
theorem ins_shift (b off n c i vb voff vc : Nat) (cs : List Value) (u : Value) (w : World) (hi : i < n) (hroom : n + 1 ≤ c) (hc63 : c ≤ 9223372036854775807) (hvb : vb ≠ b) (hcl : cs.length = n)
    (hcs : ∀ j v, cs[j]? = some v → w.cell? ⟨b, off + j, none⟩ = some v) (hsp : ∀ j, j < n + 1 → (w.cell? ⟨b, off + j, none⟩).isSome = true) (hfz : ∀ j, j < n + 1 → w.frozen? ⟨b, off + j, none⟩ = false)
    (hvs : w.cell? ⟨vb, voff, none⟩ = some u) (h1c : ∀ v ∈ cs, v.oneCell' = true) (h1v : u.oneCell' = true)
    (tA tB : TypeId) (kA kB : Nat) (hsa : w.shape? vb = some (tA, kA)) (hsb : w.shape? b = some (tB, kB)) (hkB : kB ≠ 0) (hfa : w.frozen? ⟨vb, voff, none⟩ = false) (hfe : w.frozen? ⟨vb, kA, none⟩ = false) :
    Calls Tryz.prog 177 #[.slice (some ⟨b, off, none⟩) n c, .int .i64 i, .slice (some ⟨vb, voff, none⟩) 1 vc] w fun e w' =>
      e = .returned (.slice (some ⟨b, off, none⟩) (n + 1) c) ∧ w' = (w.drew.setCells b (off + (i + 1)) (cs.drop i)).setCells b (off + i) [u] := by
  have hz2 : ¬ ((i : Int) = (n : Int)) := by omega
  have hvs' : ∀ j v, [u][j]? = some v → w.cell? ⟨vb, voff + j, none⟩ = some v := fun j v hj => by
    cases j with
    | zero => simp at hj; subst hj; exact hvs
    | succ j => simp at hj
  have hov : ∀ lb cb, (callFunc 202 #[.slice (some ⟨vb, voff, none⟩) 1 vc, .slice (some ⟨b, off + (i + 1), none⟩) lb cb]).run Tryz.prog w = .ok (.value (.bool false)) w := fun lb cb => by
    rw [run_callFunc_extern Tryz.func202 (by kernel_rfl) (by kernel_rfl) (by kernel_rfl) (e := Extern.SlicesOverlaps.overlaps #[45, 45] #[4]) (by kernel_rfl),
      Lib.run_overlaps_apart w 45 4 21 Tryz.underlying45 1 sizeR ⟨vb, voff, none⟩ ⟨b, off + (i + 1), none⟩ 1 vc lb cb hvb tA tB kA kB hsa hsb hkB hfa hfe]
    rfl
  have hdl : (cs.drop i).length = n - i := by rw [List.length_drop, hcl]
  have hw1 : IntKind.i64.wrap ((i : Int) + 1) = (i : Int) + 1 := by rw [IntKind.wrap_i64]; omega
  have hb1 : (0 : Int) ≤ (i : Int) + 1 := by omega
  have hin : i ≤ n := by omega
  have htn : ((i : Int) + 1).toNat = i + 1 := by omega
  have hb2 : ¬ (c = i + 1) := by omega
  have hb3 : (i : Int) ≤ (n : Int) + 1 := by omega
  have hb4 : ¬ (c = i) := by omega
  have hcp1 : ∀ ty dc sc, (Builtin.copy_ #[45, 45] ty #[.slice (some ⟨b, off + (i + 1), none⟩) (n - i) dc, .slice (some ⟨b, off + i, none⟩) (n + 1 - i) sc]).run Tryz.prog w.drew = .ok (goInt (cs.drop i).length) (w.drew.setCells b (off + (i + 1)) (cs.drop i)) := fun ty dc sc =>
    run_copy_cells w.drew _ _ ty 21 b (off + (i + 1)) (n - i) dc ⟨b, off + i, none⟩ (n + 1 - i) sc (cs.drop i) Tryz.underlying45 sizeI (by rw [hdl]; simp only [Nat.min_def]; split <;> omega)
      (fun j v hj => by rw [Addr.add_lit, Nat.add_assoc]; exact hcs (i + j) v (by rwa [List.getElem?_drop] at hj))
      (fun j hj => by rw [Nat.add_assoc]; exact hsp _ (by omega)) (fun j hj => by rw [Nat.add_assoc]; exact hfz _ (by omega)) (fun v hv => h1c v (List.mem_of_mem_drop hv))
  obtain ⟨W1, hW1⟩ : ∃ W1, W1 = w.drew.setCells b (off + (i + 1)) (cs.drop i) := ⟨_, rfl⟩; have hsp1 : ∀ k, k < n + 1 → (W1.cell? ⟨b, off + k, none⟩).isSome = true := fun k hk => by
    rw [hW1]; exact isSome_setCells b _ _ _ (fun j hj => by rw [Nat.add_assoc]; exact hsp _ (by omega)) _ (hsp k hk)
  have hcp2 : ∀ (W : World), (∀ x, W.cell? x = W1.cell? x) → (∀ x, W.frozen? x = W1.frozen? x) → ∀ ty dc, (Builtin.copy_ #[45, 45] ty #[.slice (some ⟨b, off + i, none⟩) (n + 1 - i) dc, .slice (some ⟨vb, voff, none⟩) 1 vc]).run Tryz.prog W = .ok (goInt [u].length) (W.setCells b (off + i) [u]) := fun W hWc hWf ty dc =>
    run_copy_cells W _ _ ty 21 b (off + i) (n + 1 - i) dc ⟨vb, voff, none⟩ 1 vc [u] Tryz.underlying45 sizeI (by simp only [List.length_cons, List.length_nil, Nat.min_def]; split <;> omega)
      (fun j v hj => by
        rw [Addr.add_lit, hWc, hW1, World.cell?_setCells_out b _ _ _ _ (fun h _ => absurd h hvb)]; exact hvs' j v hj)
      (fun j hj => by rw [hWc, Nat.add_assoc]; exact hsp1 _ (by simp at hj; omega)) (fun j hj => by rw [hWf, hW1, World.frozen?_setCells, Nat.add_assoc]; exact hfz _ (by simp at hj; omega)) (by simpa using h1v)
  rw [← hW1] at hcp1; go_enter Tryz.func177, Tryz.ntmps177; go_wp2_with (simp only [hov])
  go_region_law (refine step_copy_runI rfl _ _ 45 45 rfl (.slice (some ⟨b, off + (i + 1), none⟩) (n - i) (c - (i + 1))) (.slice (some ⟨b, off + i, none⟩) (n + 1 - i) (c - i)) (by simp [Act.eval, Act.put]) (by simp [Act.eval, Act.put]) (hcp1 _ _ _) ?_)
  go_wp2_with (at_builtin; refine wpList_copy_runI _ rfl _ _ 45 45 rfl _ _ rfl rfl (hcp2 _ (fun _ => rfl) (fun _ => rfl) _ _) ?_)
  go_ret
  first | exact ⟨rfl, rfl⟩ | exact ⟨rfl, by rw [hW1]⟩
set_option maxHeartbeats 4000000 in
set_option maxRecDepth 100000 in
theorem ins_grow (b off n c i vb voff vc : Nat) (cs : List Value) (u : Value) (w : World) (hi : i < n) (hnc : n ≤ c) (hroom : c < n + 1) (hbig : (n + 1) * 4 ≤ 140737488355328) (hcl : cs.length = n)
    (hcs : ∀ j v, cs[j]? = some v → w.cell? ⟨b, off + j, none⟩ = some v) (hvs : w.cell? ⟨vb, voff, none⟩ = some u) (h1c : ∀ v ∈ cs, v.oneCell' = true) (h1v : u.oneCell' = true) :
    Calls Tryz.prog 177 #[.slice (some ⟨b, off, none⟩) n c, .int .i64 i, .slice (some ⟨vb, voff, none⟩) 1 vc] w fun e w' =>
      ∃ (G : Nat) (ROW : Array Value), G ≤ maxLen ∧ n + 1 ≤ G ∧ ROW.size = G ∧ (∀ j, j < i → ROW[j]? = cs[j]?) ∧ e = .returned (.slice (some ⟨w.heap.size, 0, none⟩) (n + 1) G) ∧
      w' = (((w.alloc (.cells ROW 21)).drew.setCells w.heap.size i [u]).drew).setCells w.heap.size (i + 1) (cs.drop i) := by
  obtain ⟨i0, hi0, hz0, hzs, hzb⟩ := info_parts infoR; have hvs' : ∀ j v, [u][j]? = some v → w.cell? ⟨vb, voff + j, none⟩ = some v := fun j v hj => by
    cases j with
    | zero => simp at hj; subst hj; exact hvs
    | succ j => simp at hj
  have hz2 : ¬ ((i : Int) = (n : Int)) := by omega
  have hz3 : (c : Int) < (n : Int) + 1 := by omega
  have hbw : b < w.heap.size := block_lt_of_cell (hcs 0 _ (List.getElem?_eq_getElem (by omega))); have hvw : vb < w.heap.size := block_lt_of_cell hvs; have hkk : (n : Int) + 1 - (i : Int) = ((n + 1 - i : Nat) : Int) := by omega
  have hik : i + (n + 1 - i) = n + 1 := by omega
  have hold : (Builtin.firstCells i0.size i (.slice (some ⟨b, off, none⟩) i c)).run Tryz.prog w.drew = .ok (cs.take i).toArray w.drew := by
    rw [hzs]; exact run_firstCells_some w.drew 1 i ⟨b, off, none⟩ i c (cs.take i) (by rw [List.length_take]; omega) (fun j v hj => by
      rw [Addr.add_lit]; rw [List.getElem?_take] at hj
      split at hj
      · exact hcs j v hj
      · cases hj)
  have hrz : ∀ ty, (Builtin.append_ #[45, 3] ty #[.slice (some ⟨b, off, none⟩) i c, .int .i64 ((n : Int) + 1 - (i : Int))]).run Tryz.prog w =
      .ok (.slice (some ⟨w.heap.size, 0, none⟩) (n + 1) (grownCap w (n + 1) c 21)) (w.drew.alloc (.cells ((cs.take i).toArray ++ Builtin.zeroCells (Value.int .i32 0).cells (n + 1 - i) ++ Builtin.zeroCells (Value.int .i32 0).cells (grownCap w (n + 1) c 21 - (n + 1))) 21)) := fun ty => by
    have h := Lib.run_append_grow_zeros w 45 3 ty 21 i0 _ .i64 .i64 Tryz.underlying45 Tryz.underlying3 hi0 hz0 (some ⟨b, off, none⟩) i c (cs.take i) hold (n + 1 - i) (by omega) (by omega) (by omega) (by omega) (by rw [hzb]; omega) (by rw [hzb, hik]; exact growslice_fits hroom hbig); rw [hik] at h; rw [hkk]; exact h
  obtain ⟨G, hG⟩ : ∃ G, G = grownCap w (n + 1) c 21 := ⟨_, rfl⟩; obtain ⟨ROW, hROW⟩ : ∃ ROW : Array Value, ROW = (cs.take i).toArray ++ Builtin.zeroCells (Value.int .i32 0).cells (n + 1 - i) ++ Builtin.zeroCells (Value.int .i32 0).cells (G - (n + 1)) := ⟨_, rfl⟩; have hGn : n + 1 ≤ G := by rw [hG]; exact grownCap_ge w _ _ _
  have hG63 : G ≤ maxLen := by
    have := grownCap_le_maxLen w (n + 1) c 21 (by unfold maxLen; omega); rw [← hG] at this; exact this
  have hG64 : G ≤ 9223372036854775807 := by unfold maxLen at hG63; omega
  rw [← hG] at hrz; rw [← hROW] at hrz; have hRs : ROW.size = G := by
    rw [hROW]; simp [Builtin.zeroCells, Value.cells]; omega
  have hRl : n + 1 ≤ ROW.size := by omega
  have hRf : Hid (∀ j, j < i → ROW[j]? = cs[j]?) := fun j hj => by
    rw [hROW, Array.getElem?_append_left (by simp; omega), Array.getElem?_append_left (by simp; omega)]; simp [hj]
  obtain ⟨W1, hW1⟩ : ∃ W1, W1 = w.drew.alloc (.cells ROW 21) := ⟨_, rfl⟩; rw [← hW1] at hrz; have hN : ∀ j, j < n + 1 → (W1.cell? ⟨w.heap.size, j, none⟩).isSome = true := fun j hj => by
    rw [hW1, World.cell?_alloc_at (w := w.drew) ROW _ w.heap.size j rfl, Array.getElem?_eq_getElem (by omega)]; rfl
  have hNf : ∀ j, W1.frozen? ⟨w.heap.size, j, none⟩ = false := fun j => by rw [hW1]; exact World.frozen?_alloc_at (w := w.drew) ROW _ w.heap.size j rfl
  have hOb : ∀ j v, w.cell? ⟨b, j, none⟩ = some v → W1.cell? ⟨b, j, none⟩ = some v := fun j v h => by rw [hW1, World.cell?_alloc_past (w := w.drew) _ b j hbw]; exact h
  have hOv : ∀ j v, w.cell? ⟨vb, j, none⟩ = some v → W1.cell? ⟨vb, j, none⟩ = some v := fun j v h => by rw [hW1, World.cell?_alloc_past (w := w.drew) _ vb j hvw]; exact h
  have hcpA : ∀ (W : World), (∀ x, W.cell? x = W1.cell? x) → (∀ x, W.frozen? x = W1.frozen? x) → ∀ ty dc, (Builtin.copy_ #[45, 45] ty #[.slice (some ⟨w.heap.size, i, none⟩) (n + 1 - i) dc, .slice (some ⟨vb, voff, none⟩) 1 vc]).run Tryz.prog W = .ok (goInt [u].length) (W.setCells w.heap.size i [u]) := fun W hWc hWf ty dc =>
    run_copy_cells W _ _ ty 21 w.heap.size i (n + 1 - i) dc ⟨vb, voff, none⟩ 1 vc [u] Tryz.underlying45 sizeI (by simp only [List.length_cons, List.length_nil, Nat.min_def]; split <;> omega)
      (fun j v hj => by rw [Addr.add_lit, hWc]; exact hOv _ v (hvs' j v hj))
      (fun j hj => by rw [hWc]; exact hN _ (by simp at hj; omega)) (fun j hj => by rw [hWf]; exact hNf _) (by simpa using h1v)
  have hGi : ¬ (G = i) := by omega
  have hGim : ¬ (G = i + 1) := by omega
  have hci : ¬ (c = i) := by omega
  have hbN : b ≠ w.heap.size := by omega
  have hdl : (cs.drop i).length = n - i := by rw [List.length_drop, hcl]
  have hcpB : ∀ (W : World), (∀ x, W.cell? x = (W1.setCells w.heap.size i [u]).cell? x) → (∀ x, W.frozen? x = (W1.setCells w.heap.size i [u]).frozen? x) → ∀ ty dc sc, (Builtin.copy_ #[45, 45] ty #[.slice (some ⟨w.heap.size, i + 1, none⟩) (n - i) dc, .slice (some ⟨b, off + i, none⟩) (n - i) sc]).run Tryz.prog W = .ok (goInt (cs.drop i).length) (W.setCells w.heap.size (i + 1) (cs.drop i)) := fun W hWc hWf ty dc sc =>
    run_copy_cells W _ _ ty 21 w.heap.size (i + 1) (n - i) dc ⟨b, off + i, none⟩ (n - i) sc (cs.drop i) Tryz.underlying45 sizeI (by rw [hdl]; simp only [Nat.min_def]; split <;> omega)
      (fun j v hj => by
        rw [Addr.add_lit, hWc, World.cell?_setCells_out _ _ _ _ _ (fun h _ => absurd h hbN), Nat.add_assoc]; exact hOb _ v (hcs (i + j) v (by rwa [List.getElem?_drop] at hj)))
      (fun j hj => by rw [hWc]; exact isSome_setCells _ _ _ _ (fun t ht => hN _ (by simp at ht; omega)) _ (hN _ (by omega)))
      (fun j hj => by rw [hWf, World.frozen?_setCells]; exact hNf _) (fun v hv => h1c v (List.mem_of_mem_drop hv))
  subst hW1; have hE1 : ∀ x, ((w.alloc (.cells ROW 21)).drew).cell? x = (w.drew.alloc (.cells ROW 21)).cell? x := fun x => rfl; have hE2 : ∀ x, ((w.alloc (.cells ROW 21)).drew).frozen? x = (w.drew.alloc (.cells ROW 21)).frozen? x := fun x => rfl; have hF1 : ∀ x, (((w.alloc (.cells ROW 21)).drew.setCells w.heap.size i [u]).drew).cell? x = ((w.drew.alloc (.cells ROW 21)).setCells w.heap.size i [u]).cell? x := fun x => rfl; have hF2 : ∀ x, (((w.alloc (.cells ROW 21)).drew.setCells w.heap.size i [u]).drew).frozen? x = ((w.drew.alloc (.cells ROW 21)).setCells w.heap.size i [u]).frozen? x := fun x => rfl; have hw1 : IntKind.i64.wrap ((i : Int) + 1) = (i : Int) + 1 := by rw [IntKind.wrap_i64]; omega
  have hb1 : (0 : Int) ≤ (i : Int) + 1 := by omega
  have hin : i ≤ n := by omega
  have htn : ((i : Int) + 1).toNat = i + 1 := by omega
  have hb3 : (i : Int) ≤ (n : Int) := by omega
  have HRs := hide hRs; clear hkk hik hold hROW hG hRl hRs; go_enter Tryz.func177, Tryz.ntmps177; go_wp2_with (first
    | (at_builtin; refine Lib.wpList_append_run _ rfl _ _ _ _ rfl _ _ rfl rfl _ _ (hrz _) ?_)
    | (at_builtin; refine wpList_copy_runI _ rfl _ _ 45 45 rfl _ _ rfl rfl (hcpA _ hE1 hE2 _ _) ?_)
    | (at_builtin; refine wpList_copy_runI _ rfl _ _ 45 45 rfl _ _ rfl rfl (hcpB _ (fun _ => rfl) (fun _ => rfl) _ _ _) ?_))
  go_region_law (refine step_copy_runI rfl _ _ 45 45 rfl (.slice (some ⟨w.heap.size, i + 1, none⟩) (n - i) (G - (i + 1))) (.slice (some ⟨b, off + i, none⟩) (n - i) (c - i)) (by simp [Act.eval, Act.put]) (by simp [Act.eval, Act.put]) (hcpB _ hF1 hF2 3 (G - (i + 1)) (c - i)) ?_)
  go_wp2; go_ret; exact ⟨G, ROW, hG63, hGn, unhide HRs, unhide hRf, rfl, rfl⟩
end Go.Proofs.YtenlampiiodkhaaGreatDoor
namespace Go.Proofs.YtenlampiiodkhaaGreatDoor
set_option linter.unusedVariables false
open Go.RowKit Go.Proofs
theorem Kp.grownR {w w' : World} {base : Nat} {v : Value} {n : Nat} {xs : List Value} (h : w.ownsRow base 21 1 v n xs) (hg : w.grownBy w' v.ownBlock) : Kp w w' := fun b hb => by
  refine hg.block b hb.lt fun e => ?_; obtain ⟨X, t, fz, hb, hne⟩ := hb; rcases h.2 with ⟨rfl, _⟩ | ⟨g, c, cur, rfl, _, h3, _⟩
  · simp [Value.ownBlock] at e
  · simp only [Value.ownBlock, Option.some.injEq] at e; rw [← e, hb] at h3; simp at h3; exact hne.2 h3.2.1
theorem Kp.othR {w w' : World} {g : Nat} {cur : Array Value} (hb : w.heap[g]? = some (.cells cur 21 (0, 0))) (h : Oth g w w') : Kp w w' := fun b hs => by
  refine h.block b fun e => ?_; obtain ⟨X, t, fz, hb', hne⟩ := hs; rw [e, hb] at hb'; simp at hb'; exact hne.2 hb'.2.1.symm
theorem wpList_appR {w : World} {ops : Array Oper} {rest : List Oper} {o : Oper} {a : Act} {Q : Exit → Act → World → Prop} (hgd : o.guard = none) (s x : Operand) (t : TypeId)
    (hT : Tryz.prog.underlying t = some (.slice 21)) (ho : o.op = .call { callee := .builtin .append, args := #[s, x], argTypes := #[t, t] })
    (base : Nat) (v : Value) (n : Nat) (xs : List Value) (hs : a.eval s = v) (hown : w.ownsRow base 21 1 v n xs)
    (ad : Addr) (m c : Nat) (ys : List Value) (hx : a.eval x = .slice (some ad) m c) (hl : ys.length = m) (hr : RdV w (some ad) c ys) (hone : ∀ u ∈ ys, u.oneCell' = true) (hb : (n + m) * 5 ≤ 140737488355328) (hbase : base ≤ w.heap.size)
    (h : ∀ v' w', w'.ownsRow base 21 1 v' (n + m) (xs ++ ys) → Below base w w' → Kp w w' → wpList Tryz.prog ops Q rest (a.put o.dst v') w') : wpList Tryz.prog ops Q (o :: rest) a w := by
  obtain ⟨i0, hi, hz0, hz1, hz2⟩ := info_parts infoR; refine wpList_append_own _ hgd s x t ho base 21 i0 (.int .i32 0) 1 4 hT hi hz0 hz1 hz2 rfl (by decide) v n xs hs hown ad m c ys hx (by omega) (hr.news ad rfl) hone (by unfold maxLen; omega) (by omega) hbase ?_; intro v' w' h1 h2 _; exact h v' w' h1 ((Below.refl _ _).grown h2 hbase (fun t ht => (hown.lt t ht).1)) (Kp.grownR hown h2)
def TellsI (base : Nat) (w : World) (ys : List Value) (e : Ending) (w' : World) : Prop := ∃ v, e = .returned v ∧ w'.ownsRow base 21 1 v ys.length ys ∧ Below base w w' ∧ Kp w w'
set_option maxHeartbeats 2000000 in
set_option maxRecDepth 100000 in
theorem insert_any (base : Nat) (ao : Option Addr) (n cap i vb : Nat) (xs : List Value) (u : Value) (w : World) (hown : w.ownsRow base 21 1 (.slice ao n cap) n xs) (hbase : base ≤ w.heap.size) (hn : n ≤ 100) (hi : i ≤ n) (h1c : ∀ v ∈ xs, v.oneCell' = true) (h1v : u.oneCell' = true)
    (hvb : w.heap[vb]? = some (.cells #[u] 21 (0, 0))) (hne : (Value.slice ao n cap).ownBlock ≠ some vb) :
    Calls Tryz.prog 177 #[.slice ao n cap, .int .i64 (i : Int), .slice (some ⟨vb, 0, none⟩) 1 1] w (TellsI base w (xs.take i ++ u :: xs.drop i)) := by
  have hxl : xs.length = n := by have := hown.1; omega
  have hvc : w.cell? ⟨vb, 0, none⟩ = some u := by simp [World.cell?, hvb]
  have hyl : (xs.take i ++ u :: xs.drop i).length = n + 1 := by simp; omega
  by_cases hin : i = n
  · subst hin; have hRv : RdV w (some ⟨vb, 0, none⟩) 1 [u] := ⟨by simp, by omega, fun e => (by cases e), fun j hj => ⟨vb, 0, rfl, by
      have hj0 : j = 0 := by simpa using hj
      subst hj0; exact hvc⟩⟩
    have hone : ∀ v ∈ [u], v.oneCell' = true := by simpa using h1v
    have HY : Hid (xs.take i ++ u :: xs.drop i = xs ++ [u]) := by rw [List.take_of_length_le (by omega), List.drop_of_length_le (by omega)]; exact hide rfl
    have hRd := RdV.of_owned_at hown; have hle := hRd.le; have hmx := hRd.max; have hnil := hRd.nil; simp only [hxl] at hle; clear hRd; unfold TellsI; rw [unhide HY]; clear hyl HY; go_enter Tryz.func177, Tryz.ntmps177
    cases ao with
    | none =>
      have h0 := hnil rfl; subst h0; have h00 : i = 0 := by omega
      subst h00; go_wp2_with (at_builtin; refine wpList_appR rfl (.tmp 23) (.tmp 24) 45 Tryz.underlying45 rfl base _ _ _ rfl hown _ _ _ [u] rfl rfl hRv hone (by omega) hbase ?_)
      intro v2 w2 o2 b2 k2; go_wp2; go_ret; exact ⟨_, rfl, by simpa [hxl] using o2, b2, k2⟩
    | some ad =>
      obtain ⟨g, go, gs⟩ := ad; go_wp2_with (at_builtin; refine wpList_appR rfl (.tmp 23) (.tmp 24) 45 Tryz.underlying45 rfl base _ _ _ rfl hown _ _ _ [u] rfl rfl hRv hone (by omega) hbase ?_)
      all_goals
        intro v2 w2 o2 b2 k2; go_wp2; go_ret; exact ⟨_, rfl, by simpa [hxl] using o2, b2, k2⟩
  · rcases hown.2 with ⟨h1, h2⟩ | ⟨g, cap', cur, h1, hg, hb, hl, hmx, hcs, htk⟩
    · omega
    · simp only [Value.slice.injEq] at h1; obtain ⟨rfl, _, rfl⟩ := h1; have hgv : vb ≠ g := fun e => hne (by rw [e]; rfl); have hcell : ∀ j v, xs[j]? = some v → w.cell? ⟨g, 0 + j, none⟩ = some v := fun j v hj => by
        have hjn : j < n := by have := (List.getElem?_eq_some_iff.1 hj).1; omega
        rw [Nat.zero_add, ← hj, ← htk, List.getElem?_take, if_pos (by omega)]; simp [World.cell?, hb]
      by_cases hroom : n + 1 ≤ cap
      · have hall : ∀ j, j < n + 1 → (w.cell? ⟨g, 0 + j, none⟩).isSome = true := fun j hj => by
          rw [Nat.zero_add]; have : j < cur.size := by omega
          simp [World.cell?, hb, this]
        have hfr : ∀ j, j < n + 1 → w.frozen? ⟨g, 0 + j, none⟩ = false := fun j hj => by
          rw [Nat.zero_add]; exact hown.frozenAt j
        refine (ins_shift g 0 n cap i vb 0 1 xs u w (by omega) hroom (by unfold maxLen at hmx; omega) hgv hxl hcell hall hfr hvc h1c h1v 21 21 1 cur.size (by simp [World.shape?, hvb]) (by simp [World.shape?, hb]) (by omega) (by simp [World.frozen?, hvb]) (by simp [World.frozen?, hvb])).mono ?_; rintro e w' ⟨rfl, rfl⟩; obtain ⟨c1, e1, s1⟩ := block_setCells (g := g) (xs.drop i) (0 + (i + 1)) w.drew cur hb; obtain ⟨c2, e2, s2⟩ := block_setCells (g := g) [u] (0 + i) _ c1 e1; have hO : Oth g w ((w.drew.setCells g (0 + (i + 1)) (xs.drop i)).setCells g (0 + i) [u]) := oth_setCells _ _ _ (oth_setCells _ _ _ ((Oth.refl g w).drewN 1)); refine ⟨_, rfl, ?_, hO.below (Below.refl _ _) hg, Kp.othR hb hO⟩; rw [hyl]; refine own_of_cells hg e2 (by omega) hroom hmx hyl fun j hj => ?_; simp only [Nat.zero_add] at *; have hin1 : ∀ j, j < (xs.drop i).length → (w.drew.cell? ⟨g, i + 1 + j, none⟩).isSome = true := fun j hj => hall _ (by simp at hj; omega); by_cases hji : j = i
        · subst hji; have := World.cell?_setCells_in g [u] j (w.drew.setCells g (j + 1) (xs.drop j)) (fun q hq => by
            have : q = 0 := by simpa using hq
            subst this; rw [Nat.add_zero, World.cell?_setCells_out g _ _ _ _ (fun _ _ => .inl (by show j < j + 1; omega))]; exact hall _ (by omega)) 0 (by simp)
          refine (show _ = _ from this).trans ?_; have hl2 : (xs.take j).length = j := by simp; omega
          rw [List.getElem?_append_right (by omega), hl2, Nat.sub_self]; rfl
        · rw [World.cell?_setCells_out g [u] i _ ⟨g, j, none⟩ (fun _ _ => by show j < i ∨ i + 1 ≤ j; omega)]; by_cases hlt : j < i
          · rw [World.cell?_setCells_out g _ _ _ ⟨g, j, none⟩ (fun _ _ => .inl (by show j < i + 1; omega)), List.getElem?_append_left (by simp; omega), List.getElem?_take, if_pos hlt]; have hjx : j < xs.length := by omega
            rw [List.getElem?_eq_getElem hjx]; exact hcell j _ (List.getElem?_eq_getElem hjx)
          · have := World.cell?_setCells_in g (xs.drop i) (i + 1) w.drew hin1 (j - (i + 1)) (by simp; omega); rw [show i + 1 + (j - (i + 1)) = j by omega] at this; rw [this]; have hl2 : (xs.take i).length = i := by simp; omega
            rw [List.getElem?_append_right (by omega), hl2, show j - i = (j - (i + 1)) + 1 by omega, List.getElem?_cons_succ, List.getElem?_eq_getElem (by simp; omega)]
      · refine (ins_grow g 0 n cap i vb 0 1 xs u w (by omega) hl (by omega) (by omega) hxl hcell hvc h1c h1v).mono ?_; rintro e w' ⟨G, ROW, hG1, hG2, hRs, hRf, rfl, rfl⟩; have hb0 : ((w.alloc (.cells ROW 21)).drew).heap[w.heap.size]? = some (.cells ROW 21 (0, 0)) := by
          show (w.heap.push _)[w.heap.size]? = _; rw [Array.getElem?_push, if_pos rfl]
        obtain ⟨c1, e1, s1⟩ := block_setCells (g := w.heap.size) [u] i _ ROW hb0; obtain ⟨c2, e2, s2⟩ := block_setCells (g := w.heap.size) (xs.drop i) (i + 1) (((w.alloc (.cells ROW 21)).drew.setCells w.heap.size i [u]).drew) c1 e1; have hO : Oth w.heap.size (w.alloc (.cells ROW 21)) ((((w.alloc (.cells ROW 21)).drew.setCells w.heap.size i [u]).drew).setCells w.heap.size (i + 1) (xs.drop i)) :=
          oth_setCells _ _ _ ((oth_setCells _ _ _ ((Oth.refl _ _).drewN 1)).drewN 1)
        have hE : Ext w ((((w.alloc (.cells ROW 21)).drew.setCells w.heap.size i [u]).drew).setCells w.heap.size (i + 1) (xs.drop i)) := hO.below (Ext.alloc w _) (Nat.le_refl _); refine ⟨_, rfl, ?_, Below.mono hE hbase, Kp.of_ext hE⟩; rw [hyl]; have hrow : ∀ j, j < G → (w.alloc (.cells ROW 21)).cell? ⟨w.heap.size, j, none⟩ = ROW[j]? := fun j hj => by
          rw [World.cell?_alloc_mark]
        refine own_of_cells hbase e2 (by omega) hG2 hG1 hyl fun j hj => ?_; have hsome : ∀ j, j < n + 1 → ((w.alloc (.cells ROW 21)).drew.cell? ⟨w.heap.size, j, none⟩).isSome = true := fun j hj => by
          show ((w.alloc (.cells ROW 21)).cell? ⟨w.heap.size, j, none⟩).isSome = true; rw [hrow j (by omega), Array.getElem?_eq_getElem (by omega)]; rfl
        have h1s : ∀ q, q < [u].length → (((w.alloc (.cells ROW 21)).drew).cell? ⟨w.heap.size, i + q, none⟩).isSome = true := fun q hq => hsome _ (by simp at hq; omega); have hl2 : (xs.take i).length = i := by simp; omega
        by_cases hge : i + 1 ≤ j
        · have := World.cell?_setCells_in w.heap.size (xs.drop i) (i + 1) (((w.alloc (.cells ROW 21)).drew.setCells w.heap.size i [u]).drew) (fun q hq => by
            show (((w.alloc (.cells ROW 21)).drew.setCells w.heap.size i [u]).cell? ⟨w.heap.size, i + 1 + q, none⟩).isSome = true; exact isSome_setCells _ _ _ _ h1s _ (hsome _ (by simp at hq; omega))) (j - (i + 1)) (by simp; omega)
          rw [show i + 1 + (j - (i + 1)) = j by omega] at this; rw [this, List.getElem?_append_right (by omega), hl2, show j - i = (j - (i + 1)) + 1 by omega, List.getElem?_cons_succ, List.getElem?_eq_getElem (by simp; omega)]
        · rw [World.cell?_setCells_out w.heap.size _ _ _ ⟨w.heap.size, j, none⟩ (fun _ _ => .inl (by show j < i + 1; omega))]; show ((w.alloc (.cells ROW 21)).drew.setCells w.heap.size i [u]).cell? ⟨w.heap.size, j, none⟩ = _; by_cases hji : j = i
          · subst hji; have := World.cell?_setCells_in w.heap.size [u] j ((w.alloc (.cells ROW 21)).drew) h1s 0 (by simp); refine (show _ = _ from this).trans ?_; rw [List.getElem?_append_right (by omega), hl2, Nat.sub_self]; rfl
          · rw [World.cell?_setCells_out w.heap.size _ _ _ ⟨w.heap.size, j, none⟩ (fun _ _ => .inl (by show j < i; omega))]; show (w.alloc (.cells ROW 21)).cell? ⟨w.heap.size, j, none⟩ = _; rw [hrow j (by omega), hRf j (by omega), List.getElem?_append_left (by omega), List.getElem?_take, if_pos (by omega)]
end Go.Proofs.YtenlampiiodkhaaGreatDoor
