/-
  J6C, J6D.
-/
import Derived.Test.YtenlampiiodkhaaGreatDoorCGc
import Derived.Test.YtenlampiiodkhaaGreatDoorCIc
import Derived.Test.YtenlampiiodkhaaGreatDoorCMc
import Derived.Test.YtenlampiiodkhaaGreatDoorBYc
namespace Go.Proofs.YtenlampiiodkhaaGreatDoor
set_option linter.unusedVariables false
open Go.RowKit
end Go.Proofs.YtenlampiiodkhaaGreatDoor
namespace Go.Proofs.YtenlampiiodkhaaGreatDoor
set_option linter.unusedVariables false
open Go.RowKit
def Tells6 (tail : Bool) (t : List UInt8) (v : World) : Ending → World → Prop := fun e w' => ∃ (ao : Option Addr) (n cap : Nat) (ok : Bool), e = .returned (.tuple #[.slice ao n cap, .bool ok]) ∧ ok = (piecesO tail t).isSome ∧ (∀ l, piecesO tail t = some l → n = l.length ∧ RdV w' ao cap (l.map U)) ∧ n ≤ 1000 ∧ (∀ b off, ao = some ⟨b, off, none⟩ → v.heap.size ≤ b) ∧ Ext v w'
theorem copy_pieces2 (w : World) (dp sp : Option Addr) (dLen dCap sLen sCap g off : Nat) (cur cs : List Value) (t : TypeId) (hg : w.heap[g]? = some (.cells cur.toArray t (0, 0))) (hn : cs.length = Nat.min sLen dLen)
    (hpos : 0 < cs.length → dp = some ⟨g, off, none⟩ ∧ ∃ ad, sp = some ad ∧ ∀ j v, cs[j]? = some v → w.cell? (ad.add j) = some v) (hfit : off + cs.length ≤ cur.length) (h1 : ∀ v ∈ cs, v.oneCell' = true) (B : Nat) (w0 : World) (hb : Below B w0 w) (hB : B ≤ g) :
    ∃ w', (Builtin.copy_ #[90, 90] 3 #[.slice dp dLen dCap, .slice sp sLen sCap]).run Tryz.prog w = .ok (.int .i64 (cs.length : Int)) w' ∧ Hid (w'.heap[g]? = some (.cells (splice cur off cs).toArray t (0, 0))) ∧ Below B w0 w' ∧ ∀ b, b ≠ g → w'.heap[b]? = w.heap[b]? := by
  by_cases h0 : cs.length = 0
  · obtain rfl : cs = [] := List.eq_nil_of_length_eq_zero h0; exact ⟨w, run_copy_none (P := Tryz.prog) w 90 90 3 35 dp sp dLen dCap sLen sCap Tryz.underlying90 infoU1 (by simpa using hn.symm), (show _ = _ by simpa [splice] using hg), hb, fun _ _ => rfl⟩
  · obtain ⟨rfl, ad, rfl, hsrc⟩ := hpos (by omega); exact ⟨_, run_copy_row (P := Tryz.prog) w 90 90 3 35 g off dLen dCap ad sLen sCap cur.toArray t cs Tryz.underlying90 infoU1 hg hn hsrc (by simpa using hfit) h1, (show _ = _ by simpa [splice] using setRow_heap w g _ _ t _ hg), below_setRow hb hB _, fun b hbg => by simp [World.setRow, Array.getElem?_modify, Ne.symm hbg]⟩
theorem run_take6 (w : World) (l : List UInt8) (k : Nat) (h : k ≤ l.length) : (Instr.slice 9 (S l) none (some (.int .i64 (k : Int))) none).run Tryz.prog w = .ok (S (l.take k)) w := by
  rw [run_slice_string_h w 9 ⟨l.toArray⟩ Tryz.underlying9 .i64 (k : Int) (by omega) (by rw [size_S]; omega)]; rw [Int.toNat_natCast]; congr 2; apply ByteArray.ext; apply Array.toList_inj.1; simp
theorem gap_more (s : List UInt8) (k : Nat) (hk : k + 1 < s.length) (hno : ¬ (s.getD k 0 = 58 ∧ s.getD (k + 1) 0 = 58)) (h : gapAt s = (gapAt (s.drop k)).map fun q => (s.take k ++ q.1, q.2)) : gapAt s = (gapAt (s.drop (k + 1))).map fun q => (s.take (k + 1) ++ q.1, q.2) := by
  have e0 : s.drop k = s.getD k 0 :: s.drop (k + 1) := by
    rw [List.drop_eq_getElem_cons (show k < s.length by omega)]; simp [List.getD, show k < s.length by omega]
  have e1 : (s.drop (k + 1)).head? = some (s.getD (k + 1) 0) := by
    rw [List.head?_drop]; simp [List.getD, hk]
  have e2 := take_snoc s k 0 (show k < s.length by omega); rw [e0, gapAt, e1, if_neg (by simpa using hno), Option.map_map] at h; rw [h, e2]; congr 1; funext q; simp
theorem gap_here (s : List UInt8) (k : Nat) (hk : k + 1 < s.length) (h1 : s.getD k 0 = 58) (h2 : s.getD (k + 1) 0 = 58) (h : gapAt s = (gapAt (s.drop k)).map fun q => (s.take k ++ q.1, q.2)) : gapAt s = some (s.take k, s.drop (k + 2)) := by
  have e0 : s.drop k = s.getD k 0 :: s.drop (k + 1) := by
    rw [List.drop_eq_getElem_cons (show k < s.length by omega)]; simp [List.getD, show k < s.length by omega]
  have e1 : (s.drop (k + 1)).head? = some (s.getD (k + 1) 0) := by
    rw [List.head?_drop]; simp [List.getD, hk]
  rw [e0, gapAt, e1, if_pos ⟨h1, by rw [h2]⟩] at h; rw [h]; simp
theorem gap_none (s : List UInt8) (k : Nat) (hk : ¬ k + 1 < s.length) (h : gapAt s = (gapAt (s.drop k)).map fun q => (s.take k ++ q.1, q.2)) : gapAt s = none := by
  rw [h]; have hl : (s.drop k).length ≤ 1 := by rw [List.length_drop]; omega
  match hd : s.drop k, hl with
  | [], _ => rfl
  | [x], _ => simp [gapAt]
set_option maxHeartbeats 4000000 in
set_option maxRecDepth 100000 in
theorem rparse6_any (s : List UInt8) (w : World) (hs : s.length ≤ 200) (hp : ∀ tail t v, t.length ≤ 200 → Calls Tryz.prog 75 #[S t, .bool tail] v (Tells6 tail t v)) :
    Calls Tryz.prog 44 #[S s] w fun e w' => e = .returned (.tuple #[V8 (aO (par6 s)), .int .i64 (perr6 (par6 s))]) ∧ Ext w w' := by
  have HP := hide hp; have hsz := size_S s; have NO : Hid (par6 s = none → Ending.returned (.tuple #[.agg #[U 0, U 0, U 0, U 0, U 0, U 0, U 0, U 0], .int .i64 5]) = .returned (.tuple #[V8 (aO (par6 s)), .int .i64 (perr6 (par6 s))])) := fun h => by rw [h]; rfl
  have YES : Hid (∀ a, par6 s = some a → Ending.returned (.tuple #[.agg #[U (a.getD 0 0), U (a.getD 1 0), U (a.getD 2 0), U (a.getD 3 0), U (a.getD 4 0), U (a.getD 5 0), U (a.getD 6 0), U (a.getD 7 0)], .int .i64 0]) = .returned (.tuple #[V8 (aO (par6 s)), .int .i64 (perr6 (par6 s))])) := fun a h => by rw [h]; rfl
  generalize V8 (aO (par6 s)) = z1 at *; generalize perr6 (par6 s) = z2 at *; have hz0 : (Z8 (Z8 w)).heap[w.heap.size]? = some (.cells (List.replicate 8 (U 0)).toArray 36 (0, 0)) := heap_ext (Z8_new w) (Z8_ext (Z8 w)); have hz1 : (Z8 (Z8 w)).heap[w.heap.size + 1]? = some (.cells (List.replicate 8 (U 0)).toArray 36 (0, 0)) := by
    have := Z8_new (Z8 w); rw [Z8_size] at this; exact this
  have hxz : Ext w (Z8 (Z8 w)) := (Z8_ext w).trans (Z8_ext (Z8 w)); have HIX := hide (fun (v : World) (k : Nat) (hk : k < s.length) => idx_str v s .i64 k hk); clear hp; unfold Z8 at hz0 hz1 hxz; go_enter Tryz.func44, Tryz.ntmps44; go_wp2_with fail
  generalize (w.alloc (.cells #[.int .u16 0, .int .u16 0, .int .u16 0, .int .u16 0, .int .u16 0, .int .u16 0, .int .u16 0, .int .u16 0] 36)).alloc (.cells #[.int .u16 0, .int .u16 0, .int .u16 0, .int .u16 0, .int .u16 0, .int .u16 0, .int .u16 0, .int .u16 0] 36) = w2 at *; have hg0 : w.heap.size ≤ w.heap.size := Nat.le_refl _; have hgp : (w.alloc (.cells #[.int .u16 0, .int .u16 0, .int .u16 0, .int .u16 0, .int .u16 0, .int .u16 0, .int .u16 0, .int .u16 0] 36)).heap.size = w.heap.size + 1 := by simp
  go_loopw [5] (fun i wr => ∃ k : Nat, k ≤ s.length ∧ i = .int .i64 k ∧ Hid (gapAt s = (gapAt (s.drop k)).map fun q => (s.take k ++ q.1, q.2)) ∧ wr = w2) (fun i _ => s.length - (intOf i).toNat)
  case atStart => exact ⟨0, by omega, rfl, (by show gapAt s = _; simp), rfl⟩
  case round =>
    obtain ⟨k, hk, rfl, HG, hw⟩ := hrel; have hw3 := hw.symm; subst hw3; clear hw; by_cases hk1 : k + 1 < s.length
    · have hk1' : (k : Int) + 1 < (s.length : Int) := by omega
      have i1 := unhide HIX w2 k (by omega); have i2 := unhide HIX w2 (k + 1) hk1; rw [show ((k + 1 : Nat) : Int) = (k : Int) + 1 by omega] at i2; by_cases hx : s.getD k 0 = 58
      · have e1 : ((s.getD k 0).toNat : Int) = 58 := by rw [hx]; rfl
        by_cases hy : s.getD (k + 1) 0 = 58
        · have e2 : ((s.getD (k + 1) 0).toNat : Int) = 58 := by rw [hy]; rfl
          have HGE := hide (gap_here s k hk1 hx hy (unhide HG)); generalize s.getD k 0 = x at *; generalize s.getD (k + 1) 0 = y at *; have hpar : par6 s = (piecesO false (s.take k)).bind fun x => (piecesO true (s.drop (k + 2))).bind fun y => lay8 x y := by
            unfold par6; rw [unhide HGE]
          have tk := fun v => run_take6 v s k (by omega); have dr : ∀ v, (Instr.slice 9 (S s) (some (.int .i64 ((k : Int) + 2))) none none).run Tryz.prog v = .ok (S (s.drop (k + 2))) v := fun v => run_drop v s (k + 2) (by omega); have HQ1 := hide (unhide HP false (s.take k) w2 (by rw [List.length_take]; omega)); have HQ2 := hide (fun v => unhide HP true (s.drop (k + 2)) v (by rw [List.length_drop]; omega)); clear HP HG HGE HIX hx hy; generalize s.take k = t1 at *; generalize s.drop (k + 2) = t2 at *; go_wp2_with fail
          refine (unhide HQ1).mono ?_; rintro e w4 ⟨ao, n, cap, ok, rfl, hok, hl, hn, hfr, hx4⟩; clear HQ1; go_wp2_with fail
          refine (unhide HQ2 w4).mono ?_; rintro e w5 ⟨ao2, n2, cap2, ok2, rfl, hok2, hl2, hn2, hfr2, hx5'⟩; clear HQ2; have hxx := hx4.trans hx5'
          cases hpo : piecesO false t1 with
          | none =>
            have hnone : par6 s = none := by rw [hpar, hpo]; rfl
            rw [hpo] at hok; obtain rfl : ok = false := hok; clear hl hl2 hok2 hpar hpo hx4 hx5'
            cases ok2 with
            | true =>
              have hz := heap_ext hz0 hxx; have z0 := cells_zero hz 0 (by decide); have z1 := cells_zero hz 1 (by decide); have z2 := cells_zero hz 2 (by decide); have z3 := cells_zero hz 3 (by decide); have z4 := cells_zero hz 4 (by decide); have z5 := cells_zero hz 5 (by decide); have z6 := cells_zero hz 6 (by decide); have z7 := cells_zero hz 7 (by decide); have f0 := froz8 hz 0; have f1 := froz8 hz 1; have f2 := froz8 hz 2; have f3 := froz8 hz 3; have f4 := froz8 hz 4; have f5 := froz8 hz 5; have f6 := froz8 hz 6; have f7 := froz8 hz 7; have HH := hide hz; have HX := hide (hxz.trans hxx); have HN := hide (unhide NO hnone); clear hz hz0 hxx hxz hnone NO YES; go_wp2; refine bodyPost_ret (results_cell_tmp rfl _ _ w.heap.size #[U 0, U 0, U 0, U 0, U 0, U 0, U 0, U 0] rfl (run_loadVar_row _ w.heap.size 36 36 _ (0, 0) _ (set8_heap (unhide HH) (U 0) (U 0) (U 0) (U 0) (U 0) (U 0) (U 0) (U 0)) Tryz.underlying36 rfl (by kernel_rfl))) rfl ?_; exact ⟨unhide HN, set8_below (unhide HX) (Nat.le_refl _) _ _ _ _ _ _ _ _⟩
            | false =>
              have hz := heap_ext hz0 hxx; have z0 := cells_zero hz 0 (by decide); have z1 := cells_zero hz 1 (by decide); have z2 := cells_zero hz 2 (by decide); have z3 := cells_zero hz 3 (by decide); have z4 := cells_zero hz 4 (by decide); have z5 := cells_zero hz 5 (by decide); have z6 := cells_zero hz 6 (by decide); have z7 := cells_zero hz 7 (by decide); have f0 := froz8 hz 0; have f1 := froz8 hz 1; have f2 := froz8 hz 2; have f3 := froz8 hz 3; have f4 := froz8 hz 4; have f5 := froz8 hz 5; have f6 := froz8 hz 6; have f7 := froz8 hz 7; have HH := hide hz; have HX := hide (hxz.trans hxx); have HN := hide (unhide NO hnone); clear hz hz0 hxx hxz hnone NO YES; go_wp2; refine bodyPost_ret (results_cell_tmp rfl _ _ w.heap.size #[U 0, U 0, U 0, U 0, U 0, U 0, U 0, U 0] rfl (run_loadVar_row _ w.heap.size 36 36 _ (0, 0) _ (set8_heap (unhide HH) (U 0) (U 0) (U 0) (U 0) (U 0) (U 0) (U 0) (U 0)) Tryz.underlying36 rfl (by kernel_rfl))) rfl ?_; exact ⟨unhide HN, set8_below (unhide HX) (Nat.le_refl _) _ _ _ _ _ _ _ _⟩
          | some l =>
            rw [hpo] at hok; obtain rfl : ok = true := hok
            cases hpo2 : piecesO true t2 with
            | none =>
              have hnone : par6 s = none := by rw [hpar, hpo, hpo2]; rfl
              rw [hpo2] at hok2; obtain rfl : ok2 = false := hok2; clear hl hl2 hpar hpo hpo2 hx4 hx5'; have hz := heap_ext hz0 hxx; have z0 := cells_zero hz 0 (by decide); have z1 := cells_zero hz 1 (by decide); have z2 := cells_zero hz 2 (by decide); have z3 := cells_zero hz 3 (by decide); have z4 := cells_zero hz 4 (by decide); have z5 := cells_zero hz 5 (by decide); have z6 := cells_zero hz 6 (by decide); have z7 := cells_zero hz 7 (by decide); have f0 := froz8 hz 0; have f1 := froz8 hz 1; have f2 := froz8 hz 2; have f3 := froz8 hz 3; have f4 := froz8 hz 4; have f5 := froz8 hz 5; have f6 := froz8 hz 6; have f7 := froz8 hz 7; have HH := hide hz; have HX := hide (hxz.trans hxx); have HN := hide (unhide NO hnone); clear hz hz0 hxx hxz hnone NO YES; go_wp2; refine bodyPost_ret (results_cell_tmp rfl _ _ w.heap.size #[U 0, U 0, U 0, U 0, U 0, U 0, U 0, U 0] rfl (run_loadVar_row _ w.heap.size 36 36 _ (0, 0) _ (set8_heap (unhide HH) (U 0) (U 0) (U 0) (U 0) (U 0) (U 0) (U 0) (U 0)) Tryz.underlying36 rfl (by kernel_rfl))) rfl ?_; exact ⟨unhide HN, set8_below (unhide HX) (Nat.le_refl _) _ _ _ _ _ _ _ _⟩
            | some l2 =>
              rw [hpo2] at hok2; obtain rfl : ok2 = true := hok2; obtain ⟨hnl, hR0⟩ := hl l hpo; obtain ⟨hnl2, hR2⟩ := hl2 l2 hpo2; have hR := hR0.below hx5'; clear hl hl2 hR0; have hpar2 : par6 s = lay8 l l2 := by rw [hpar, hpo, hpo2]; rfl
              by_cases h7 : n + n2 ≤ 7
              · have h7' : ¬ (7 : Int) < (n : Int) + (n2 : Int) := by omega
                have hsome : par6 s = some (l ++ List.replicate (8 - l.length - l2.length) 0 ++ l2) := by
                  rw [hpar2]; unfold lay8; rw [if_pos (by omega)]
                obtain ⟨r, hr⟩ : ∃ r, r = 8 - n2 := ⟨_, rfl⟩; have hA : splice (splice (List.replicate 8 (U 0)) 0 (l.map U)) r (l2.map U) = (l ++ List.replicate (8 - l.length - l2.length) 0 ++ l2).map U := by
                  have := two_splice (U 0) (l.map U) (l2.map U) (by rw [List.length_map, List.length_map]; omega); rw [List.length_map, List.length_map] at this; rw [hr, hnl2, this, List.map_append, List.map_append, List.map_replicate]
                obtain ⟨x0, x1, x2, x3, x4, x5, x6, x7, hx8⟩ := list8q (l ++ List.replicate (8 - l.length - l2.length) 0 ++ l2) (by rw [List.length_append, List.length_append, List.length_replicate]; omega); rw [hx8] at hsome hA; have HY : Hid (Ending.returned (.tuple #[.agg #[U x0, U x1, U x2, U x3, U x4, U x5, U x6, U x7], .int .i64 0]) = .returned (.tuple #[z1, .int .i64 z2])) := unhide YES _ hsome; have hlt := heap_lt hz1; have hs4 := hx4.size; have hone : ∀ q : List Nat, ∀ v ∈ q.map U, v.oneCell' = true := fun q v hv => by
                  obtain ⟨x, _, rfl⟩ := List.mem_map.1 hv; rfl
                obtain ⟨w6, hrun, hg6, hb6, hk6⟩ := copy_pieces2 w5 (some ⟨w.heap.size + 1, 0, none⟩) ao 8 8 n cap (w.heap.size + 1) 0 (List.replicate 8 (U 0)) (l.map U) 36 (heap_ext hz1 hxx) (by rw [List.length_map, ← hnl]; show n = min n 8; omega) (fun h0 => by
                  obtain ⟨b, off, e, _⟩ := hR.lt h0; exact ⟨rfl, _, e, hR.news _ e⟩) (by rw [List.length_map, List.length_replicate]; omega) (hone l) (w.heap.size + 1) w5 (Below.refl _ _) (Nat.le_refl _)
                have hR6 := hR2.keep fun b off e => hk6 b (by have := hfr2 b off e; omega); have s1 := fun v => arr_all v (w.heap.size + 1) 0; have e8 : (8 : Int) - (n2 : Int) = (r : Int) := by omega
                have hXL : (splice (List.replicate 8 (U 0)) 0 (l.map U)).length = 8 := by
                  rw [length_splice _ _ _ (by rw [List.length_map, List.length_replicate]; omega)]; rfl
                have hg6' := unhide hg6; have ho2 := hone l2; have hc2 : (l2.map U).length = n2 := by rw [List.length_map, hnl2]
                clear hpar hpo hpo2 hpar2 hsome hR hR2 hg6 hk6 hx4 hx5' hz1 hfr hfr2 hx8 hlt hs4 hone; generalize splice (List.replicate 8 (U 0)) 0 (l.map U) = XS at *; by_cases hm0 : n2 = 0
                · have s4 : ∀ v, (Instr.sliceAt 36 (.pointer (some ⟨w.heap.size + 1, 0, none⟩)) (some (.int .i64 (r : Int))) none none).run Tryz.prog v = .ok (.slice (some ⟨w.heap.size + 1, 0, none⟩) 0 0) v := fun v => arr_from8 v (w.heap.size + 1) 0 r (by omega); obtain ⟨w7, hrun2, hg7, hb7, _⟩ := copy_pieces2 w6 (some ⟨w.heap.size + 1, 0, none⟩) ao2 0 0 n2 cap2 (w.heap.size + 1) r XS (l2.map U) 36 hg6' (by rw [hc2, hm0]; rfl) (fun h0 => absurd h0 (by omega)) (by omega) ho2 (w.heap.size + 1) w5 hb6 (Nat.le_refl _); have hA8 : w7.heap[w.heap.size + 1]? = some (.cells #[U x0, U x1, U x2, U x3, U x4, U x5, U x6, U x7] 36 (0, 0)) := by
                    have := unhide hg7; rw [hA] at this; exact this
                  clear hA hg7 hg6' hR6 hb6 hm0 hr ho2 hnl hnl2; have hz := (hb7.block _ (by omega)).trans (heap_ext hz0 hxx); have z0 := cells_zero hz 0 (by decide); have z1 := cells_zero hz 1 (by decide); have z2 := cells_zero hz 2 (by decide); have z3 := cells_zero hz 3 (by decide); have z4 := cells_zero hz 4 (by decide); have z5 := cells_zero hz 5 (by decide); have z6 := cells_zero hz 6 (by decide); have z7 := cells_zero hz 7 (by decide); have f0 := froz8 hz 0; have f1 := froz8 hz 1; have f2 := froz8 hz 2; have f3 := froz8 hz 3; have f4 := froz8 hz 4; have f5 := froz8 hz 5; have f6 := froz8 hz 6; have f7 := froz8 hz 7; have HH := hide hz; have HX : Hid (Ext w w7) := Below.trans (hxz.trans hxx) (Below.mono hb7 (by have := hxx.size; have := hxz.size; omega)); obtain ⟨d0, d1, d2, d3, d4, d5, d6, d7⟩ := cells8of hA8; clear hz hz0 hxx hxz NO YES hb7 hA8; go_wp2; refine bodyPost_ret (results_cell_tmp rfl _ _ w.heap.size #[U x0, U x1, U x2, U x3, U x4, U x5, U x6, U x7] rfl (run_loadVar_row _ w.heap.size 36 36 _ (0, 0) _ (set8_heap (unhide HH) (U x0) (U x1) (U x2) (U x3) (U x4) (U x5) (U x6) (U x7)) Tryz.underlying36 rfl (by kernel_rfl))) rfl ?_; exact ⟨unhide HY, set8_below (unhide HX) (Nat.le_refl _) _ _ _ _ _ _ _ _⟩
                · have s4 : ∀ v, (Instr.sliceAt 36 (.pointer (some ⟨w.heap.size + 1, 0, none⟩)) (some (.int .i64 (r : Int))) none none).run Tryz.prog v = .ok (.slice (some ⟨w.heap.size + 1, r, none⟩) (8 - r) (8 - r)) v := fun v => by
                    have := arr_from v (w.heap.size + 1) 0 r (by omega)
                    rwa [Nat.zero_add] at this
                  obtain ⟨w7, hrun2, hg7, hb7, _⟩ := copy_pieces2 w6 (some ⟨w.heap.size + 1, r, none⟩) ao2 (8 - r) (8 - r) n2 cap2 (w.heap.size + 1) r XS (l2.map U) 36 hg6' (by rw [hc2]; show n2 = min n2 (8 - r); omega) (fun h0 => by
                    obtain ⟨b, off, e, _⟩ := hR6.lt h0; exact ⟨rfl, _, e, hR6.news _ e⟩) (by omega) ho2 (w.heap.size + 1) w5 hb6 (Nat.le_refl _)
                  have hA8 : w7.heap[w.heap.size + 1]? = some (.cells #[U x0, U x1, U x2, U x3, U x4, U x5, U x6, U x7] 36 (0, 0)) := by
                    have := unhide hg7; rw [hA] at this; exact this
                  clear hA hg7 hg6' hR6 hb6 hm0 hr ho2 hnl hnl2; have hz := (hb7.block _ (by omega)).trans (heap_ext hz0 hxx); have z0 := cells_zero hz 0 (by decide); have z1 := cells_zero hz 1 (by decide); have z2 := cells_zero hz 2 (by decide); have z3 := cells_zero hz 3 (by decide); have z4 := cells_zero hz 4 (by decide); have z5 := cells_zero hz 5 (by decide); have z6 := cells_zero hz 6 (by decide); have z7 := cells_zero hz 7 (by decide); have f0 := froz8 hz 0; have f1 := froz8 hz 1; have f2 := froz8 hz 2; have f3 := froz8 hz 3; have f4 := froz8 hz 4; have f5 := froz8 hz 5; have f6 := froz8 hz 6; have f7 := froz8 hz 7; have HH := hide hz; have HX : Hid (Ext w w7) := Below.trans (hxz.trans hxx) (Below.mono hb7 (by have := hxx.size; have := hxz.size; omega)); obtain ⟨d0, d1, d2, d3, d4, d5, d6, d7⟩ := cells8of hA8; clear hz hz0 hxx hxz NO YES hb7 hA8; go_wp2; refine bodyPost_ret (results_cell_tmp rfl _ _ w.heap.size #[U x0, U x1, U x2, U x3, U x4, U x5, U x6, U x7] rfl (run_loadVar_row _ w.heap.size 36 36 _ (0, 0) _ (set8_heap (unhide HH) (U x0) (U x1) (U x2) (U x3) (U x4) (U x5) (U x6) (U x7)) Tryz.underlying36 rfl (by kernel_rfl))) rfl ?_; exact ⟨unhide HY, set8_below (unhide HX) (Nat.le_refl _) _ _ _ _ _ _ _ _⟩
              · have h7' : (7 : Int) < (n : Int) + (n2 : Int) := by omega
                have hnone : par6 s = none := by
                  rw [hpar2]; unfold lay8; rw [if_neg (by omega)]
                clear hpar hpo hpo2 hpar2 hR hR2 hx4 hx5' hnl hnl2; have hz := heap_ext hz0 hxx; have z0 := cells_zero hz 0 (by decide); have z1 := cells_zero hz 1 (by decide); have z2 := cells_zero hz 2 (by decide); have z3 := cells_zero hz 3 (by decide); have z4 := cells_zero hz 4 (by decide); have z5 := cells_zero hz 5 (by decide); have z6 := cells_zero hz 6 (by decide); have z7 := cells_zero hz 7 (by decide); have f0 := froz8 hz 0; have f1 := froz8 hz 1; have f2 := froz8 hz 2; have f3 := froz8 hz 3; have f4 := froz8 hz 4; have f5 := froz8 hz 5; have f6 := froz8 hz 6; have f7 := froz8 hz 7; have HH := hide hz; have HX := hide (hxz.trans hxx); have HN := hide (unhide NO hnone); clear hz hz0 hxx hxz hnone NO YES; go_wp2; refine bodyPost_ret (results_cell_tmp rfl _ _ w.heap.size #[U 0, U 0, U 0, U 0, U 0, U 0, U 0, U 0] rfl (run_loadVar_row _ w.heap.size 36 36 _ (0, 0) _ (set8_heap (unhide HH) (U 0) (U 0) (U 0) (U 0) (U 0) (U 0) (U 0) (U 0)) Tryz.underlying36 rfl (by kernel_rfl))) rfl ?_; exact ⟨unhide HN, set8_below (unhide HX) (Nat.le_refl _) _ _ _ _ _ _ _ _⟩
        · have e2 : ¬ ((s.getD (k + 1) 0).toNat : Int) = 58 := by
            intro e; exact hy (UInt8.toNat_inj.1 (by show (s.getD (k + 1) 0).toNat = 58; omega))
          have HG2 := hide (gap_more s k hk1 (fun h => hy h.2) (unhide HG)); clear HG hz0 hz1 hxz HIX HP NO YES hx hy; generalize s.getD k 0 = x at *; generalize s.getD (k + 1) 0 = y at *; go_wp2; exact ⟨⟨k + 1, by omega, by simp, HG2, by first | rfl | trivial⟩, (show s.length - ((k : Int) + 1).toNat < s.length - ((k : Int)).toNat by omega)⟩
      · have e1 : ¬ ((s.getD k 0).toNat : Int) = 58 := by
          intro e; exact hx (UInt8.toNat_inj.1 (by show (s.getD k 0).toNat = 58; omega))
        have HG2 := hide (gap_more s k hk1 (fun h => hx h.1) (unhide HG)); clear HG hz0 hz1 hxz HIX HP NO YES hx; generalize s.getD k 0 = x at *; generalize s.getD (k + 1) 0 = y at *; go_wp2; exact ⟨⟨k + 1, by omega, by simp, HG2, by first | rfl | trivial⟩, (show s.length - ((k : Int) + 1).toNat < s.length - ((k : Int)).toNat by omega)⟩
    · have hk1' : ¬ (k : Int) + 1 < (s.length : Int) := by omega
      have hgn := gap_none s k hk1 (unhide HG); have hpar : par6 s = (piecesO true s).bind fun x => if x.length = 8 then some x else none := by
        unfold par6; rw [hgn]
      have HQ := hide (unhide HP true s w2 hs); clear HP HG hgn HIX; go_wp2_with fail
      refine (unhide HQ).mono ?_; rintro e w5 ⟨ao, n, cap, ok, rfl, hok, hl, hn, hfr, hx5⟩; clear HQ
      cases hpo : piecesO true s with
      | none =>
        have hnone : par6 s = none := by rw [hpar, hpo]; rfl
        rw [hpo] at hok; obtain rfl : ok = false := hok; have hxx := hx5; clear hl hpar hpo; have hz := heap_ext hz0 hxx; have z0 := cells_zero hz 0 (by decide); have z1 := cells_zero hz 1 (by decide); have z2 := cells_zero hz 2 (by decide); have z3 := cells_zero hz 3 (by decide); have z4 := cells_zero hz 4 (by decide); have z5 := cells_zero hz 5 (by decide); have z6 := cells_zero hz 6 (by decide); have z7 := cells_zero hz 7 (by decide); have f0 := froz8 hz 0; have f1 := froz8 hz 1; have f2 := froz8 hz 2; have f3 := froz8 hz 3; have f4 := froz8 hz 4; have f5 := froz8 hz 5; have f6 := froz8 hz 6; have f7 := froz8 hz 7; have HH := hide hz; have HX := hide (hxz.trans hxx); have HN := hide (unhide NO hnone); clear hz hz0 hxx hxz hnone NO YES; go_wp2; refine bodyPost_ret (results_cell_tmp rfl _ _ w.heap.size #[U 0, U 0, U 0, U 0, U 0, U 0, U 0, U 0] rfl (run_loadVar_row _ w.heap.size 36 36 _ (0, 0) _ (set8_heap (unhide HH) (U 0) (U 0) (U 0) (U 0) (U 0) (U 0) (U 0) (U 0)) Tryz.underlying36 rfl (by kernel_rfl))) rfl ?_; exact ⟨unhide HN, set8_below (unhide HX) (Nat.le_refl _) _ _ _ _ _ _ _ _⟩
      | some l =>
        rw [hpo] at hok; obtain rfl : ok = true := hok; obtain ⟨hnl, hR⟩ := hl l hpo; clear hl; by_cases h8 : n = 8
        · subst h8; obtain ⟨x0, x1, x2, x3, x4, x5, x6, x7, rfl⟩ := list8q l hnl.symm; have hsome : par6 s = some [x0, x1, x2, x3, x4, x5, x6, x7] := by rw [hpar, hpo]; rfl
          have HY : Hid (Ending.returned (.tuple #[.agg #[U x0, U x1, U x2, U x3, U x4, U x5, U x6, U x7], .int .i64 0]) = .returned (.tuple #[z1, .int .i64 z2])) := unhide YES _ hsome; have hxx := hx5; have hB : Below (w.heap.size + 1) w5 w5 := Below.refl _ _; obtain ⟨w6, hrun, hg6, hb6⟩ := copy_pieces w5 (some ⟨w.heap.size + 1, 0, none⟩) ao 8 8 8 cap (w.heap.size + 1) 0 (List.replicate 8 (U 0)) ([x0, x1, x2, x3, x4, x5, x6, x7].map U) 36 (heap_ext hz1 hx5) rfl (fun h0 => by
            obtain ⟨b, off, e, _⟩ := hR.lt h0; exact ⟨rfl, _, e, hR.news _ e⟩) (by simp) (fun v hv => by
            obtain ⟨x, _, rfl⟩ := List.mem_map.1 hv; rfl) (w.heap.size + 1) w5 hB (Nat.le_refl _)
          have hA8 : w6.heap[w.heap.size + 1]? = some (.cells #[U x0, U x1, U x2, U x3, U x4, U x5, U x6, U x7] 36 (0, 0)) := by
            have := unhide hg6; rw [splice_start] at this; exact this
          have s1 := fun v => arr_all v (w.heap.size + 1) 0; clear hpar hpo hR hnl hg6 hsome hB hx5 hz1; have hz := (hb6.block _ (by omega)).trans (heap_ext hz0 hxx); have z0 := cells_zero hz 0 (by decide); have z1 := cells_zero hz 1 (by decide); have z2 := cells_zero hz 2 (by decide); have z3 := cells_zero hz 3 (by decide); have z4 := cells_zero hz 4 (by decide); have z5 := cells_zero hz 5 (by decide); have z6 := cells_zero hz 6 (by decide); have z7 := cells_zero hz 7 (by decide); have f0 := froz8 hz 0; have f1 := froz8 hz 1; have f2 := froz8 hz 2; have f3 := froz8 hz 3; have f4 := froz8 hz 4; have f5 := froz8 hz 5; have f6 := froz8 hz 6; have f7 := froz8 hz 7; have HH := hide hz; have HX : Hid (Ext w w6) := Below.trans (hxz.trans hxx) (Below.mono hb6 (by have := hxx.size; have := hxz.size; omega)); obtain ⟨d0, d1, d2, d3, d4, d5, d6, d7⟩ := cells8of hA8; clear hz hz0 hxx hxz NO YES hb6 hA8; go_wp2; refine bodyPost_ret (results_cell_tmp rfl _ _ w.heap.size #[U x0, U x1, U x2, U x3, U x4, U x5, U x6, U x7] rfl (run_loadVar_row _ w.heap.size 36 36 _ (0, 0) _ (set8_heap (unhide HH) (U x0) (U x1) (U x2) (U x3) (U x4) (U x5) (U x6) (U x7)) Tryz.underlying36 rfl (by kernel_rfl))) rfl ?_; exact ⟨unhide HY, set8_below (unhide HX) (Nat.le_refl _) _ _ _ _ _ _ _ _⟩
        · have h8' : ((n : Int) == 8) = false := by rw [beq_eq_false_iff_ne]; omega
          have hnone : par6 s = none := by
            rw [hpar, hpo]; show (if l.length = 8 then _ else _) = _; rw [if_neg (by omega)]
          have hxx := hx5; clear hpar hpo hR hnl; have hz := heap_ext hz0 hxx; have z0 := cells_zero hz 0 (by decide); have z1 := cells_zero hz 1 (by decide); have z2 := cells_zero hz 2 (by decide); have z3 := cells_zero hz 3 (by decide); have z4 := cells_zero hz 4 (by decide); have z5 := cells_zero hz 5 (by decide); have z6 := cells_zero hz 6 (by decide); have z7 := cells_zero hz 7 (by decide); have f0 := froz8 hz 0; have f1 := froz8 hz 1; have f2 := froz8 hz 2; have f3 := froz8 hz 3; have f4 := froz8 hz 4; have f5 := froz8 hz 5; have f6 := froz8 hz 6; have f7 := froz8 hz 7; have HH := hide hz; have HX := hide (hxz.trans hxx); have HN := hide (unhide NO hnone); clear hz hz0 hxx hxz hnone NO YES; go_wp2; refine bodyPost_ret (results_cell_tmp rfl _ _ w.heap.size #[U 0, U 0, U 0, U 0, U 0, U 0, U 0, U 0] rfl (run_loadVar_row _ w.heap.size 36 36 _ (0, 0) _ (set8_heap (unhide HH) (U 0) (U 0) (U 0) (U 0) (U 0) (U 0) (U 0) (U 0)) Tryz.underlying36 rfl (by kernel_rfl))) rfl ?_; exact ⟨unhide HN, set8_below (unhide HX) (Nat.le_refl _) _ _ _ _ _ _ _ _⟩
end Go.Proofs.YtenlampiiodkhaaGreatDoor
