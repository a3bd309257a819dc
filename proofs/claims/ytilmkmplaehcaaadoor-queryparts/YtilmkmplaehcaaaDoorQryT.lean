/-
  What a name or a value stands for, by the program; how one is written; a piece as a pair.
-/
import Derived.Test.YtilmkmplaehcaaaDoorQryS
import Derived.Laws.Rows
namespace Go.Proofs.YtilmkmplaehcaaaDoor
set_option linter.unusedVariables false
open Go.RowKit

theorem read_any (s : List UInt8) (w : World) (hs : s.length ≤ 100000) (hM : MaxL w) : Calls Tryd.prog 27 #[S s] w fun e w' => e = .returned (S (plainB s)) ∧ Ext w w' := by
  have HR := hide (replq_any s w (by omega) hM)
  obtain ⟨ts, hts⟩ : ∃ ts, ts = s.map Pct.plus := ⟨_, rfl⟩
  have htl : ts.length ≤ 100000 := by rw [hts, List.length_map]; exact hs
  obtain ⟨D, hD⟩ : ∃ D, D = Pct.decd ts := ⟨_, rfl⟩
  obtain ⟨RR, hRR⟩ : ∃ RR, RR = plainB s := ⟨_, rfl⟩
  have hR3 : RR = enc (dec D) := by rw [hRR, hD, hts]; rfl
  have hPl := Pct.decd_len ts
  have hdl := dec_len D
  rw [← hD] at hPl
  have HP := hide (fun v : World => Pct.decode_any ts v (by omega))
  have hDL : D.length ≤ 100000 := by omega
  rw [← hD] at HP
  rw [← hts] at HR
  have HRR := hide hRR
  clear hRR hD hts
  go_enter Tryd.func27, Tryd.ntmps27
  go_wp2_with fail
  refine (unhide HR).mono ?_
  rintro e w1 ⟨rfl, hx1⟩
  have HP1 := hide (unhide HP w1)
  clear HR HP
  have X1 := hide hx1
  clear hx1
  go_wp2_with fail
  refine (unhide HP1).mono ?_
  rintro e w2 ⟨ao2, c2, rfl, R2, hx2⟩
  clear HP1
  have X2 : Hid (Ext w w2) := (unhide X1).trans hx2
  have HD := hide (utf_decode_any ao2 D.length c2 D w2 rfl (by omega) R2)
  rw [List.length_map]
  clear R2 hx2 X1
  go_wp2_with fail
  refine (unhide HD).mono ?_
  rintro e w3 ⟨ao3, c3, rfl, R3, hx3⟩
  clear HD
  have X3 : Hid (Ext w w3) := (unhide X2).trans hx3
  have HE := hide (utf_encode_any ao3 (dec D).length c3 (dec D) w3 rfl (by omega) R3)
  rw [← hR3] at HE
  rw [List.length_map]
  clear R3 hx3 X2 hR3
  go_wp2_with fail
  refine (unhide HE).mono ?_
  rintro e w4 ⟨ao4, c4, rfl, R4, hx4⟩
  clear HE
  have hcv4 := oconv_str w4 ao4 RR.length c4 RR rfl R4
  have FF : Hid (Ext w w4) := (unhide X3).trans hx4
  rw [List.length_map]
  clear X3 hx4 R4
  go_wp2
  go_ret
  exact ⟨by rw [← unhide HRR]; rfl, unhide FF⟩

theorem written_any (s : List UInt8) (w : World) (hs : s.length ≤ 100000) : Calls Tryd.prog 21 #[S s] w fun e w' => e = .returned (S (Pct.encd 6 s)) ∧ Ext w w' := by
  obtain ⟨cc, w2, hcv, R2, hx2, _⟩ := conv_bytes w s (by omega)
  have HE := hide (Pct.encode_own 6 (some ⟨w.heap.size, 0, none⟩) s.length cc s w2 rfl (by omega) R2)
  have X2 := hide hx2
  clear R2 hx2
  go_enter Tryd.func21, Tryd.ntmps21
  go_wp2_with fail
  refine (unhide HE).mono ?_
  rintro e w3 ⟨rfl, hx3⟩
  have FF : Hid (Ext w w3) := (unhide X2).trans hx3
  clear HE hcv hx3 X2
  go_wp2
  go_ret
  exact ⟨rfl, unhide FF⟩

theorem setP_heap {w : World} {g i : Nat} {v : Value} {c : Array Value} {t : TypeId} {fr : Nat × Nat} (h : w.heap[g]? = some (.cells c t fr)) : (w.setCell ⟨g, i, none⟩ v).heap[g]? = some (.cells (c.setIfInBounds i v) t fr) := by
  simp [World.setCell, Array.getElem?_modify, h]
theorem frozP {w : World} {g : Nat} {l : Array Value} {t : TypeId} (h : w.heap[g]? = some (.cells l t (0, 0))) (i : Nat) : w.frozen? ⟨g, i, none⟩ = false := by
  simp [World.frozen?, h]
theorem cellP {w : World} {g i : Nat} {cs : Array Value} {T : TypeId} {fz : Nat × Nat} {v : Value} (h : w.heap[g]? = some (.cells cs T fz)) (hi : cs[i]? = some v) : w.cell? ⟨g, i, none⟩ = some v := by
  simp [World.cell?, h, hi]
theorem setP2_heap {w : World} {g : Nat} {t : TypeId} {fr : Nat × Nat} {x0 x1 y0 y1 : Value} (h : w.heap[g]? = some (.cells #[x0, x1] t fr)) :
    ((w.setCell ⟨g, 0, none⟩ y0).setCell ⟨g, 1, none⟩ y1).heap[g]? = some (.cells #[y0, y1] t fr) :=
  setP_heap (i := 1) (v := y1) (setP_heap (i := 0) (v := y0) h)

set_option maxHeartbeats 1000000 in
theorem pair_any (x : List UInt8) (w : World) (hs : x.length ≤ 100000) (hM : MaxL w) : Calls Tryd.prog 16 #[S x] w fun e w' => e = .returned (.agg #[S (pairOf x).1, S (pairOf x).2]) ∧ Ext w w' := by
  obtain ⟨wa, hwa⟩ : ∃ wa, wa = w.alloc (.cells #[.string ⟨#[]⟩, .string ⟨#[]⟩] 25) := ⟨_, rfl⟩
  have xa : Ext w wa := by rw [hwa]; exact Ext.alloc w _
  have ha : wa.heap[w.heap.size]? = some (.cells #[.string ⟨#[]⟩, .string ⟨#[]⟩] 25 (0, 0)) := by
    rw [hwa]
    exact heap_alloc_new w _
  have hba : w.heap.size < wa.heap.size := (Array.getElem?_eq_some_iff.1 ha).1
  have HM := hide (MaxL.below hM xa)
  have HU := hide (cutq_any 61 x wa (by omega) (unhide HM))
  have hl2 := cut1_len 61 x
  have hpo : pairOf x = (plainB (cut1 61 x).1, plainB (cut1 61 x).2) := rfl
  have FIN : Hid (∃ X1 X2, X1 = plainB (cut1 61 x).1 ∧ X2 = plainB (cut1 61 x).2 ∧ pairOf x = (X1, X2)) := ⟨_, _, rfl, rfl, hpo⟩
  obtain ⟨X1, X2, hX1, hX2, hX3⟩ := unhide FIN
  rw [hX3]
  clear hpo hM FIN hX3
  go_enter Tryd.func16, Tryd.ntmps16
  go_wp2_with fail
  rw [← hwa]
  refine (unhide HU).mono ?_
  rintro e w4 ⟨more2, rfl, ⟨n2, rfl⟩, _⟩
  clear HU
  have x4 : Ext wa (wa.drewN n2) := Ext.drewN wa n2
  generalize hw4 : wa.drewN n2 = w4 at *
  have HP1 := hide (read_any (cut1 61 x).1 w4 (by omega) ((unhide HM).below x4))
  have HP2 := hide (fun (v : World) (hv : Ext w4 v) => read_any (cut1 61 x).2 v (by omega) ((unhide HM).below (x4.trans hv)))
  rw [← hX1] at HP1
  rw [← hX2] at HP2
  clear hX1 hX2
  generalize (cut1 61 x).1 = P1 at *
  generalize (cut1 61 x).2 = P2 at *
  have XX := hide x4
  have XA := hide xa
  have HA := hide ha
  clear hl2 x4 hw4 xa ha
  go_wp2_with fail
  refine (unhide HP1).mono ?_
  rintro e w5 ⟨rfl, hx5⟩
  have HP3 := hide (unhide HP2 w5 hx5)
  have X5 : Hid (Ext wa w5) := (unhide XX).trans hx5
  clear HP1 HP2 hx5 XX
  go_wp2_with fail
  refine (unhide HP3).mono ?_
  rintro e w6 ⟨rfl, hx6⟩
  have X6 : Ext wa w6 := (unhide X5).trans hx6
  have hH := (X6.block _ hba).trans (unhide HA)
  have FF : Hid (Ext w w6) := (unhide XA).trans X6
  have c0 := cellP (i := 0) hH rfl
  have c1 := cellP (i := 1) hH rfl
  have f0 := frozP hH 0
  have f1 := frozP hH 1
  have HH := hide hH
  clear HP3 hx6 X5 X6 hH HA XA
  go_wp2
  refine bodyPost_ret (v := .agg #[S X1, S X2]) (results_cell_row rfl _ _ w.heap.size 25 #[S X1, S X2] (0, 0) _ rfl (setP2_heap (unhide HH)) Tryd.underlying25 rfl (by kernel_rfl)) rfl ?_
  exact ⟨rfl, ((unhide FF).setCell (Nat.le_refl _) _).setCell (Nat.le_refl _) _⟩
end Go.Proofs.YtilmkmplaehcaaaDoor
