/-
  The walk of PunyForms, over what Encode and Decode of package puny tell.
-/
import Derived.Test.YtpjlihohpggnlaaPunyW
namespace Go.Proofs.Ytpjlihohpggnlaa
set_option linter.unusedVariables false
open Go.RowKit

def wds : List (List Nat) := [[], [97], [252], [228, 246], [109, 252, 110, 99, 104, 101, 110], [51, 98]]
def txs : List (List UInt8) := [[], [97, 45], [116, 100, 97], [52, 99, 97, 54, 98], [109, 110, 99, 104, 101, 110, 45, 51, 121, 97], [51, 98, 45]]
def bds : List (List UInt8) := [[33], [97, 45, 33], [116, 100, 97, 33], [57, 57, 57, 57, 57, 57, 57, 57], [195, 164], [97, 45, 98, 45, 128]]

theorem wds_ok : ∀ j : Fin 6, (penc (wds.getD j.val [])).isSome = true ∧ (j.val ≠ 3 → penc (wds.getD j.val []) = some (txs.getD j.val [])) ∧ (wds.getD j.val []).length ≤ 7 ∧ (∀ x ∈ wds.getD j.val [], x ≤ 255) := by decide +kernel
theorem bds_ok : ∀ j : Fin 6, pdec (bds.getD j.val []) = none ∧ (bds.getD j.val []).length ≤ 8 := by decide +kernel
theorem one_bad : penc [55296] = none := by decide +kernel
theorem many_bad : penc (List.replicate 64 0) = none := by decide +kernel
theorem none_good : pdec [] = some [] := by decide +kernel

/-- The words, laid out. -/
def wA (w : World) : World := ((((((w).alloc (.cells #[] 21)).alloc (.cells #[.int .i32 97] 21)).alloc (.cells #[.int .i32 252] 21)).alloc (.cells #[.int .i32 228, .int .i32 246] 21)).alloc (.cells #[.int .i32 109, .int .i32 252, .int .i32 110, .int .i32 99, .int .i32 104, .int .i32 101, .int .i32 110] 21)).alloc (.cells #[.int .i32 51, .int .i32 98] 21)
def wB (w : World) : World := (wA w).alloc (.cells #[.slice (some ⟨w.heap.size, 0, none⟩) 0 0, .slice (some ⟨w.heap.size + 1, 0, none⟩) 1 1, .slice (some ⟨w.heap.size + 2, 0, none⟩) 1 1, .slice (some ⟨w.heap.size + 3, 0, none⟩) 2 2, .slice (some ⟨w.heap.size + 4, 0, none⟩) 7 7, .slice (some ⟨w.heap.size + 5, 0, none⟩) 2 2] 22)
def wC (w : World) : World := w.alloc (.cells #[.string ⟨#[]⟩, .string ⟨#[97, 45]⟩, .string ⟨#[116, 100, 97]⟩, .string ⟨#[52, 99, 97, 54, 98]⟩, .string ⟨#[109, 110, 99, 104, 101, 110, 45, 51, 121, 97]⟩, .string ⟨#[51, 98, 45]⟩] 9)
def wD (w : World) : World := w.alloc (.cells #[.string ⟨#[33]⟩, .string ⟨#[97, 45, 33]⟩, .string ⟨#[116, 100, 97, 33]⟩, .string ⟨#[57, 57, 57, 57, 57, 57, 57, 57]⟩, .string ⟨#[195, 164]⟩, .string ⟨#[97, 45, 98, 45, 128]⟩] 9)

theorem grow (w : World) (o : Obj) : (w.alloc o).heap.size = w.heap.size + 1 := by
  show (w.heap.push o).size = _
  simp
theorem size_wA (w : World) : (wA w).heap.size = w.heap.size + 6 := by
  unfold wA
  simp only [grow]
theorem size_wB (w : World) : (wB w).heap.size = w.heap.size + 7 := by
  unfold wB
  rw [grow, size_wA]
theorem ext_wA (w : World) : Ext w (wA w) := (((((Ext.alloc w _).trans (Ext.alloc _ _)).trans (Ext.alloc _ _)).trans (Ext.alloc _ _)).trans (Ext.alloc _ _)).trans (Ext.alloc _ _)
theorem ext_wB (w : World) : Ext w (wB w) := (ext_wA w).trans (Ext.alloc _ _)
theorem ext_wC (w : World) : Ext w (wC w) := Ext.alloc w _
theorem ext_wD (w : World) : Ext w (wD w) := Ext.alloc w _

theorem rd_word (w : World) : ∀ j : Nat, j < 6 → RdV (wA w) (some ⟨w.heap.size + j, 0, none⟩) (wds.getD j []).length ((ints (wds.getD j [])).map R)
  | 0, _ => by
    have h := RdV.lit (w) (([] : List Int).map R) 21 (0, 0) (show 0 ≤ 9223372036854775807 by omega)
    exact h.below ((((((Ext.refl _).trans (Ext.alloc _ _)).trans (Ext.alloc _ _)).trans (Ext.alloc _ _)).trans (Ext.alloc _ _)).trans (Ext.alloc _ _))
  | 1, _ => by
    have h := RdV.lit ((w).alloc (.cells #[] 21)) (([97] : List Int).map R) 21 (0, 0) (show 1 ≤ 9223372036854775807 by omega)
    simp only [grow] at h
    exact h.below (((((Ext.refl _).trans (Ext.alloc _ _)).trans (Ext.alloc _ _)).trans (Ext.alloc _ _)).trans (Ext.alloc _ _))
  | 2, _ => by
    have h := RdV.lit (((w).alloc (.cells #[] 21)).alloc (.cells #[.int .i32 97] 21)) (([252] : List Int).map R) 21 (0, 0) (show 1 ≤ 9223372036854775807 by omega)
    simp only [grow] at h
    exact h.below ((((Ext.refl _).trans (Ext.alloc _ _)).trans (Ext.alloc _ _)).trans (Ext.alloc _ _))
  | 3, _ => by
    have h := RdV.lit ((((w).alloc (.cells #[] 21)).alloc (.cells #[.int .i32 97] 21)).alloc (.cells #[.int .i32 252] 21)) (([228, 246] : List Int).map R) 21 (0, 0) (show 2 ≤ 9223372036854775807 by omega)
    simp only [grow] at h
    exact h.below (((Ext.refl _).trans (Ext.alloc _ _)).trans (Ext.alloc _ _))
  | 4, _ => by
    have h := RdV.lit (((((w).alloc (.cells #[] 21)).alloc (.cells #[.int .i32 97] 21)).alloc (.cells #[.int .i32 252] 21)).alloc (.cells #[.int .i32 228, .int .i32 246] 21)) (([109, 252, 110, 99, 104, 101, 110] : List Int).map R) 21 (0, 0) (show 7 ≤ 9223372036854775807 by omega)
    simp only [grow] at h
    exact h.below ((Ext.refl _).trans (Ext.alloc _ _))
  | 5, _ => by
    have h := RdV.lit ((((((w).alloc (.cells #[] 21)).alloc (.cells #[.int .i32 97] 21)).alloc (.cells #[.int .i32 252] 21)).alloc (.cells #[.int .i32 228, .int .i32 246] 21)).alloc (.cells #[.int .i32 109, .int .i32 252, .int .i32 110, .int .i32 99, .int .i32 104, .int .i32 101, .int .i32 110] 21)) (([51, 98] : List Int).map R) 21 (0, 0) (show 2 ≤ 9223372036854775807 by omega)
    simp only [grow] at h
    exact h.below (Ext.refl _)
  | n + 6, h => absurd h (by omega)

theorem cell_word (w : World) : ∀ j : Nat, j < 6 → (wB w).cell? ⟨w.heap.size + 6, j, none⟩ = some (.slice (some ⟨w.heap.size + j, 0, none⟩) (wds.getD j []).length (wds.getD j []).length) := by
  intro j hj
  have e : w.heap.size + 6 = (wA w).heap.size := (size_wA w).symm
  unfold wB
  rw [e, World.cell?_alloc_mark]
  match j, hj with
  | 0, _ => rfl
  | 1, _ => rfl
  | 2, _ => rfl
  | 3, _ => rfl
  | 4, _ => rfl
  | 5, _ => rfl
  | n + 6, h => exact absurd h (by omega)

theorem row_str (w : World) (ls : List (List UInt8)) (hl : ls.length = 6) : ∀ j : Nat, j < 6 → (w.alloc (.cells (ls.map S).toArray 9)).cell? ⟨w.heap.size, j, none⟩ = some (S (ls.getD j [])) := by
  intro j hj
  rw [World.cell?_alloc_mark]
  simp [List.getD, hl, hj]

theorem keep {w w' : World} {p : Addr} {v : Value} (h : w.cell? p = some v) (hx : Ext w w') : w'.cell? p = some v := by
  rw [← h]
  exact hx.cell (cell_lt h)

set_option maxHeartbeats 1600000 in
theorem forms_walk (PE : EncOf 9) (PD : DecOf 11) (w : World) : Calls Try.prog 7 #[] w fun e w' => e = .returned (.bool true) ∧ Below w.heap.size w w' := by
  have HB := hide (begun_yes PE PD)
  have HE := hide PE
  have HD := hide PD
  clear PE PD
  go_enter Try.func7, Try.ntmps7
  go_wp2_with fail
  refine (unhide HB _).mono ?_
  rintro e w1 ⟨rfl, hx1⟩
  clear HB
  go_wp2_with fail
  have hwd : ∀ j, j < 6 → (wC (wB w1)).cell? ⟨w1.heap.size + 6, j, none⟩ = some (.slice (some ⟨w1.heap.size + j, 0, none⟩) (wds.getD j []).length (wds.getD j []).length) := fun j hj => keep (cell_word w1 j hj) (ext_wC _)
  have hrd : ∀ j, j < 6 → RdV (wC (wB w1)) (some ⟨w1.heap.size + j, 0, none⟩) (wds.getD j []).length ((ints (wds.getD j [])).map R) := fun j hj => (rd_word w1 j hj).below ((Ext.alloc (wA w1) _).trans (ext_wC _))
  have htx : ∀ j, j < 6 → (wC (wB w1)).cell? ⟨w1.heap.size + 7, j, none⟩ = some (S (txs.getD j [])) := by
    intro j hj
    have := row_str (wB w1) txs rfl j hj
    rw [size_wB] at this
    exact this
  have hxL := (hx1.trans (ext_wB w1)).trans (ext_wC _)
  change Code.wp _ _ _ _ (wC (wB w1))
  generalize wC (wB w1) = wL at *
  generalize hg : w1.heap.size = g at *
  clear hx1 hg
  go_loopw [3] (fun i wr => ∃ j : Nat, j ≤ 6 ∧ i = .int .i64 j ∧ Ext wL wr) (fun i _ => 6 - (intOf i).toNat)
  case atStart => exact ⟨0, by omega, rfl, Ext.refl _⟩
  case round =>
    obtain ⟨j, hj, rfl, hxr⟩ := hrel
    by_cases hjl : j < 6
    · obtain ⟨q1, q2, q3, q4⟩ := wds_ok ⟨j, hjl⟩
      simp only at q1 q2 q3 q4
      have c1 := keep (hwd j hjl) hxr
      have r1 := (hrd j hjl).below hxr
      have hT := hide fun (w' : World) (hx : Ext wL w') => keep (htx j hjl) hx
      clear hwd hrd htx
      generalize wds.getD j [] = ns at *
      generalize txs.getD j [] = tx at *
      obtain ⟨t, ht⟩ := Option.isSome_iff_exists.1 q1
      have hpi := penI_ints ns
      rw [ht] at hpi
      have e3 : eS (ints ns) = t ∧ eE (ints ns) = 0 := by unfold eS eE; rw [hpi]; exact ⟨rfl, rfl⟩
      have hil : (ints ns).length = ns.length := by unfold ints; simp
      have hrg : ∀ r ∈ ints ns, -2147483648 ≤ r ∧ r ≤ 2147483647 := by
        intro r hr
        unfold ints at hr
        obtain ⟨n, hn, rfl⟩ := List.mem_map.1 hr
        have := q4 n hn
        omega
      have HX := hide (unhide HE _ ns.length ns.length (ints ns) wr hil (by omega) hrg r1)
      unfold TellsE at HX
      rw [e3.1, e3.2] at HX
      have htt : j ≠ 3 → t = tx := by
        intro h
        have := q2 h
        rw [ht] at this
        exact Option.some.inj this
      clear q1 q2 q4 hpi e3 hrg r1 ht hil HE HD hxL
      go_wp2_with fail
      refine (unhide HX).mono ?_
      rintro e w2 ⟨rfl, hx2⟩
      have hx2 := hxr.trans hx2
      have c2 := unhide hT w2 hx2
      clear HX hT c1 hxr
      by_cases j3 : j = 3
      · subst j3
        clear htt
        go_wp2
        go_roundw
        case rel => exact ⟨4, by omega, by go_num, hx2⟩
        case measure => simp [intOf]
      · obtain rfl := htt j3
        have j4 : ((j : Int) != 3) = true := bne_iff_ne.2 (by omega)
        go_wp2
        go_roundw
        case rel => exact ⟨j + 1, by omega, by go_num, hx2⟩
        case measure => simp [intOf]; omega
    · have hxM := hxL.trans hxr
      clear hwd hrd htx hxL hxr
      go_wp2_with fail
      have hbd : ∀ j, j < 6 → (wD wr).cell? ⟨wr.heap.size, j, none⟩ = some (S (bds.getD j [])) := fun j hj => row_str wr bds rfl j hj
      have hxN := hxM.trans (ext_wD wr)
      change Code.wp _ _ _ _ (wD wr)
      generalize wD wr = wN at *
      generalize wr.heap.size = gb at *
      clear hxM
      go_loopw [7] (fun i wr => ∃ j : Nat, j ≤ 6 ∧ i = .int .i64 j ∧ Ext wN wr) (fun i _ => 6 - (intOf i).toNat)
      case atStart => exact ⟨0, by omega, rfl, Ext.refl _⟩
      case round =>
        clear hj hjl
        obtain ⟨j2, hj2, rfl, hx3⟩ := hrel
        by_cases hjl2 : j2 < 6
        · obtain ⟨q1, q2⟩ := bds_ok ⟨j2, hjl2⟩
          simp only at q1 q2
          have c1 := keep (hbd j2 hjl2) hx3
          clear hbd
          generalize bds.getD j2 [] = s at *
          have e2 : dL s = [] ∧ dE s = 2 := by unfold dL dE; rw [q1]; exact ⟨rfl, rfl⟩
          have HX := hide (fun w => unhide HD s w (by omega))
          unfold TellsD at HX
          rw [e2.1, e2.2] at HX
          clear e2 q1 q2 HE HD hxN
          go_wp2_with fail
          refine (unhide HX _).mono ?_
          rintro e w4 ⟨a4, c4, rfl, hr4, hx4⟩
          have hx4 := hx3.trans hx4
          clear HX c1 hr4 hx3
          go_wp2
          go_roundw
          case rel => exact ⟨j2 + 1, by omega, by go_num, hx4⟩
          case measure => simp [intOf]; omega
        · have hxP := hxN.trans hx3
          clear hbd hxN hx3
          have hmk : ∀ w, (Instr.makeSlice 22 (.int .i64 64) (.int .i64 64)).run Try.prog w = .ok (.slice (some ⟨w.heap.size, 0, none⟩) 64 64) (w.alloc (.cells (List.replicate 64 (R 0)).toArray 21)) := fun _ => by kernel_rfl
          have HM := hide fun (w : World) => RdV.lit w (List.replicate 64 (R 0)) 21 (0, 0) (show (List.replicate 64 (R 0)).length ≤ 9223372036854775807 by simp)
          have E1 := hide (unhide HE _ 1 1 [55296] _ rfl (by omega) (by decide) (RdV.lit wr (([55296] : List Int).map R) 21 (0, 0) (show 1 ≤ 9223372036854775807 by omega)))
          have p1 : penI [55296] = none := by
            have := penI_ints [55296]
            rw [one_bad] at this
            exact this
          have e1 : eE [55296] = 1 := by unfold eE; rw [p1]; rfl
          unfold TellsE at E1
          rw [e1] at E1
          generalize eS [55296] = s1 at E1
          go_wp2_with fail
          refine (unhide E1).mono ?_
          rintro e w5 ⟨rfl, hx5⟩
          have hx5 := (hxP.trans (Ext.alloc wr _)).trans hx5
          clear E1 e1 p1 hxP
          have p2 : penI (List.replicate 64 0) = none := by
            have := penI_ints (List.replicate 64 0)
            rw [many_bad] at this
            rw [← this]
            rfl
          have e2 : eE (List.replicate 64 0) = 1 := by unfold eE; rw [p2]; rfl
          have R2 := unhide HM w5
          have E2 := hide (unhide HE _ 64 _ (List.replicate 64 0) _ (by simp) (by omega) (fun r hr => by have := List.eq_of_mem_replicate hr; omega) (by rw [List.map_replicate]; exact R2))
          unfold TellsE at E2
          rw [e2, List.length_replicate] at E2
          generalize eS (List.replicate 64 0) = s2 at E2
          clear e2 p2 R2 HM HE
          go_wp2_with fail
          refine (unhide E2).mono ?_
          rintro e w6 ⟨rfl, hx6⟩
          have hx6 := (hx5.trans (Ext.alloc w5 _)).trans hx6
          clear E2 hx5 hmk
          have e3 : dL [] = [] ∧ dE [] = 0 := by unfold dL dE; rw [none_good]; exact ⟨rfl, rfl⟩
          have E3 := hide (fun w => unhide HD [] w (by simp))
          unfold TellsD at E3
          rw [e3.1, e3.2] at E3
          clear e3 HD
          go_wp2_with fail
          refine (unhide E3 _).mono ?_
          rintro e w7 ⟨a7, c7, rfl, hr7, hx7⟩
          have hx7 := hx6.trans hx7
          clear E3 hr7 hx6
          go_wp2
          go_ret
          exact ⟨rfl, hx7⟩
end Go.Proofs.Ytpjlihohpggnlaa
