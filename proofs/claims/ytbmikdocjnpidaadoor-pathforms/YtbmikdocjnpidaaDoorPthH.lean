/-
  What some ways are; dots that turn nothing.
-/
import Derived.Test.YtbmikdocjnpidaaDoorPthG
namespace Go.Proofs.YtbmikdocjnpidaaDoor
set_option linter.unusedVariables false
open Go.RowKit

theorem at_row {w : World} {g c : Nat} {l : List (List UInt8)} (h : RdV w (some ⟨g, 0, none⟩) c (l.map S)) (k : Nat) (hk : k < l.length) : w.cell? ⟨g, k, none⟩ = some (S (l.getD k [])) := by
  obtain ⟨b', off', eb, hc⟩ := h.cell k (by simpa using hk)
  simp only [Option.some.injEq, Addr.mk.injEq] at eb
  obtain ⟨rfl, rfl, _⟩ := eb
  rw [Nat.zero_add] at hc
  rw [hc]
  simp [List.getD, hk]

def oneT : List (List UInt8) := [[46], [37, 50, 101], [37, 50, 69]]
def twoT : List (List UInt8) := [[46, 46], [46, 37, 50, 101], [37, 50, 69, 46], [37, 50, 101, 37, 50, 69]]
theorem oneT_ok : ∀ k : Fin 3, sing (oneT.getD k.val []) = true ∧ doub (oneT.getD k.val []) = false ∧ (∀ y ∈ oneT.getD k.val [], y ≠ 47) ∧ (∀ y ∈ oneT.getD k.val [], y ≠ 92) ∧ (oneT.getD k.val []).length ≤ 6 := by decide +kernel
theorem twoT_ok : ∀ k : Fin 4, doub (twoT.getD k.val []) = true ∧ (∀ y ∈ twoT.getD k.val [], y ≠ 47) ∧ (∀ y ∈ twoT.getD k.val [], y ≠ 92) ∧ (twoT.getD k.val []).length ≤ 6 := by decide +kernel

/-- Show of Parse. -/
theorem shpar (s : List UInt8) (sp : Bool) : (par s sp []).length ≤ s.length + 1 := by
  have := par_len s sp []
  rw [List.length_nil] at this
  omega

set_option maxHeartbeats 4000000 in
theorem dots10_walk (a b : List UInt8) (n : Nat) (hn : n < 256) (w : World) (tb : MaxL w) : Calls Tryd.prog 7 #[S a, S b, .int .u8 (n : Int)] w fun e w' => e = .returned (.bool true) ∧ Ext w w' := by
  have hsa := size_S a
  have hsb := size_S b
  have HB := hide (begun_yes w tb)
  by_cases hla : a.length ≤ 40
  · by_cases hlb : b.length ≤ 40
    · have hl1 : ¬ 40 < (a.length : Int) := by omega
      have hl2 : ¬ 40 < (b.length : Int) := by omega
      have HD1 := hide (fun v : World => doub_any a v)
      have HD2 := hide (fun v : World => doub_any b v)
      have HS1 := hide (fun v : World => sing_any a v)
      generalize hda : doub a = da at *
      generalize hdb : doub b = db at *
      generalize hsga : sing a = sa at *
      go_enter Tryd.func7, Tryd.ntmps7
      go_wp2_with fail
      refine (unhide HB).mono ?_
      rintro e w1 ⟨rfl, hx1⟩
      clear HB
      go_wp2_with fail
      refine (unhide HD1 w1).mono ?_
      rintro e w2 ⟨rfl, hx2⟩
      clear HD1
      have F2 : Hid (Ext w w2) := hx1.trans hx2
      clear hx1 hx2
      cases da with
      | true =>
        clear HD2 HS1
        go_wp2
        go_ret
        exact ⟨rfl, unhide F2⟩
      | false =>
        go_wp2_with fail
        refine (unhide HD2 w2).mono ?_
        rintro e w3 ⟨rfl, hx3⟩
        clear HD2
        have F3 : Hid (Ext w w3) := (unhide F2).trans hx3
        clear hx3 F2
        cases db with
        | true =>
          clear HS1
          go_wp2
          go_ret
          exact ⟨rfl, unhide F3⟩
        | false =>
          go_wp2_with fail
          refine (unhide HS1 w3).mono ?_
          rintro e w4 ⟨rfl, hx4⟩
          clear HS1
          have F4 : Hid (Ext w w4) := (unhide F3).trans hx4
          clear hx4 F3
          cases sa with
          | true =>
            go_wp2
            go_ret
            exact ⟨rfl, unhide F4⟩
          | false =>
            have d1 : decide (40 < (a.length : Int)) = false := by rw [decide_eq_false_iff_not]; omega
            have d2 : decide (40 < (b.length : Int)) = false := by rw [decide_eq_false_iff_not]; omega
            have HIX := hide (fun (v : World) (k : Nat) (hk : k < a.length) => idx_str v a .i64 k hk)
            go_wp2_with fail
            go_loopw [7] (fun i wr => ∃ k : Nat, k ≤ a.length ∧ i = .int .i64 (k : Int) ∧ (∀ j < k, a.getD j 0 ≠ 47 ∧ a.getD j 0 ≠ 92) ∧ ∃ m, wr = w4.drewN m) (fun i _ => a.length - (intOf i).toNat)
            case atStart => exact ⟨0, by omega, rfl, fun j hj => absurd hj (by omega), 0, rfl⟩
            case round =>
              obtain ⟨k, hk, rfl, hnone, m, rfl⟩ := hrel
              by_cases hkl : k < a.length
              · have hkl' : (k : Int) < (a.length : Int) := by omega
                have hix := unhide HIX (w4.drewN m) k hkl
                have hnx : a.getD k 0 ≠ 47 → a.getD k 0 ≠ 92 → ∀ j < k + 1, a.getD j 0 ≠ 47 ∧ a.getD j 0 ≠ 92 := fun h1 h2 j hj => by
                  rcases Nat.lt_succ_iff_lt_or_eq.1 hj with h3 | rfl
                  · exact hnone j h3
                  · exact ⟨h1, h2⟩
                clear HIX hnone
                generalize a.getD k 0 = x at *
                have F5 : Hid (Ext w (w4.drewN m)) := (unhide F4).trans (Ext.drewN _ _)
                clear F4
                by_cases h1 : x = 47
                · subst h1
                  clear hnx
                  go_wp2
                  go_ret
                  exact ⟨rfl, unhide F5⟩
                · have n1 : (x.toNat : Int) ≠ 47 := fun e => h1 (UInt8.toNat_inj.1 (by show x.toNat = 47; omega))
                  by_cases h2 : x = 92
                  · subst h2
                    clear hnx
                    go_wp2
                    go_ret
                    exact ⟨rfl, unhide F5⟩
                  · have n2 : (x.toNat : Int) ≠ 92 := fun e => h2 (UInt8.toNat_inj.1 (by show x.toNat = 92; omega))
                    have q1 : ((x.toNat : Int) == 47) = false := by rw [beq_eq_false_iff_ne]; exact n1
                    have q2 : ((x.toNat : Int) == 92) = false := by rw [beq_eq_false_iff_ne]; exact n2
                    have HN := hide (hnx h1 h2)
                    clear hnx h1 h2 F5
                    go_wp2
                    go_roundw
                    case rel => exact ⟨k + 1, by omega, by go_num, unhide HN, _, rfl⟩
                    case measure => simp [intOf]; omega
              · have hkl' : ¬ (k : Int) < (a.length : Int) := by omega
                have hk2 : k = a.length := by omega
                subst hk2
                have h47 : ∀ y ∈ a, y ≠ 47 := fun y hy => by
                  obtain ⟨j, hj⟩ := List.getElem?_of_mem hy
                  have := (hnone j (List.getElem?_eq_some_iff.1 hj).1).1
                  simpa [List.getD, hj] using this
                have h92 : ∀ y ∈ a, y ≠ 92 := fun y hy => by
                  obtain ⟨j, hj⟩ := List.getElem?_of_mem hy
                  have := (hnone j (List.getElem?_eq_some_iff.1 hj).1).2
                  simpa [List.getD, hj] using this
                have F5 : Hid (Ext w (w4.drewN m)) := (unhide F4).trans (Ext.drewN _ _)
                obtain ⟨i3, hi3⟩ : ∃ i : Nat, i = n % 3 := ⟨_, rfl⟩
                obtain ⟨i4, hi4⟩ : ∃ i : Nat, i = n % 4 := ⟨_, rfl⟩
                have m3 : ((n : Int) % 3) = (i3 : Int) := by omega
                have m4 : ((n : Int) % 4) = (i4 : Int) := by omega
                have hn3 : i3 < 3 := by omega
                have hn4 : i4 < 4 := by omega
                obtain ⟨o1, o2, o3, o4, o5⟩ : sing (oneT.getD i3 []) = true ∧ doub (oneT.getD i3 []) = false ∧ (∀ y ∈ oneT.getD i3 [], y ≠ 47) ∧ (∀ y ∈ oneT.getD i3 [], y ≠ 92) ∧ (oneT.getD i3 []).length ≤ 6 := oneT_ok ⟨i3, hn3⟩
                obtain ⟨t1, t2, t3, t4⟩ : doub (twoT.getD i4 []) = true ∧ (∀ y ∈ twoT.getD i4 [], y ≠ 47) ∧ (∀ y ∈ twoT.getD i4 [], y ≠ 92) ∧ (twoT.getD i4 []).length ≤ 6 := twoT_ok ⟨i4, hn4⟩
                have E1 := one_turns (oneT.getD i3 []) b o1 o2 o3 o4
                have E2 := back_turns a (twoT.getD i4 []) b hsga hda h47 h92 t1 t2 t3
                have E3 := two_turns (twoT.getD i4 []) b t1 t2 t3
                have hMq := MaxL.below tb (unhide F5)
                have HT := hide tb
                clear o1 o2 o3 o4 t1 t2 t3 hnone h47 h92 F4 HIX HT tb
                generalize w4.drewN m = wq at *
                have c1 : (wq.alloc (.cells #[.string ⟨#[46]⟩, .string ⟨#[37, 50, 101]⟩, .string ⟨#[37, 50, 69]⟩] 9 (0, 0))).cell? ⟨wq.heap.size, i3, none⟩ = some (S (oneT.getD i3 [])) :=
                  at_row (l := oneT) (RdV.lit wq (oneT.map S) 9 (0, 0) (by decide)) i3 hn3
                have c2 : ((wq.alloc (.cells #[.string ⟨#[46]⟩, .string ⟨#[37, 50, 101]⟩, .string ⟨#[37, 50, 69]⟩] 9 (0, 0))).alloc (.cells #[.string ⟨#[46, 46]⟩, .string ⟨#[46, 37, 50, 101]⟩, .string ⟨#[37, 50, 69, 46]⟩, .string ⟨#[37, 50, 101, 37, 50, 69]⟩] 9 (0, 0))).cell? ⟨wq.heap.size + 1, i4, none⟩ = some (S (twoT.getD i4 [])) := by
                  have := at_row (l := twoT) (RdV.lit (wq.alloc (.cells #[.string ⟨#[46]⟩, .string ⟨#[37, 50, 101]⟩, .string ⟨#[37, 50, 69]⟩] 9 (0, 0))) (twoT.map S) 9 (0, 0) (by decide)) i4 hn4
                  rw [show (wq.alloc (.cells #[.string ⟨#[46]⟩, .string ⟨#[37, 50, 101]⟩, .string ⟨#[37, 50, 69]⟩] 9 (0, 0))).heap.size = wq.heap.size + 1 by simp] at this
                  exact this
                have X2 : Hid (Ext w ((wq.alloc (.cells #[.string ⟨#[46]⟩, .string ⟨#[37, 50, 101]⟩, .string ⟨#[37, 50, 69]⟩] 9 (0, 0))).alloc (.cells #[.string ⟨#[46, 46]⟩, .string ⟨#[46, 37, 50, 101]⟩, .string ⟨#[37, 50, 69, 46]⟩, .string ⟨#[37, 50, 101, 37, 50, 69]⟩] 9 (0, 0)))) := (unhide F5).trans ((Ext.alloc wq _).trans (Ext.alloc _ _))
                have hM2 : MaxL ((wq.alloc (.cells #[.string ⟨#[46]⟩, .string ⟨#[37, 50, 101]⟩, .string ⟨#[37, 50, 69]⟩] 9 (0, 0))).alloc (.cells #[.string ⟨#[46, 46]⟩, .string ⟨#[46, 37, 50, 101]⟩, .string ⟨#[37, 50, 69, 46]⟩, .string ⟨#[37, 50, 101, 37, 50, 69]⟩] 9 (0, 0))) := hMq.below ((Ext.alloc wq _).trans (Ext.alloc _ _))
                have hn3' : (i3 : Int) < 3 := by omega
                have hn4' : (i4 : Int) < 4 := by omega
                clear hi3 hi4 F5 hMq
                have hO1 := size_S (oneT.getD i3 [])
                have hT2 := size_S (twoT.getD i4 [])
                generalize oneT.getD i3 [] = O1 at *
                generalize twoT.getD i4 [] = T2 at *
                have k1 := cat_to O1 [47]
                have k2 := cat_to (O1 ++ [47]) b
                rw [show O1 ++ [47] ++ b = O1 ++ 47 :: b by simp] at k2
                have k3 := cat_to a [47]
                have k4 := cat_to (a ++ [47]) T2
                rw [show a ++ [47] ++ T2 = a ++ 47 :: T2 by simp] at k4
                have k5 := cat_to (a ++ 47 :: T2) [47]
                rw [show a ++ 47 :: T2 ++ [47] = a ++ 47 :: (T2 ++ [47]) by simp] at k5
                have k6 := cat_to (a ++ 47 :: (T2 ++ [47])) b
                rw [show a ++ 47 :: (T2 ++ [47]) ++ b = a ++ 47 :: (T2 ++ 47 :: b) by simp] at k6
                have k7 := cat_to T2 [47]
                have k8 := cat_to (T2 ++ [47]) b
                rw [show T2 ++ [47] ++ b = T2 ++ 47 :: b by simp] at k8
                have P0 := hide (parse_nil b true _ (by omega) hM2)
                obtain ⟨hsw, hsl⟩ := shw_par b true (by omega)
                have hM2 := hide hM2
                clear hda hdb hsga
                have HW2 : Hid (∀ v, Ext ((wq.alloc (.cells #[.string ⟨#[46]⟩, .string ⟨#[37, 50, 101]⟩, .string ⟨#[37, 50, 69]⟩] 9 (0, 0))).alloc (.cells #[.string ⟨#[46, 46]⟩, .string ⟨#[46, 37, 50, 101]⟩, .string ⟨#[37, 50, 69, 46]⟩, .string ⟨#[37, 50, 101, 37, 50, 69]⟩] 9 (0, 0))) v → (Calls Tryd.prog 9 #[S (O1 ++ 47 :: b), .bool true, .slice none 0 0] v fun e w' => ∃ g c, e = .returned (.slice (some ⟨g, 0, none⟩) (par b true []).length c) ∧ RdV w' (some ⟨g, 0, none⟩) c ((par b true []).map S) ∧ Ext v w') ∧
                    (Calls Tryd.prog 9 #[S (a ++ 47 :: (T2 ++ 47 :: b)), .bool true, .slice none 0 0] v fun e w' => ∃ g c, e = .returned (.slice (some ⟨g, 0, none⟩) (par b true []).length c) ∧ RdV w' (some ⟨g, 0, none⟩) c ((par b true []).map S) ∧ Ext v w') ∧
                    (Calls Tryd.prog 9 #[S (T2 ++ 47 :: b), .bool true, .slice none 0 0] v fun e w' => ∃ g c, e = .returned (.slice (some ⟨g, 0, none⟩) (par b true []).length c) ∧ RdV w' (some ⟨g, 0, none⟩) c ((par b true []).map S) ∧ Ext v w')) := fun v hv => by
                  have h1 := parse_nil (O1 ++ 47 :: b) true v (by simp; omega) ((unhide hM2).below hv)
                  have h2 := parse_nil (a ++ 47 :: (T2 ++ 47 :: b)) true v (by simp; omega) ((unhide hM2).below hv)
                  have h3 := parse_nil (T2 ++ 47 :: b) true v (by simp; omega) ((unhide hM2).below hv)
                  rw [E1] at h1
                  rw [E2] at h2
                  rw [E3] at h3
                  exact ⟨h1, h2, h3⟩
                clear E1 E2 E3 hM2
                generalize par b true [] = L at *
                have HSH := hide (fun (v : World) (g c : Nat) (h : RdV v (some ⟨g, 0, none⟩) c (L.map S)) => show_any (some ⟨g, 0, none⟩) c L v (by omega) h)
                generalize shw L = W at *
                go_wp2_with fail
                refine (unhide P0).mono ?_
                rintro e w5 ⟨g5, q5, rfl, R5, hx5⟩
                clear P0 c1 c2
                have S5 := hide (unhide HSH w5 g5 q5 R5)
                have X5 := hide hx5
                have F6 : Hid (Ext w w5) := (unhide X2).trans hx5
                clear R5 hx5 X2
                go_wp2_with fail
                refine (unhide S5).mono ?_
                rintro e w6 ⟨rfl, hx6⟩
                clear S5
                have X6 := hide ((unhide X5).trans hx6)
                have F7 : Hid (Ext w w6) := (unhide F6).trans hx6
                clear X5 F6 hx6
                generalize hgA : ((wq.alloc (.cells #[.string ⟨#[46]⟩, .string ⟨#[37, 50, 101]⟩, .string ⟨#[37, 50, 69]⟩] 9 (0, 0))).alloc (.cells #[.string ⟨#[46, 46]⟩, .string ⟨#[46, 37, 50, 101]⟩, .string ⟨#[37, 50, 69, 46]⟩, .string ⟨#[37, 50, 101, 37, 50, 69]⟩] 9 (0, 0))) = wA at *
                have P1 := hide (unhide HW2 w6 (unhide X6)).1
                go_wp2_with fail
                refine (unhide P1).mono ?_
                rintro e w7 ⟨g7, q7, rfl, R7, hx7⟩
                clear P1
                have S7 := hide (unhide HSH w7 g7 q7 R7)
                have X7 := hide ((unhide X6).trans hx7)
                have F8 : Hid (Ext w w7) := (unhide F7).trans hx7
                clear R7 hx7 X6 F7
                go_wp2_with fail
                refine (unhide S7).mono ?_
                rintro e w8 ⟨rfl, hx8⟩
                clear S7
                have X8 := hide ((unhide X7).trans hx8)
                have F9 : Hid (Ext w w8) := (unhide F8).trans hx8
                clear X7 F8 hx8
                have HE1 := hide (fun (v : World) (hv : Ext w8 v) => (unhide HW2 v ((unhide X8).trans hv)).2)
                clear HW2 X8
                go_wp2_with fail
                refine (unhide HE1 w8 (Ext.refl _)).1.mono ?_
                rintro e w9 ⟨g9, q9, rfl, R9, hx9⟩
                have S9 := hide (unhide HSH w9 g9 q9 R9)
                have FA : Hid (Ext w w9) := (unhide F9).trans hx9
                have HE2 := hide (fun (v : World) (hv : Ext w9 v) => (unhide HE1 v (hx9.trans hv)).2)
                clear R9 hx9 HE1 F9
                go_wp2_with fail
                refine (unhide S9).mono ?_
                rintro e wB ⟨rfl, hxB⟩
                clear S9
                have FB : Hid (Ext w wB) := (unhide FA).trans hxB
                have PC := hide (unhide HE2 wB hxB)
                clear hxB FA HE2
                go_wp2_with fail
                refine (unhide PC).mono ?_
                rintro e wC ⟨gC, qC, rfl, RC, hxC⟩
                have SC := hide (unhide HSH wC gC qC RC)
                have FC : Hid (Ext w wC) := (unhide FB).trans hxC
                clear RC hxC PC FB HSH
                go_wp2_with fail
                refine (unhide SC).mono ?_
                rintro e wD ⟨rfl, hxD⟩
                clear SC
                have FD := (unhide FC).trans hxD
                go_wp2
                go_ret
                exact ⟨rfl, FD⟩
    · have hl1 : ¬ 40 < (a.length : Int) := by omega
      have hl2 : 40 < (b.length : Int) := by omega
      go_enter Tryd.func7, Tryd.ntmps7
      go_wp2_with fail
      refine (unhide HB).mono ?_
      rintro e w1 ⟨rfl, hx1⟩
      clear HB
      go_wp2
      go_ret
      exact ⟨rfl, hx1⟩
  · have hl1 : 40 < (a.length : Int) := by omega
    go_enter Tryd.func7, Tryd.ntmps7
    go_wp2_with fail
    refine (unhide HB).mono ?_
    rintro e w1 ⟨rfl, hx1⟩
    clear HB
    go_wp2
    go_ret
    exact ⟨rfl, hx1⟩
end Go.Proofs.YtbmikdocjnpidaaDoor
