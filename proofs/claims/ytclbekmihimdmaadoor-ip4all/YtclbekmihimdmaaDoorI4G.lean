/-
  That ip4 does something; what is shown is parsed; some addresses.
-/
import Derived.Test.YtclbekmihimdmaaDoorI4F
namespace Go.Proofs.YtclbekmihimdmaaDoor
set_option linter.unusedVariables false
open Go.RowKit

theorem shw_begun : shw 2130706433 = [49, 50, 55, 46, 48, 46, 48, 46, 49] := by
  unfold shw
  simp [Lib.decDigits]
theorem parse_lit (l : List UInt8) (o : Option Nat) (h : prs l = o) (hl : l.length ≤ 100000) (w : World) (tb : Tb4 w) : Calls Tryd.prog 9 #[S l] w fun e w' => e = .returned (.tuple #[.int .u32 (numV o), .int .i64 (perr o)]) ∧ Ext w w' := by
  rw [← h]
  exact parse_any l w hl tb
theorem ends_lit (l : List UInt8) (b : Bool) (h : ends l = b) (hl : l.length ≤ 100000) (w : World) : Calls Tryd.prog 11 #[S l] w fun e w' => e = .returned (.bool b) ∧ w' = w := by
  rw [← h]
  exact ends_any l w hl

set_option maxHeartbeats 1000000 in
theorem begun_yes (w : World) (tb : Tb4 w) : Calls Tryd.prog 8 #[] w fun e w' => e = .returned (.bool true) ∧ Ext w w' := by
  have H1 : Hid (Calls Tryd.prog 9 #[.string ⟨#[48, 120, 55, 102, 46, 49]⟩] w fun e w' => e = .returned (.tuple #[.int .u32 2130706433, .int .i64 0]) ∧ Ext w w') := parse_lit [48, 120, 55, 102, 46, 49] (some 2130706433) (by decide +kernel) (by decide) w tb
  have H2 : Hid (∀ v, Ext w v → Calls Tryd.prog 13 #[.int .u32 2130706433] v fun e w' => e = .returned (.string ⟨#[49, 50, 55, 46, 48, 46, 48, 46, 49]⟩) ∧ Ext v w') := fun v hv => by
    have := show_any 2130706433 v (by decide) (tb.below hv)
    rw [shw_begun] at this
    exact this
  have H3 : Hid (∀ v, Calls Tryd.prog 11 #[.string ⟨#[97, 46, 49]⟩] v fun e w' => e = .returned (.bool true) ∧ w' = v) := fun v => ends_lit [97, 46, 49] true (by decide +kernel) (by decide) v
  have H4 : Hid (∀ v, Calls Tryd.prog 11 #[.string ⟨#[49, 46, 97]⟩] v fun e w' => e = .returned (.bool false) ∧ w' = v) := fun v => ends_lit [49, 46, 97] false (by decide +kernel) (by decide) v
  go_enter Tryd.func8, Tryd.ntmps8
  go_wp2_with fail
  refine (unhide H1).mono ?_
  rintro e w1 ⟨rfl, hx1⟩
  clear H1
  go_wp2_with fail
  refine (unhide H2 _ hx1).mono ?_
  rintro e w2 ⟨rfl, hx2⟩
  clear H2
  go_wp2_with fail
  refine (unhide H3 _).mono ?_
  rintro e w3 ⟨rfl, hw⟩
  subst hw
  go_wp2_with fail
  refine (unhide H4 _).mono ?_
  rintro e w4 ⟨rfl, hw⟩
  subst hw
  go_wp2
  go_ret
  exact ⟨rfl, hx1.trans hx2⟩

theorem cat_dot (b : List UInt8) : (⟨b.toArray⟩ : ByteArray) ++ (⟨#[46]⟩ : ByteArray) = ⟨(b ++ [46]).toArray⟩ := by
  apply ByteArray.ext
  rw [ByteArray.data_append]
  simp
theorem shw_len (a : Nat) (h : a < 4294967296) : (shw a).length ≤ 16 := by
  have := shwK_len a 4 (Nat.le_refl _)
  rw [shwK_4 a h] at this
  omega

set_option maxHeartbeats 2000000 in
theorem back_walk (a : Nat) (ha : a < 4294967296) (w : World) (tb : Tb4 w) : Calls Tryd.prog 4 #[.int .u32 (a : Int)] w fun e w' => e = .returned (.bool true) ∧ Ext w w' := by
  have HB := hide (begun_yes w tb)
  have TB := hide (fun (w' : World) (hx : Ext w w') => tb.below hx)
  clear tb
  obtain ⟨p1, p2, p3, p4⟩ := show_back a ha
  have hsl := shw_len a ha
  have HS := hide (fun (v : World) (hv : Ext w v) => show_any a v ha (unhide TB v hv))
  have hcat := cat_dot (shw a)
  have hlen2 : ¬ 9223372036854775807 < (shw a).length + 1 := by omega
  have H1 := hide (fun (v : World) (hv : Ext w v) => parse_lit (shw a) (some a) p1 (by omega) v (unhide TB v hv))
  have H2 := hide (fun (v : World) (hv : Ext w v) => parse_lit (shw a ++ [46]) (some a) p2 (by simp; omega) v (unhide TB v hv))
  have H3 := hide (fun (v : World) => ends_lit (shw a) true p3 (by omega) v)
  have H4 := hide (fun (v : World) => ends_lit (shw a ++ [46]) true p4 (by simp; omega) v)
  clear p1 p2 p3 p4
  generalize shw a ++ [46] = Z at *
  generalize shw a = Y at *
  have e1 : numV (some a) = (a : Int) := rfl
  have e2 : perr (some a) = 0 := rfl
  rw [e1, e2] at H1 H2
  clear e1 e2
  go_enter Tryd.func4, Tryd.ntmps4
  go_wp2_with fail
  refine (unhide HB).mono ?_
  rintro e w1 ⟨rfl, hx1⟩
  clear HB
  go_wp2_with fail
  refine (unhide HS _ hx1).mono ?_
  rintro e w2 ⟨rfl, hx2'⟩
  have hx2 := hx1.trans hx2'
  clear HS hx2'
  go_wp2_with fail
  refine (unhide H1 _ hx2).mono ?_
  rintro e w3 ⟨rfl, hx3'⟩
  have hx3 := hx2.trans hx3'
  clear H1 hx3'
  go_wp2_with fail
  refine (unhide H2 _ hx3).mono ?_
  rintro e w4 ⟨rfl, hx4'⟩
  have hx4 := hx3.trans hx4'
  clear H2 hx4'
  go_wp2_with fail
  refine (unhide H3 _).mono ?_
  rintro e w5 ⟨rfl, hw⟩
  subst hw
  clear H3
  go_wp2_with fail
  refine (unhide H4 _).mono ?_
  rintro e w6 ⟨rfl, hw⟩
  subst hw
  clear H4
  go_wp2
  go_ret
  exact ⟨rfl, hx4⟩
end Go.Proofs.YtclbekmihimdmaaDoor
