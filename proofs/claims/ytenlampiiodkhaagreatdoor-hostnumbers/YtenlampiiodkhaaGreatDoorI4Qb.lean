/-
  I4Q.
-/
import Derived.Test.YtenlampiiodkhaaGreatDoorBNb
namespace Go.Proofs.YtenlampiiodkhaaGreatDoor
set_option linter.unusedVariables false
open Go.RowKit

theorem shw_alt (a : Nat) : shw a = ((((((bdg 10 (a / 16777216) ++ [46]) ++ bdg 10 (a / 65536 % 256)) ++ [46]) ++ bdg 10 (a / 256 % 256)) ++ [46]) ++ bdg 10 (a % 256)) := by
  rw [shw_jn]
  simp [jn]
set_option maxHeartbeats 2000000 in
set_option maxRecDepth 100000 in
theorem rshow_any (a : Nat) (w : World) (ha : a < 4294967296) : Calls Tryz.prog 21 #[.int .u32 (a : Int)] w fun e w' => e = .returned (S (shw a)) ∧ Ext w w' := by
  rw [shw_alt]
  obtain ⟨q1, hq1⟩ : ∃ q, q = a / 16777216 := ⟨_, rfl⟩
  obtain ⟨q2, hq2⟩ : ∃ q, q = a / 65536 % 256 := ⟨_, rfl⟩
  obtain ⟨q3, hq3⟩ : ∃ q, q = a / 256 % 256 := ⟨_, rfl⟩
  obtain ⟨q4, hq4⟩ : ∃ q, q = a % 256 := ⟨_, rfl⟩
  rw [← hq1, ← hq2, ← hq3, ← hq4]
  have r1 : (a : Int) / 16777216 = (q1 : Int) := by omega
  have r2 : bits .and .u32 ((a : Int) / 65536) 255 = (q2 : Int) := by
    have := mask8 (a / 65536) (by omega)
    rw [hq2, ← this]
    congr 1
  have r3 : bits .and .u32 ((a : Int) / 256) 255 = (q3 : Int) := by
    have := mask8 (a / 256) (by omega)
    rw [hq3, ← this]
    congr 1
  have r4 : bits .and .u32 (a : Int) 255 = (q4 : Int) := by
    have := mask8 a ha
    rw [hq4, ← this]
  have b1 : q1 < 256 := by omega
  have b2 : q2 < 256 := by omega
  have b3 : q3 < 256 := by omega
  have b4 : q4 < 256 := by omega
  have z2 := wrap_u64 q2 b2
  have z3 := wrap_u64 q3 b3
  have z4 := wrap_u64 q4 b4
  clear hq1 hq2 hq3 hq4
  have K1 := hide (fun (v : World) => ten_any q1 v (by omega))
  have K2 := hide (fun (v : World) => ten_any q2 v (by omega))
  have K3 := hide (fun (v : World) => ten_any q3 v (by omega))
  have K4 := hide (fun (v : World) => ten_any q4 v (by omega))
  have lA := ten_len q1 (by omega)
  have lB := ten_len q2 (by omega)
  have lC := ten_len q3 (by omega)
  have lD := ten_len q4 (by omega)
  generalize bdg 10 q1 = A at *
  generalize bdg 10 q2 = B' at *
  generalize bdg 10 q3 = C at *
  generalize bdg 10 q4 = D at *
  obtain ⟨s1, es1⟩ : ∃ s : List UInt8, s = A ++ [46] := ⟨_, rfl⟩
  have cs1 : (⟨A.toArray⟩ : ByteArray) ++ (⟨#[46]⟩ : ByteArray) = ⟨s1.toArray⟩ := by
    rw [es1]
    exact cat_two A [46]
  have ls1 : s1.length ≤ A.length + 1 := by rw [es1, List.length_append]; exact Nat.le_refl _
  have ms1 : ¬ 9223372036854775807 < A.length + 1 := by omega
  obtain ⟨s2, es2⟩ : ∃ s : List UInt8, s = s1 ++ B' := ⟨_, rfl⟩
  have cs2 : (⟨s1.toArray⟩ : ByteArray) ++ (⟨B'.toArray⟩ : ByteArray) = ⟨s2.toArray⟩ := by
    rw [es2]
    exact cat_two s1 B'
  have ls2 : s2.length ≤ s1.length + B'.length := by rw [es2, List.length_append]; exact Nat.le_refl _
  have ms2 : ¬ 9223372036854775807 < s1.length + B'.length := by omega
  obtain ⟨s3, es3⟩ : ∃ s : List UInt8, s = s2 ++ [46] := ⟨_, rfl⟩
  have cs3 : (⟨s2.toArray⟩ : ByteArray) ++ (⟨#[46]⟩ : ByteArray) = ⟨s3.toArray⟩ := by
    rw [es3]
    exact cat_two s2 [46]
  have ls3 : s3.length ≤ s2.length + 1 := by rw [es3, List.length_append]; exact Nat.le_refl _
  have ms3 : ¬ 9223372036854775807 < s2.length + 1 := by omega
  obtain ⟨s4, es4⟩ : ∃ s : List UInt8, s = s3 ++ C := ⟨_, rfl⟩
  have cs4 : (⟨s3.toArray⟩ : ByteArray) ++ (⟨C.toArray⟩ : ByteArray) = ⟨s4.toArray⟩ := by
    rw [es4]
    exact cat_two s3 C
  have ls4 : s4.length ≤ s3.length + C.length := by rw [es4, List.length_append]; exact Nat.le_refl _
  have ms4 : ¬ 9223372036854775807 < s3.length + C.length := by omega
  obtain ⟨s5, es5⟩ : ∃ s : List UInt8, s = s4 ++ [46] := ⟨_, rfl⟩
  have cs5 : (⟨s4.toArray⟩ : ByteArray) ++ (⟨#[46]⟩ : ByteArray) = ⟨s5.toArray⟩ := by
    rw [es5]
    exact cat_two s4 [46]
  have ls5 : s5.length ≤ s4.length + 1 := by rw [es5, List.length_append]; exact Nat.le_refl _
  have ms5 : ¬ 9223372036854775807 < s4.length + 1 := by omega
  obtain ⟨s6, es6⟩ : ∃ s : List UInt8, s = s5 ++ D := ⟨_, rfl⟩
  have cs6 : (⟨s5.toArray⟩ : ByteArray) ++ (⟨D.toArray⟩ : ByteArray) = ⟨s6.toArray⟩ := by
    rw [es6]
    exact cat_two s5 D
  have ls6 : s6.length ≤ s5.length + D.length := by rw [es6, List.length_append]; exact Nat.le_refl _
  have ms6 : ¬ 9223372036854775807 < s5.length + D.length := by omega
  rw [← es1, ← es2, ← es3, ← es4, ← es5, ← es6]
  clear es1 es2 es3 es4 es5 es6
  go_enter Tryz.func21, Tryz.ntmps21
  go_wp2_with fail
  refine (unhide K1 _).mono ?_
  rintro e w1 ⟨rfl, hx1⟩
  go_wp2_with fail
  refine (unhide K2 _).mono ?_
  rintro e w2 ⟨rfl, hy⟩
  have hx2 := hx1.trans hy
  clear hy
  go_wp2_with fail
  refine (unhide K3 _).mono ?_
  rintro e w3 ⟨rfl, hy⟩
  have hx3 := hx2.trans hy
  clear hy
  go_wp2_with fail
  refine (unhide K4 _).mono ?_
  rintro e w4 ⟨rfl, hy⟩
  have hx4 := hx3.trans hy
  clear hy
  go_wp2
  go_ret
  exact ⟨rfl, hx4⟩

end Go.Proofs.YtenlampiiodkhaaGreatDoor
