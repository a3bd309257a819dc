/-
  The address is its four numbers.
-/
import Derived.Test.YtclbekmihimdmaaDoorI4G
import Derived.Test.YtclbekmihimdmaaDoorI4U
namespace Go.Proofs.YtclbekmihimdmaaDoor
set_option linter.unusedVariables false
open Go.RowKit

theorem cat_two (x y : List UInt8) : (⟨x.toArray⟩ : ByteArray) ++ (⟨y.toArray⟩ : ByteArray) = ⟨(x ++ y).toArray⟩ := by
  apply ByteArray.ext
  rw [ByteArray.data_append]
  simp
theorem or_low (k x y : Nat) (hy : y < 2 ^ k) (hx : 2 ^ k * x + y < 4294967296) : bits .or .u32 ((2 ^ k * x : Nat) : Int) (y : Int) = ((2 ^ k * x + y : Nat) : Int) := by
  rw [u32_or_nat _ _ (by omega) (by omega), ← Nat.two_pow_add_eq_or_of_lt hy]
theorem ors (a b c d : Nat) (ha : a ≤ 255) (hb : b ≤ 255) (hc : c ≤ 255) (hd : d ≤ 255) : ∃ n1 n2 : Int, bits .or .u32 ((a : Int) * 16777216) ((b : Int) * 65536) = n1 ∧ bits .or .u32 n1 ((c : Int) * 256) = n2 ∧ bits .or .u32 n2 (d : Int) = ((a * 16777216 + b * 65536 + c * 256 + d : Nat) : Int) := by
  have h1 := or_low 24 a (b * 65536) (by omega) (by omega)
  have h2 := or_low 16 (a * 256 + b) (c * 256) (by omega) (by omega)
  have h3 := or_low 8 (a * 65536 + b * 256 + c) d (by omega) (by omega)
  refine ⟨((2 ^ 24 * a + b * 65536 : Nat) : Int), ((2 ^ 16 * (a * 256 + b) + c * 256 : Nat) : Int), ?_, ?_, ?_⟩
  · rw [← h1]
    congr 1
    · omega
  · rw [← h2]
    congr 1
    · omega
  · rw [show ((a * 16777216 + b * 65536 + c * 256 + d : Nat) : Int) = ((2 ^ 8 * (a * 65536 + b * 256 + c) + d : Nat) : Int) by omega, ← h3]
    congr 1
    omega
theorem ten_len (n : Nat) (h : n ≤ 255) : (bdg 10 n).length ≤ 3 := by
  by_cases h1 : n < 10
  · rw [bdg_small h1 (by decide)]
    simp
  · rw [bdg_great h1 (by decide)]
    by_cases h2 : n / 10 < 10
    · rw [bdg_small h2 (by decide)]
      simp
    · rw [bdg_great h2 (by decide), bdg_small (by omega) (by decide)]
      simp
theorem shw_four (a b c d : Nat) (ha : a ≤ 255) (hb : b ≤ 255) (hc : c ≤ 255) (hd : d ≤ 255) : shw (a * 16777216 + b * 65536 + c * 256 + d) = jn [bdg 10 a, bdg 10 b, bdg 10 c, bdg 10 d] := by
  rw [shw_jn, show (a * 16777216 + b * 65536 + c * 256 + d) / 16777216 = a by omega, show (a * 16777216 + b * 65536 + c * 256 + d) / 65536 % 256 = b by omega, show (a * 16777216 + b * 65536 + c * 256 + d) / 256 % 256 = c by omega, show (a * 16777216 + b * 65536 + c * 256 + d) % 256 = d by omega]
theorem prs_five (a b c d : Nat) : prs (jn [bdg 10 a, bdg 10 b, bdg 10 c, bdg 10 d] ++ [46, 48]) = none := by
  have e : jn [bdg 10 a, bdg 10 b, bdg 10 c, bdg 10 d] ++ [46, 48] = jn [bdg 10 a, bdg 10 b, bdg 10 c, bdg 10 d, [48]] := by simp [jn]
  rw [e, (prs_jn _ (by simp) ?_).1]
  · rfl
  · intro p hp
    rw [show [bdg 10 a, bdg 10 b, bdg 10 c, bdg 10 d, [48]] = [bdg 10 a, bdg 10 b, bdg 10 c, bdg 10 d] ++ [[48]] from rfl] at hp
    rcases List.mem_append.1 hp with hp | hp
    · exact nod4 a b c d p hp
    · rw [List.mem_singleton] at hp
      subst hp
      exact ⟨by decide, by decide⟩
theorem prs_256 (b c : Nat) (hc : c ≤ 255) : prs (jn [[50, 53, 54], bdg 10 b, bdg 10 c]) = none := by
  rw [(prs_jn _ (by simp) ?_).1]
  · unfold parO
    rw [if_neg (by simp)]
    show (numO (bdg 10 c) (mostL 3)).bind (fun x => accO x 0 [[50, 53, 54], bdg 10 b]) = none
    cases numO (bdg 10 c) (mostL 3) with
    | none => rfl
    | some x =>
      show accO x 0 [[50, 53, 54], bdg 10 b] = none
      rw [accO, show numO [50, 53, 54] 255 = none by decide +kernel]
      rfl
  · intro p hp
    simp only [List.mem_cons, List.not_mem_nil, or_false] at hp
    rcases hp with rfl | rfl | rfl
    · exact ⟨by decide, by decide⟩
    · exact nod_bdg 10 (by decide) (by decide) _
    · exact nod_bdg 10 (by decide) (by decide) _

set_option maxHeartbeats 4000000 in
set_option maxRecDepth 100000 in
theorem order_walk (a b c d : Nat) (ha : a ≤ 255) (hb : b ≤ 255) (hc : c ≤ 255) (hd : d ≤ 255) (w : World) (tb : Tb4 w) : Calls Tryd.prog 7 #[.int .u8 (a : Int), .int .u8 (b : Int), .int .u8 (c : Int), .int .u8 (d : Int)] w fun e w' => e = .returned (.bool true) ∧ Ext w w' := by
  have HB := hide (begun_yes w tb)
  have TB := hide (fun (w' : World) (hx : Ext w w') => tb.below hx)
  clear tb
  have TA := hide (fun (v : World) => Ten_any a v (by omega))
  have TBB := hide (fun (v : World) => Ten_any b v (by omega))
  have TC := hide (fun (v : World) => Ten_any c v (by omega))
  have TD := hide (fun (v : World) => Ten_any d v (by omega))
  obtain ⟨n1, n2, o1, o2, o3⟩ := ors a b c d ha hb hc hd
  have P1 := (prs_jn _ (by simp) (nod4 a b c d)).1
  rw [par4 a b c d ha hb hc hd] at P1
  have P2 := prs_five a b c d
  have P3 := prs_256 b c hc
  have P4 := shw_four a b c d ha hb hc hd
  have lA := ten_len a ha
  have lB := ten_len b hb
  have lC := ten_len c hc
  have lD := ten_len d hd
  have j4 : jn [bdg 10 a, bdg 10 b, bdg 10 c, bdg 10 d] = (((((bdg 10 a ++ [46]) ++ bdg 10 b) ++ [46]) ++ bdg 10 c) ++ [46]) ++ bdg 10 d := by simp [jn]
  have j3 : jn [[50, 53, 54], bdg 10 b, bdg 10 c] = (([50, 53, 54, 46] ++ bdg 10 b) ++ [46]) ++ bdg 10 c := by simp [jn]
  rw [j4] at P1 P2 P4
  rw [j3] at P3
  clear j3 j4
  have hN : a * 16777216 + b * 65536 + c * 256 + d < 4294967296 := by omega
  generalize a * 16777216 + b * 65536 + c * 256 + d = N at *
  generalize bdg 10 a = A at *
  generalize bdg 10 b = B' at *
  generalize bdg 10 c = C at *
  generalize bdg 10 d = D at *
  obtain ⟨s1, es1⟩ : ∃ s : List UInt8, s = A ++ [46] := ⟨_, rfl⟩
  have cs1 : (⟨A.toArray⟩ : ByteArray) ++ (⟨#[46]⟩ : ByteArray) = ⟨s1.toArray⟩ := by
    rw [es1]
    exact cat_two A [46]
  have ls1 : s1.length ≤ A.length + 1 := by rw [es1, List.length_append]; exact Nat.le_refl _
  have ms1 : ¬ 9223372036854775807 < A.length + 1 := by omega
  obtain ⟨s2, es2⟩ : ∃ s : List UInt8, s = s1 ++ B' := ⟨_, rfl⟩
  have cs2 : (⟨s1.toArray⟩ : ByteArray) ++ (⟨B'.toArray⟩ : ByteArray) = ⟨s2.toArray⟩ := by
    rw [es2]
    exact cat_two s1 B'
  have ls2 : s2.length ≤ s1.length + B'.length := by rw [es2, List.length_append]; exact Nat.le_refl _
  have ms2 : ¬ 9223372036854775807 < s1.length + B'.length := by omega
  obtain ⟨s3, es3⟩ : ∃ s : List UInt8, s = s2 ++ [46] := ⟨_, rfl⟩
  have cs3 : (⟨s2.toArray⟩ : ByteArray) ++ (⟨#[46]⟩ : ByteArray) = ⟨s3.toArray⟩ := by
    rw [es3]
    exact cat_two s2 [46]
  have ls3 : s3.length ≤ s2.length + 1 := by rw [es3, List.length_append]; exact Nat.le_refl _
  have ms3 : ¬ 9223372036854775807 < s2.length + 1 := by omega
  obtain ⟨s4, es4⟩ : ∃ s : List UInt8, s = s3 ++ C := ⟨_, rfl⟩
  have cs4 : (⟨s3.toArray⟩ : ByteArray) ++ (⟨C.toArray⟩ : ByteArray) = ⟨s4.toArray⟩ := by
    rw [es4]
    exact cat_two s3 C
  have ls4 : s4.length ≤ s3.length + C.length := by rw [es4, List.length_append]; exact Nat.le_refl _
  have ms4 : ¬ 9223372036854775807 < s3.length + C.length := by omega
  obtain ⟨s5, es5⟩ : ∃ s : List UInt8, s = s4 ++ [46] := ⟨_, rfl⟩
  have cs5 : (⟨s4.toArray⟩ : ByteArray) ++ (⟨#[46]⟩ : ByteArray) = ⟨s5.toArray⟩ := by
    rw [es5]
    exact cat_two s4 [46]
  have ls5 : s5.length ≤ s4.length + 1 := by rw [es5, List.length_append]; exact Nat.le_refl _
  have ms5 : ¬ 9223372036854775807 < s4.length + 1 := by omega
  obtain ⟨s6, es6⟩ : ∃ s : List UInt8, s = s5 ++ D := ⟨_, rfl⟩
  have cs6 : (⟨s5.toArray⟩ : ByteArray) ++ (⟨D.toArray⟩ : ByteArray) = ⟨s6.toArray⟩ := by
    rw [es6]
    exact cat_two s5 D
  have ls6 : s6.length ≤ s5.length + D.length := by rw [es6, List.length_append]; exact Nat.le_refl _
  have ms6 : ¬ 9223372036854775807 < s5.length + D.length := by omega
  obtain ⟨s7, es7⟩ : ∃ s : List UInt8, s = s6 ++ [46, 48] := ⟨_, rfl⟩
  have cs7 : (⟨s6.toArray⟩ : ByteArray) ++ (⟨#[46, 48]⟩ : ByteArray) = ⟨s7.toArray⟩ := by
    rw [es7]
    exact cat_two s6 [46, 48]
  have ls7 : s7.length ≤ s6.length + 2 := by rw [es7, List.length_append]; exact Nat.le_refl _
  have ms7 : ¬ 9223372036854775807 < s6.length + 2 := by omega
  obtain ⟨t1, et1⟩ : ∃ s : List UInt8, s = [50, 53, 54, 46] ++ B' := ⟨_, rfl⟩
  have ct1 : (⟨#[50, 53, 54, 46]⟩ : ByteArray) ++ (⟨B'.toArray⟩ : ByteArray) = ⟨t1.toArray⟩ := by
    rw [et1]
    exact cat_two [50, 53, 54, 46] B'
  have lt1 : t1.length ≤ 4 + B'.length := by rw [et1, List.length_append]; exact Nat.le_refl _
  have mt1 : ¬ 9223372036854775807 < 4 + B'.length := by omega
  obtain ⟨t2, et2⟩ : ∃ s : List UInt8, s = t1 ++ [46] := ⟨_, rfl⟩
  have ct2 : (⟨t1.toArray⟩ : ByteArray) ++ (⟨#[46]⟩ : ByteArray) = ⟨t2.toArray⟩ := by
    rw [et2]
    exact cat_two t1 [46]
  have lt2 : t2.length ≤ t1.length + 1 := by rw [et2, List.length_append]; exact Nat.le_refl _
  have mt2 : ¬ 9223372036854775807 < t1.length + 1 := by omega
  obtain ⟨t3, et3⟩ : ∃ s : List UInt8, s = t2 ++ C := ⟨_, rfl⟩
  have ct3 : (⟨t2.toArray⟩ : ByteArray) ++ (⟨C.toArray⟩ : ByteArray) = ⟨t3.toArray⟩ := by
    rw [et3]
    exact cat_two t2 C
  have lt3 : t3.length ≤ t2.length + C.length := by rw [et3, List.length_append]; exact Nat.le_refl _
  have mt3 : ¬ 9223372036854775807 < t2.length + C.length := by omega
  rw [← es1, ← es2, ← es3, ← es4, ← es5, ← es6] at P1 P2 P4
  rw [← es7] at P2
  rw [← et1, ← et2, ← et3] at P3
  have H1 := hide (fun (v : World) (hv : Ext w v) => parse_lit s6 (some N) P1 (by omega) v (unhide TB v hv))
  have H2 := hide (fun (v : World) (hv : Ext w v) => parse_lit s7 none P2 (by omega) v (unhide TB v hv))
  have H3 := hide (fun (v : World) (hv : Ext w v) => parse_lit t3 none P3 (by omega) v (unhide TB v hv))
  have H4 : Hid (∀ v, Ext w v → Calls Tryd.prog 13 #[.int .u32 (N : Int)] v fun e w' => e = .returned (S s6) ∧ Ext v w') := fun v hv => by
    rw [← P4]
    exact show_any N v hN (unhide TB v hv)
  have e1 : numV (some N) = (N : Int) := rfl
  have e2 : perr (some N) = 0 := rfl
  have e3 : numV none = 0 := rfl
  have e4 : perr none = 5 := rfl
  rw [e1, e2] at H1
  rw [e3, e4] at H2 H3
  clear e1 e2 e3 e4 P1 P2 P3 P4 es1 es2 es3 es4 es5 es6 es7 et1 et2 et3 hN
  go_enter Tryd.func7, Tryd.ntmps7
  go_wp2_with fail
  refine (unhide HB).mono ?_
  rintro e w1 ⟨rfl, hx1⟩
  clear HB
  go_wp2_with fail
  refine (unhide TA _).mono ?_
  rintro e w2 ⟨rfl, hy⟩
  have hx2 := hx1.trans hy
  clear hy hx1
  go_wp2_with fail
  refine (unhide TBB _).mono ?_
  rintro e w3 ⟨rfl, hy⟩
  have hx3 := hx2.trans hy
  clear hy hx2
  go_wp2_with fail
  refine (unhide TC _).mono ?_
  rintro e w4 ⟨rfl, hy⟩
  have hx4 := hx3.trans hy
  clear hy hx3
  go_wp2_with fail
  refine (unhide TD _).mono ?_
  rintro e w5 ⟨rfl, hy⟩
  have hx5 := hx4.trans hy
  clear hy hx4
  go_wp2_with fail
  refine (unhide H1 _ hx5).mono ?_
  rintro e w6 ⟨rfl, hy⟩
  have hx6 := hx5.trans hy
  clear hy hx5
  go_wp2_with fail
  refine (unhide H2 _ hx6).mono ?_
  rintro e w7 ⟨rfl, hy⟩
  have hx7 := hx6.trans hy
  clear hy hx6
  go_wp2_with fail
  refine (unhide TBB _).mono ?_
  rintro e w8 ⟨rfl, hy⟩
  have hx8 := hx7.trans hy
  clear hy hx7
  go_wp2_with fail
  refine (unhide TC _).mono ?_
  rintro e w9 ⟨rfl, hy⟩
  have hx9 := hx8.trans hy
  clear hy hx8
  go_wp2_with fail
  refine (unhide H3 _ hx9).mono ?_
  rintro e w10 ⟨rfl, hy⟩
  have hx10 := hx9.trans hy
  clear hy hx9
  go_wp2_with fail
  refine (unhide H4 _ hx10).mono ?_
  rintro e w11 ⟨rfl, hy⟩
  have hx11 := hx10.trans hy
  clear hy hx10
  go_wp2
  go_ret
  exact ⟨rfl, hx11⟩
end Go.Proofs.YtclbekmihimdmaaDoor
