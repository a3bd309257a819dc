/-
  Fewer parts are the same address, in tens, eights and sixteens.
-/
import Derived.Test.YtclbekmihimdmaaDoorI4V
namespace Go.Proofs.YtclbekmihimdmaaDoor
set_option linter.unusedVariables false
open Go.RowKit

theorem bdg_len (b : Nat) (hb : 2 ≤ b) (hb2 : b ≤ 16) : ∀ (k n : Nat), n < 2 ^ k → (bdg b n).length ≤ k + 1
  | 0, n, h => by
    rw [bdg_small (by simp at h; omega) hb2]
    simp
  | k + 1, n, h => by
    by_cases hn : n < b
    · rw [bdg_small hn hb2]
      simp
    · rw [bdg_great hn hb, List.length_append]
      have h2 : n / b < 2 ^ k := by
        have h3 : n / b ≤ n / 2 := Nat.div_le_div_left hb (by decide)
        rw [Nat.pow_succ] at h
        omega
      have := bdg_len b hb hb2 k (n / b) h2
      simp
      omega
theorem par1 {p : List UInt8} {n : Nat} (h : numO p 4294967295 = some n) : parO [p] = some n := by
  unfold parO
  rw [if_neg (by simp)]
  show (numO p 4294967295).bind (fun a => accO a 0 []) = some n
  rw [h]
  rfl
theorem par2 {q p : List UInt8} {m n : Nat} (hq : numO q 255 = some m) (hp : numO p 16777215 = some n) : parO [q, p] = some (n + m * 16777216) := by
  unfold parO
  rw [if_neg (by simp)]
  show (numO p 16777215).bind (fun a => accO a 0 [q]) = _
  rw [hp]
  show accO n 0 [q] = _
  rw [accO, hq]
  rfl
theorem par3 {q r p : List UInt8} {m k n : Nat} (hq : numO q 255 = some m) (hr : numO r 255 = some k) (hp : numO p 65535 = some n) : parO [q, r, p] = some (n + m * 16777216 + k * 65536) := by
  unfold parO
  rw [if_neg (by simp)]
  show (numO p 65535).bind (fun a => accO a 0 [q, r]) = _
  rw [hp]
  show accO n 0 [q, r] = _
  rw [accO, hq]
  show accO (n + m * 16777216) 1 [r] = _
  rw [accO, hr]
  rfl
theorem nod_pre (f : List UInt8) (hf : ∀ x ∈ f, x ≠ 46) (b : Nat) (hb : 2 ≤ b) (hb2 : b ≤ 16) (n : Nat) : nod (f ++ bdg b n) :=
  ⟨fun x hx => by
    rcases List.mem_append.1 hx with hx | hx
    · exact hf x hx
    · exact (nod_bdg b hb hb2 n).1 x hx, by simp [bdg_ne]⟩
theorem six_texts (a : Nat) (ha : a < 4294967296) :
    prs (bdg 10 a) = some a ∧ prs ((bdg 10 (a / 16777216) ++ [46]) ++ bdg 10 (a % 16777216)) = some a ∧
    prs ((((bdg 10 (a / 16777216) ++ [46]) ++ bdg 10 (a / 65536 % 256)) ++ [46]) ++ bdg 10 (a % 65536)) = some a ∧
    prs ([48] ++ bdg 8 a) = some a ∧ prs ([48, 120] ++ bdg 16 a) = some a ∧
    prs ((([48, 88] ++ bdg 16 (a / 16777216)) ++ [46]) ++ ([48, 48] ++ bdg 8 (a % 16777216))) = some a := by
  have nt : ∀ n, nod (bdg 10 n) := fun n => nod_bdg 10 (by decide) (by decide) n
  refine ⟨?_, ?_, ?_, ?_, ?_, ?_⟩
  · have h := (prs_jn [bdg 10 a] (by simp) (by intro p hp; rw [List.mem_singleton] at hp; subst hp; exact nt _)).1
    rw [par1 (ten_read a 4294967295 (by omega))] at h
    exact h
  · have h := (prs_jn [bdg 10 (a / 16777216), bdg 10 (a % 16777216)] (by simp) (by intro p hp; simp only [List.mem_cons, List.not_mem_nil, or_false] at hp; rcases hp with rfl | rfl <;> exact nt _)).1
    rw [par2 (ten_read _ 255 (by omega)) (ten_read _ 16777215 (by omega)), show a % 16777216 + a / 16777216 * 16777216 = a by omega] at h
    simpa [jn] using h
  · have h := (prs_jn [bdg 10 (a / 16777216), bdg 10 (a / 65536 % 256), bdg 10 (a % 65536)] (by simp) (by intro p hp; simp only [List.mem_cons, List.not_mem_nil, or_false] at hp; rcases hp with rfl | rfl | rfl <;> exact nt _)).1
    rw [par3 (ten_read _ 255 (by omega)) (ten_read _ 255 (by omega)) (ten_read _ 65535 (by omega)), show a % 65536 + a / 16777216 * 16777216 + a / 65536 % 256 * 65536 = a by omega] at h
    simpa [jn] using h
  · have h := (prs_jn [[48] ++ bdg 8 a] (by simp) (by intro p hp; rw [List.mem_singleton] at hp; subst hp; exact nod_pre [48] (by decide) 8 (by decide) (by decide) a)).1
    rw [par1 (eight_read [48] (.inl rfl) a 4294967295 (by omega))] at h
    exact h
  · have h := (prs_jn [[48, 120] ++ bdg 16 a] (by simp) (by intro p hp; rw [List.mem_singleton] at hp; subst hp; exact nod_pre [48, 120] (by decide) 16 (by decide) (by decide) a)).1
    rw [show parO [[48, 120] ++ bdg 16 a] = some a from par1 (hex_read 120 (.inl rfl) a 4294967295 (by omega))] at h
    exact h
  · have h := (prs_jn [[48, 88] ++ bdg 16 (a / 16777216), [48, 48] ++ bdg 8 (a % 16777216)] (by simp) (by
      intro p hp
      simp only [List.mem_cons, List.not_mem_nil, or_false] at hp
      rcases hp with rfl | rfl
      · exact nod_pre [48, 88] (by decide) 16 (by decide) (by decide) _
      · exact nod_pre [48, 48] (by decide) 8 (by decide) (by decide) _)).1
    rw [show parO [[48, 88] ++ bdg 16 (a / 16777216), [48, 48] ++ bdg 8 (a % 16777216)] = some (a % 16777216 + a / 16777216 * 16777216) from par2 (hex_read 88 (.inr rfl) (a / 16777216) 255 (by omega)) (eight_read [48, 48] (.inr rfl) (a % 16777216) 16777215 (by omega)), show a % 16777216 + a / 16777216 * 16777216 = a by omega] at h
    simpa [jn] using h
theorem wrap_64 (u : Nat) (h : u < 4294967296) : IntKind.u64.wrap (u : Int) = (u : Int) := by
  simp [IntKind.wrap, IntKind.bits, IntKind.signed]
  omega
theorem mask_of (k x : Nat) (hk : k < 32) (h : x < 4294967296) : bits .and .u32 (x : Int) ((2 ^ k - 1 : Nat) : Int) = ((x % 2 ^ k : Nat) : Int) := by
  have hp : 2 ^ k ≤ 2 ^ 31 := Nat.pow_le_pow_right (by decide) (by omega)
  rw [u32_and_nat x (2 ^ k - 1) h (by omega), Nat.and_two_pow_sub_one_eq_mod]

set_option maxHeartbeats 4000000 in
set_option maxRecDepth 100000 in
theorem parts_walk (a : Nat) (ha : a < 4294967296) (w : World) (tb : Tb4 w) : Calls Tryd.prog 5 #[.int .u32 (a : Int)] w fun e w' => e = .returned (.bool true) ∧ Ext w w' := by
  have HB := hide (begun_yes w tb)
  have TB := hide (fun (w' : World) (hx : Ext w w') => tb.below hx)
  clear tb
  obtain ⟨p0, p1, p2, p3, p4, p5⟩ := six_texts a ha
  obtain ⟨q1, hq1⟩ : ∃ q, q = a / 16777216 := ⟨_, rfl⟩
  obtain ⟨q2, hq2⟩ : ∃ q, q = a / 65536 % 256 := ⟨_, rfl⟩
  obtain ⟨q3, hq3⟩ : ∃ q, q = a % 65536 := ⟨_, rfl⟩
  obtain ⟨q4, hq4⟩ : ∃ q, q = a % 16777216 := ⟨_, rfl⟩
  rw [← hq1, ← hq4] at p1 p5
  rw [← hq1, ← hq2, ← hq3] at p2
  have r1 : (a : Int) / 16777216 = (q1 : Int) := by omega
  have r2 : bits .and .u32 ((a : Int) / 65536) 255 = (q2 : Int) := by
    have := mask_of 8 (a / 65536) (by decide) (by omega)
    rw [hq2, ← this]
    congr 1
  have r3 : bits .and .u32 (a : Int) 65535 = (q3 : Int) := by
    have := mask_of 16 a (by decide) ha
    rw [hq3, ← this]
    congr 1
  have r4 : bits .and .u32 (a : Int) 16777215 = (q4 : Int) := by
    have := mask_of 24 a (by decide) ha
    rw [hq4, ← this]
    congr 1
  have b1 : q1 < 256 := by omega
  have b2 : q2 < 256 := by omega
  have b3 : q3 < 65536 := by omega
  have b4 : q4 < 16777216 := by omega
  have z2 := wrap_64 q2 (by omega)
  have z3 := wrap_64 q3 (by omega)
  have z4 := wrap_64 q4 (by omega)
  clear hq1 hq2 hq3 hq4
  have K0 := hide (fun (v : World) => Ten_any a v (by omega))
  have K1 := hide (fun (v : World) => Ten_any q1 v (by omega))
  have K2 := hide (fun (v : World) => Ten_any q2 v (by omega))
  have K3 := hide (fun (v : World) => Ten_any q3 v (by omega))
  have K4 := hide (fun (v : World) => Ten_any q4 v (by omega))
  have L1 : Hid (∀ v, Calls Tryd.prog 16 #[.int .u64 (a : Int), .int .u64 8, .string ⟨#[48]⟩] v fun e w' => e = .returned (S ([48] ++ bdg 8 a)) ∧ Ext v w') := fun v => base_any a 8 [48] v (by omega) (by decide) (by decide) (by decide)
  have L2 : Hid (∀ v, Calls Tryd.prog 16 #[.int .u64 (a : Int), .int .u64 16, .string ⟨#[48, 120]⟩] v fun e w' => e = .returned (S ([48, 120] ++ bdg 16 a)) ∧ Ext v w') := fun v => base_any a 16 [48, 120] v (by omega) (by decide) (by decide) (by decide)
  have L3 : Hid (∀ v, Calls Tryd.prog 16 #[.int .u64 (q1 : Int), .int .u64 16, .string ⟨#[48, 88]⟩] v fun e w' => e = .returned (S ([48, 88] ++ bdg 16 q1)) ∧ Ext v w') := fun v => base_any q1 16 [48, 88] v (by omega) (by decide) (by decide) (by decide)
  have L4 : Hid (∀ v, Calls Tryd.prog 16 #[.int .u64 (q4 : Int), .int .u64 8, .string ⟨#[48, 48]⟩] v fun e w' => e = .returned (S ([48, 48] ++ bdg 8 q4)) ∧ Ext v w') := fun v => base_any q4 8 [48, 48] v (by omega) (by decide) (by decide) (by decide)
  have l0 := bdg_len 10 (by decide) (by decide) 32 a ha
  have l1 := bdg_len 10 (by decide) (by decide) 32 q1 (by omega)
  have l2 := bdg_len 10 (by decide) (by decide) 32 q2 (by omega)
  have l3 := bdg_len 10 (by decide) (by decide) 32 q3 (by omega)
  have l4 := bdg_len 10 (by decide) (by decide) 32 q4 (by omega)
  have l5 : ([48] ++ bdg 8 a).length ≤ 40 := by
    have := bdg_len 8 (by decide) (by decide) 32 a ha
    simp
    omega
  have l6 : ([48, 120] ++ bdg 16 a).length ≤ 40 := by
    have := bdg_len 16 (by decide) (by decide) 32 a ha
    simp
    omega
  have l7 : ([48, 88] ++ bdg 16 q1).length ≤ 40 := by
    have := bdg_len 16 (by decide) (by decide) 32 q1 (by omega)
    simp
    omega
  have l8 : ([48, 48] ++ bdg 8 q4).length ≤ 40 := by
    have := bdg_len 8 (by decide) (by decide) 32 q4 (by omega)
    simp
    omega
  generalize [48] ++ bdg 8 a = U at *
  generalize [48, 120] ++ bdg 16 a = V at *
  generalize [48, 88] ++ bdg 16 q1 = X at *
  generalize [48, 48] ++ bdg 8 q4 = Y at *
  generalize bdg 10 a = Z at *
  generalize bdg 10 q1 = A at *
  generalize bdg 10 q2 = C at *
  generalize bdg 10 q3 = D at *
  generalize bdg 10 q4 = E at *
  obtain ⟨s1, es1⟩ : ∃ s : List UInt8, s = A ++ [46] := ⟨_, rfl⟩
  have cs1 : (⟨A.toArray⟩ : ByteArray) ++ (⟨#[46]⟩ : ByteArray) = ⟨s1.toArray⟩ := by
    rw [es1]
    exact cat_two A [46]
  have ls1 : s1.length ≤ A.length + 1 := by rw [es1, List.length_append]; exact Nat.le_refl _
  have ms1 : ¬ 9223372036854775807 < A.length + 1 := by omega
  obtain ⟨s2, es2⟩ : ∃ s : List UInt8, s = s1 ++ E := ⟨_, rfl⟩
  have cs2 : (⟨s1.toArray⟩ : ByteArray) ++ (⟨E.toArray⟩ : ByteArray) = ⟨s2.toArray⟩ := by
    rw [es2]
    exact cat_two s1 E
  have ls2 : s2.length ≤ s1.length + E.length := by rw [es2, List.length_append]; exact Nat.le_refl _
  have ms2 : ¬ 9223372036854775807 < s1.length + E.length := by omega
  obtain ⟨s3, es3⟩ : ∃ s : List UInt8, s = s1 ++ C := ⟨_, rfl⟩
  have cs3 : (⟨s1.toArray⟩ : ByteArray) ++ (⟨C.toArray⟩ : ByteArray) = ⟨s3.toArray⟩ := by
    rw [es3]
    exact cat_two s1 C
  have ls3 : s3.length ≤ s1.length + C.length := by rw [es3, List.length_append]; exact Nat.le_refl _
  have ms3 : ¬ 9223372036854775807 < s1.length + C.length := by omega
  obtain ⟨s4, es4⟩ : ∃ s : List UInt8, s = s3 ++ [46] := ⟨_, rfl⟩
  have cs4 : (⟨s3.toArray⟩ : ByteArray) ++ (⟨#[46]⟩ : ByteArray) = ⟨s4.toArray⟩ := by
    rw [es4]
    exact cat_two s3 [46]
  have ls4 : s4.length ≤ s3.length + 1 := by rw [es4, List.length_append]; exact Nat.le_refl _
  have ms4 : ¬ 9223372036854775807 < s3.length + 1 := by omega
  obtain ⟨s5, es5⟩ : ∃ s : List UInt8, s = s4 ++ D := ⟨_, rfl⟩
  have cs5 : (⟨s4.toArray⟩ : ByteArray) ++ (⟨D.toArray⟩ : ByteArray) = ⟨s5.toArray⟩ := by
    rw [es5]
    exact cat_two s4 D
  have ls5 : s5.length ≤ s4.length + D.length := by rw [es5, List.length_append]; exact Nat.le_refl _
  have ms5 : ¬ 9223372036854775807 < s4.length + D.length := by omega
  obtain ⟨s6, es6⟩ : ∃ s : List UInt8, s = X ++ [46] := ⟨_, rfl⟩
  have cs6 : (⟨X.toArray⟩ : ByteArray) ++ (⟨#[46]⟩ : ByteArray) = ⟨s6.toArray⟩ := by
    rw [es6]
    exact cat_two X [46]
  have ls6 : s6.length ≤ X.length + 1 := by rw [es6, List.length_append]; exact Nat.le_refl _
  have ms6 : ¬ 9223372036854775807 < X.length + 1 := by omega
  obtain ⟨s7, es7⟩ : ∃ s : List UInt8, s = s6 ++ Y := ⟨_, rfl⟩
  have cs7 : (⟨s6.toArray⟩ : ByteArray) ++ (⟨Y.toArray⟩ : ByteArray) = ⟨s7.toArray⟩ := by
    rw [es7]
    exact cat_two s6 Y
  have ls7 : s7.length ≤ s6.length + Y.length := by rw [es7, List.length_append]; exact Nat.le_refl _
  have ms7 : ¬ 9223372036854775807 < s6.length + Y.length := by omega
  rw [← es1, ← es2] at p1
  rw [← es1, ← es3, ← es4, ← es5] at p2
  rw [← es6, ← es7] at p5
  have HALL : Hid (∀ i, i < 6 → prs ([Z, s2, s5, U, V, s7].getD i []) = some a ∧ ([Z, s2, s5, U, V, s7].getD i []).length ≤ 100000) := fun i hi => by
    have h6 : i = 0 ∨ i = 1 ∨ i = 2 ∨ i = 3 ∨ i = 4 ∨ i = 5 := by omega
    rcases h6 with rfl | rfl | rfl | rfl | rfl | rfl
    · exact ⟨p0, by show Z.length ≤ _; omega⟩
    · exact ⟨p1, by show s2.length ≤ _; omega⟩
    · exact ⟨p2, by show s5.length ≤ _; omega⟩
    · exact ⟨p3, by show U.length ≤ _; omega⟩
    · exact ⟨p4, by show V.length ≤ _; omega⟩
    · exact ⟨p5, by show s7.length ≤ _; omega⟩
  clear p0 p1 p2 p3 p4 p5 es1 es2 es3 es4 es5 es6 es7
  go_enter Tryd.func5, Tryd.ntmps5
  go_wp2_with fail
  refine (unhide HB).mono ?_
  rintro e w1 ⟨rfl, hx1⟩
  clear HB
  go_wp2_with fail
  refine (unhide K0 _).mono ?_
  rintro e w2 ⟨rfl, hy⟩
  have hx2 := hx1.trans hy
  clear hy hx1
  go_wp2_with fail
  refine (unhide K1 _).mono ?_
  rintro e w3 ⟨rfl, hy⟩
  have hx3 := hx2.trans hy
  clear hy hx2
  go_wp2_with fail
  refine (unhide K4 _).mono ?_
  rintro e w4 ⟨rfl, hy⟩
  have hx4 := hx3.trans hy
  clear hy hx3
  go_wp2_with fail
  refine (unhide K1 _).mono ?_
  rintro e w5 ⟨rfl, hy⟩
  have hx5 := hx4.trans hy
  clear hy hx4
  go_wp2_with fail
  refine (unhide K2 _).mono ?_
  rintro e w6 ⟨rfl, hy⟩
  have hx6 := hx5.trans hy
  clear hy hx5
  go_wp2_with fail
  refine (unhide K3 _).mono ?_
  rintro e w7 ⟨rfl, hy⟩
  have hx7 := hx6.trans hy
  clear hy hx6
  go_wp2_with fail
  refine (unhide L1 _).mono ?_
  rintro e w8 ⟨rfl, hy⟩
  have hx8 := hx7.trans hy
  clear hy hx7
  go_wp2_with fail
  refine (unhide L2 _).mono ?_
  rintro e w9 ⟨rfl, hy⟩
  have hx9 := hx8.trans hy
  clear hy hx8
  go_wp2_with fail
  refine (unhide L3 _).mono ?_
  rintro e w10 ⟨rfl, hy⟩
  have hx10 := hx9.trans hy
  clear hy hx9
  go_wp2_with fail
  refine (unhide L4 _).mono ?_
  rintro e w11 ⟨rfl, hy⟩
  have hx11 := hx10.trans hy
  clear hy hx10
  have rG := RdV.lit w11 ([Z, s2, s5, U, V, s7].map S) 9 (0, 0) (by simp)
  have xG := hx11.trans (Ext.alloc w11 (.cells ([Z, s2, s5, U, V, s7].map S).toArray 9 (0, 0)))
  have RG := hide rG
  have HX := hide xG
  clear rG xG
  obtain ⟨v2, hv2⟩ : ∃ v2, v2 = w11.alloc (.cells ([Z, s2, s5, U, V, s7].map S).toArray 9 (0, 0)) := ⟨_, rfl⟩
  rw [← hv2] at RG HX
  have HV2 := hide hv2
  clear hv2
  obtain ⟨g1, hg1⟩ : ∃ g1, g1 = w11.heap.size := ⟨_, rfl⟩
  rw [← hg1] at RG
  have HG1 := hide hg1
  clear hg1
  go_wp2_with fail
  go_loopw [8] (fun i wr => ∃ (k : Nat), k ≤ 6 ∧ i = .int .i64 k ∧ Ext v2 wr) (fun i _ => 6 - (intOf i).toNat)
  case atStart => exact ⟨0, by omega, rfl, by rw [unhide HV2]; exact Ext.refl _⟩
  case round =>
    obtain ⟨k, hk, rfl, hxr⟩ := hrel
    rw [← unhide HG1]
    by_cases hkl : k < 6
    · have hkl' : (k : Int) < 6 := by omega
      obtain ⟨g2, g3⟩ := unhide HALL k hkl
      have c1 : wr.cell? ⟨g1, k, none⟩ = some (S ([Z, s2, s5, U, V, s7].getD k [])) := by
        obtain ⟨b', off', eb, hc⟩ := ((unhide RG).below hxr).cell k hkl
        simp only [Option.some.injEq, Addr.mk.injEq] at eb
        obtain ⟨rfl, rfl, _⟩ := eb
        rw [Nat.zero_add] at hc
        rw [hc, List.getElem?_map, List.getElem?_eq_getElem (show k < [Z, s2, s5, U, V, s7].length from hkl)]
        simp only [Option.map_some, List.getD, List.getElem?_eq_getElem (show k < [Z, s2, s5, U, V, s7].length from hkl), Option.getD_some]
      have H1 := hide (parse_lit _ _ g2 g3 wr (unhide TB wr ((unhide HX).trans hxr)))
      have XX := hide hxr
      have e1 : numV (some a) = (a : Int) := rfl
      have e2 : perr (some a) = 0 := rfl
      rw [e1, e2] at H1
      clear g2 g3 e1 e2 hxr HALL
      generalize [Z, s2, s5, U, V, s7].getD k [] = p at *
      go_wp2_with fail
      refine (unhide H1).mono ?_
      rintro e w3 ⟨rfl, hx3⟩
      clear H1 c1
      have X2 := hide ((unhide XX).trans hx3)
      clear XX hx3
      go_wp2
      exact ⟨⟨k + 1, by omega, by simp, unhide X2⟩, (show 6 - ((k : Int) + 1).toNat < 6 - ((k : Int)).toNat by omega)⟩
    · have hkl' : ¬ (k : Int) < 6 := by omega
      have HZ := hide ((unhide HX).trans hxr)
      clear hxr
      go_wp2
      go_ret
      exact ⟨rfl, unhide HZ⟩
end Go.Proofs.YtclbekmihimdmaaDoor
