/-
  The document's Parse4 and Show4, walked; that ip4 tells what the document tells.
-/
import Derived.Test.YtclbekmihimdmaaDoorI4Z
namespace Go.Proofs.YtclbekmihimdmaaDoor
set_option linter.unusedVariables false
open Go.RowKit

theorem drop_step (ps : List (List UInt8)) (k : Nat) (h : k < ps.length) : ps.drop k = ps.getD k [] :: ps.drop (k + 1) := by
  rw [List.drop_eq_getElem_cons h]
  simp [List.getD, h]

theorem shl_last (n : Nat) (h1 : 1 ≤ n) (h4 : n ≤ 4) : IntKind.u64.wrap (2 ^ (8 * (5 - n))) = ((256 ^ (5 - n) : Nat) : Int) := by
  have hn : n = 1 ∨ n = 2 ∨ n = 3 ∨ n = 4 := by omega
  rcases hn with rfl | rfl | rfl | rfl <;> decide
theorem pow_last (n : Nat) (h1 : 1 ≤ n) : 256 ^ (5 - n) ≤ 4294967296 := Nat.pow_le_pow_right (n := 256) (show 0 < 256 by decide) (show 5 - n ≤ 4 by omega)
theorem shl_mid (v x k : Nat) (hk : k ≤ 2) (hv : v ≤ k * 4294967296) (hx : x ≤ 255) : ((v : Int) + (x : Int) * 2 ^ (8 * (3 - k)) % 18446744073709551616) % 18446744073709551616 = ((v + x * 256 ^ (3 - k) : Nat) : Int) ∧ v + x * 256 ^ (3 - k) ≤ (k + 1) * 4294967296 := by
  have hk2 : k = 0 ∨ k = 1 ∨ k = 2 := by omega
  rcases hk2 with rfl | rfl | rfl <;> simp <;> omega
set_option maxHeartbeats 2000000 in
set_option maxRecDepth 100000 in
theorem rparse_any (s : List UInt8) (w : World) (hs : s.length ≤ 100000) : Calls Tryd.prog 10 #[S s] w fun e w' => e = .returned (.tuple #[.int .u32 (numV (prs s)), .int .i64 (perr (prs s))]) ∧ Ext w w' := by
  have no : prs s = none → Ending.returned (.tuple #[.int .u32 0, .int .i64 5]) = .returned (.tuple #[.int .u32 (numV (prs s)), .int .i64 (perr (prs s))]) := fun h => by rw [h]; rfl
  have yes : ∀ z : Nat, prs s = some z → Ending.returned (.tuple #[.int .u32 (z : Int), .int .i64 0]) = .returned (.tuple #[.int .u32 (numV (prs s)), .int .i64 (perr (prs s))]) := fun z h => by rw [h]; rfl
  have HC := hide (rparts_any s w (by omega))
  have htl := trim_len 46 s
  unfold prs at no yes ⊢
  generalize Lib.trimSuffix s [46] = t at *
  have hpl := pcs_len 46 t
  have hn0 := List.length_pos_iff.2 (pcs_ne 46 t)
  generalize pcs 46 t = ps at *
  have NO := hide no
  have YES := hide yes
  clear no yes
  have HLT := hide (fun r => parO_lt (ps := ps) (r := r) (by omega))
  generalize numV (parO ps) = z1 at *
  generalize perr (parO ps) = z2 at *
  go_enter Tryd.func10, Tryd.ntmps10
  go_wp2_with fail
  refine (unhide HC).mono ?_
  rintro e w1 ⟨g, cap, rfl, hr, hx⟩
  clear HC
  have hle := hr.le
  have hmx := hr.max
  simp only [List.length_map] at hle
  by_cases h4 : 4 < ps.length
  · have h4' : 4 < (ps.length : Int) := by omega
    have HN := hide (unhide NO (by unfold parO; rw [if_pos h4]))
    clear NO YES hpl hr
    go_wp2
    go_ret2
    exact ⟨unhide HN, hx⟩
  · have h4' : ¬ 4 < (ps.length : Int) := by omega
    have HRS := hide (rsum_par ps (by omega) (by omega))
    have HCS : Hid (∀ i, i < ps.length → w1.cell? ⟨g, i, none⟩ = some (S (ps.getD i []))) := fun i hi => by
      obtain ⟨b', off', eb, hc⟩ := hr.cell i (by simpa using hi)
      simp only [Option.some.injEq, Addr.mk.injEq] at eb
      obtain ⟨rfl, rfl, _⟩ := eb
      rw [Nat.zero_add] at hc
      rw [hc]
      simp [List.getD, hi]
    clear hr
    go_wp2_with fail
    go_loopw [5, 6] (fun n i wr => ∃ (k v : Nat), k ≤ ps.length ∧ i = .int .i64 k ∧ Hid (rsum ps.length v k (ps.drop k) = parO ps) ∧ v ≤ k * 4294967296 ∧ n = .int .u64 v ∧ wr = w1) (fun _ i _ => ps.length - (intOf i).toNat)
    case atStart => exact ⟨0, 0, by omega, rfl, by rw [List.drop_zero]; exact HRS, by omega, rfl, rfl⟩
    case round =>
      obtain ⟨k, v, hk, rfl, HV, hv, rfl, hw⟩ := hrel
      subst hw
      by_cases hkl : k < ps.length
      · have hkl' : (k : Int) < (ps.length : Int) := by omega
        have c0 := unhide HCS k hkl
        have hpk : (ps.getD k []).length ≤ 1000000 := by
          have := hpl (ps.getD k []) (by simp [List.getD, hkl])
          omega
        have NC := hide (rnumber_any (ps.getD k []) wr hpk)
        rw [drop_step ps k hkl, rsum] at HV
        generalize ps.getD k [] = p at *
        go_wp2_with fail
        refine (unhide NC).mono ?_
        rintro e w5 ⟨rfl, hw⟩
        subst hw
        clear NC
        cases hn : rnum p with
        | none =>
          rw [hn] at HV
          have HN := hide (unhide NO (unhide HV).symm)
          rw [show numV none = 0 from rfl, show (none : Option Nat).isSome = false from rfl]
          clear NO YES hpl HV HCS hn HRS HLT
          go_wp2
          go_ret2
          exact ⟨unhide HN, hx⟩
        | some x =>
          rw [hn] at HV
          rw [show numV (some x) = (x : Int) from rfl, show (some x).isSome = true from rfl]
          simp only [Option.bind_some] at HV
          have hx40 : x ≤ 1099511627776 := by
            unfold rnum at hn
            split at hn
            · simp only [Option.some.injEq] at hn
              omega
            · cases hn
          clear hn hpk c0
          by_cases hlast : k + 1 = ps.length
          · rw [if_pos hlast] at HV
            have e1 : ((k : Int) == (ps.length : Int) - 1) = true := by simp; omega
            have e2 : (k : Int) = (ps.length : Int) - 1 := by omega
            have hsl := shl_last ps.length (by omega) (by omega)
            have hpw := pow_last ps.length (by omega)
            generalize 256 ^ (5 - ps.length) = M at *
            by_cases hxm : x < M
            · rw [if_pos hxm] at HV
              have hxm' : ¬ (M : Int) ≤ (x : Int) := by omega
              have E2 := hide e2
              have KK : Hid ((∃ (k' v' : Nat), k' ≤ ps.length ∧ Value.int .i64 ((k : Int) + 1) = .int .i64 k' ∧ Hid (rsum ps.length v' k' (ps.drop k') = parO ps) ∧ v' ≤ k' * 4294967296 ∧ Value.int .u64 ((v : Int) + (x : Int)) = .int .u64 v' ∧ True) ∧ ps.length - ((k : Int) + 1).toNat < ps.length - k) :=
                ⟨⟨k + 1, v + x, by omega, by simp, HV, by omega, by simp, trivial⟩, by omega⟩
              clear e2 HV NO YES HCS HRS HLT hpl
              go_wp2
              exact unhide KK
            · rw [if_neg hxm] at HV
              have hxm' : (M : Int) ≤ (x : Int) := by omega
              have E2 := hide e2
              have HN := hide (unhide NO (unhide HV).symm)
              clear e2 HV NO YES HCS HRS HLT hpl
              go_wp2
              go_ret2
              exact ⟨unhide HN, hx⟩
          · rw [if_neg hlast] at HV
            have e2 : ¬ (k : Int) = (ps.length : Int) - 1 := by omega
            have e1 : ((k : Int) == (ps.length : Int) - 1) = false := by simpa using e2
            by_cases hxm : x ≤ 255
            · rw [if_pos hxm] at HV
              have hxm' : ¬ (255 : Int) < (x : Int) := by omega
              obtain ⟨q1, q2⟩ := shl_mid v x k (by omega) hv hxm
              have KK : Hid (∀ z : Int, z = ((v : Int) + (x : Int) * 2 ^ (8 * (3 - k)) % 18446744073709551616) % 18446744073709551616 → (∃ (k' v' : Nat), k' ≤ ps.length ∧ Value.int .i64 ((k : Int) + 1) = .int .i64 k' ∧ Hid (rsum ps.length v' k' (ps.drop k') = parO ps) ∧ v' ≤ k' * 4294967296 ∧ Value.int .u64 z = .int .u64 v' ∧ True) ∧ ps.length - ((k : Int) + 1).toNat < ps.length - k) := fun z hz =>
                ⟨⟨k + 1, v + x * 256 ^ (3 - k), by omega, by simp, HV, q2, by rw [hz, q1], trivial⟩, by omega⟩
              clear e2 HV NO YES HCS HRS HLT hpl q1 q2
              go_wp2
              exact unhide KK _ rfl
            · rw [if_neg hxm] at HV
              have hxm' : (255 : Int) < (x : Int) := by omega
              have HN := hide (unhide NO (unhide HV).symm)
              clear e2 HV NO YES HCS HRS HLT hpl
              go_wp2
              go_ret2
              exact ⟨unhide HN, hx⟩
      · have hkl' : ¬ (k : Int) < (ps.length : Int) := by omega
        rw [List.drop_eq_nil_of_le (by omega), rsum] at HV
        have hlt := unhide HLT v (unhide HV).symm
        have HN := hide (unhide YES v (unhide HV).symm)
        have hwr : IntKind.u32.wrap (v : Int) = (v : Int) := by
          simp [IntKind.wrap, IntKind.bits, IntKind.signed]
          omega
        clear NO YES HCS HRS HLT hpl HV
        go_wp2
        go_ret2
        exact ⟨unhide HN, hx⟩

theorem shw_alt (a : Nat) : shw a = ((((((bdg 10 (a / 16777216) ++ [46]) ++ bdg 10 (a / 65536 % 256)) ++ [46]) ++ bdg 10 (a / 256 % 256)) ++ [46]) ++ bdg 10 (a % 256)) := by
  rw [shw_jn]
  simp [jn]
set_option maxHeartbeats 2000000 in
set_option maxRecDepth 100000 in
theorem rshow_any (a : Nat) (w : World) (ha : a < 4294967296) : Calls Tryd.prog 14 #[.int .u32 (a : Int)] w fun e w' => e = .returned (S (shw a)) ∧ Ext w w' := by
  rw [shw_alt]
  obtain ⟨q1, hq1⟩ : ∃ q, q = a / 16777216 := ⟨_, rfl⟩
  obtain ⟨q2, hq2⟩ : ∃ q, q = a / 65536 % 256 := ⟨_, rfl⟩
  obtain ⟨q3, hq3⟩ : ∃ q, q = a / 256 % 256 := ⟨_, rfl⟩
  obtain ⟨q4, hq4⟩ : ∃ q, q = a % 256 := ⟨_, rfl⟩
  rw [← hq1, ← hq2, ← hq3, ← hq4]
  have r1 : (a : Int) / 16777216 = (q1 : Int) := by omega
  have r2 : bits .and .u32 ((a : Int) / 65536) 255 = (q2 : Int) := by
    have := mask8 (a / 65536) (by omega)
    rw [hq2, ← this]
    congr 1
  have r3 : bits .and .u32 ((a : Int) / 256) 255 = (q3 : Int) := by
    have := mask8 (a / 256) (by omega)
    rw [hq3, ← this]
    congr 1
  have r4 : bits .and .u32 (a : Int) 255 = (q4 : Int) := by
    have := mask8 a ha
    rw [hq4, ← this]
  have b1 : q1 < 256 := by omega
  have b2 : q2 < 256 := by omega
  have b3 : q3 < 256 := by omega
  have b4 : q4 < 256 := by omega
  have z2 := wrap_u64 q2 b2
  have z3 := wrap_u64 q3 b3
  have z4 := wrap_u64 q4 b4
  clear hq1 hq2 hq3 hq4
  have K1 := hide (fun (v : World) => ten_any q1 v (by omega))
  have K2 := hide (fun (v : World) => ten_any q2 v (by omega))
  have K3 := hide (fun (v : World) => ten_any q3 v (by omega))
  have K4 := hide (fun (v : World) => ten_any q4 v (by omega))
  have lA := ten_len q1 (by omega)
  have lB := ten_len q2 (by omega)
  have lC := ten_len q3 (by omega)
  have lD := ten_len q4 (by omega)
  generalize bdg 10 q1 = A at *
  generalize bdg 10 q2 = B' at *
  generalize bdg 10 q3 = C at *
  generalize bdg 10 q4 = D at *
  obtain ⟨s1, es1⟩ : ∃ s : List UInt8, s = A ++ [46] := ⟨_, rfl⟩
  have cs1 : (⟨A.toArray⟩ : ByteArray) ++ (⟨#[46]⟩ : ByteArray) = ⟨s1.toArray⟩ := by
    rw [es1]
    exact cat_two A [46]
  have ls1 : s1.length ≤ A.length + 1 := by rw [es1, List.length_append]; exact Nat.le_refl _
  have ms1 : ¬ 9223372036854775807 < A.length + 1 := by omega
  obtain ⟨s2, es2⟩ : ∃ s : List UInt8, s = s1 ++ B' := ⟨_, rfl⟩
  have cs2 : (⟨s1.toArray⟩ : ByteArray) ++ (⟨B'.toArray⟩ : ByteArray) = ⟨s2.toArray⟩ := by
    rw [es2]
    exact cat_two s1 B'
  have ls2 : s2.length ≤ s1.length + B'.length := by rw [es2, List.length_append]; exact Nat.le_refl _
  have ms2 : ¬ 9223372036854775807 < s1.length + B'.length := by omega
  obtain ⟨s3, es3⟩ : ∃ s : List UInt8, s = s2 ++ [46] := ⟨_, rfl⟩
  have cs3 : (⟨s2.toArray⟩ : ByteArray) ++ (⟨#[46]⟩ : ByteArray) = ⟨s3.toArray⟩ := by
    rw [es3]
    exact cat_two s2 [46]
  have ls3 : s3.length ≤ s2.length + 1 := by rw [es3, List.length_append]; exact Nat.le_refl _
  have ms3 : ¬ 9223372036854775807 < s2.length + 1 := by omega
  obtain ⟨s4, es4⟩ : ∃ s : List UInt8, s = s3 ++ C := ⟨_, rfl⟩
  have cs4 : (⟨s3.toArray⟩ : ByteArray) ++ (⟨C.toArray⟩ : ByteArray) = ⟨s4.toArray⟩ := by
    rw [es4]
    exact cat_two s3 C
  have ls4 : s4.length ≤ s3.length + C.length := by rw [es4, List.length_append]; exact Nat.le_refl _
  have ms4 : ¬ 9223372036854775807 < s3.length + C.length := by omega
  obtain ⟨s5, es5⟩ : ∃ s : List UInt8, s = s4 ++ [46] := ⟨_, rfl⟩
  have cs5 : (⟨s4.toArray⟩ : ByteArray) ++ (⟨#[46]⟩ : ByteArray) = ⟨s5.toArray⟩ := by
    rw [es5]
    exact cat_two s4 [46]
  have ls5 : s5.length ≤ s4.length + 1 := by rw [es5, List.length_append]; exact Nat.le_refl _
  have ms5 : ¬ 9223372036854775807 < s4.length + 1 := by omega
  obtain ⟨s6, es6⟩ : ∃ s : List UInt8, s = s5 ++ D := ⟨_, rfl⟩
  have cs6 : (⟨s5.toArray⟩ : ByteArray) ++ (⟨D.toArray⟩ : ByteArray) = ⟨s6.toArray⟩ := by
    rw [es6]
    exact cat_two s5 D
  have ls6 : s6.length ≤ s5.length + D.length := by rw [es6, List.length_append]; exact Nat.le_refl _
  have ms6 : ¬ 9223372036854775807 < s5.length + D.length := by omega
  rw [← es1, ← es2, ← es3, ← es4, ← es5, ← es6]
  clear es1 es2 es3 es4 es5 es6
  go_enter Tryd.func14, Tryd.ntmps14
  go_wp2_with fail
  refine (unhide K1 _).mono ?_
  rintro e w1 ⟨rfl, hx1⟩
  go_wp2_with fail
  refine (unhide K2 _).mono ?_
  rintro e w2 ⟨rfl, hy⟩
  have hx2 := hx1.trans hy
  clear hy
  go_wp2_with fail
  refine (unhide K3 _).mono ?_
  rintro e w3 ⟨rfl, hy⟩
  have hx3 := hx2.trans hy
  clear hy
  go_wp2_with fail
  refine (unhide K4 _).mono ?_
  rintro e w4 ⟨rfl, hy⟩
  have hx4 := hx3.trans hy
  clear hy
  go_wp2
  go_ret
  exact ⟨rfl, hx4⟩

set_option maxHeartbeats 2000000 in
set_option maxRecDepth 100000 in
theorem all_walk (s : List UInt8) (a : Nat) (hm : s.length ≤ 9223372036854775807) (ha : a < 4294967296) (w : World) (tb : Tb4 w) : Calls Tryd.prog 3 #[S s, .int .u32 (a : Int)] w fun e w' => e = .returned (.bool true) ∧ Ext w w' := by
  have HB := hide (begun_yes w tb)
  have TB := hide (fun (w' : World) (hx : Ext w w') => tb.below hx)
  clear tb
  have hsz := size_S s
  by_cases h60 : s.length ≤ 60
  · have h60' : ¬ 60 < (s.length : Int) := by omega
    have H1 := hide (fun (v : World) (hv : Ext w v) => parse_any s v (by omega) (unhide TB v hv))
    have H2 := hide (fun (v : World) => rparse_any s v (by omega))
    have H3 := hide (fun (v : World) => ends_any s v (by omega))
    have H4 := hide (fun (v : World) => rends_any s v (by omega))
    have H5 := hide (fun (v : World) (hv : Ext w v) => show_any a v ha (unhide TB v hv))
    have H6 := hide (fun (v : World) => rshow_any a v ha)
    generalize numV (prs s) = p1 at *
    generalize perr (prs s) = p2 at *
    generalize ends s = p3 at *
    generalize shw a = p4 at *
    go_enter Tryd.func3, Tryd.ntmps3
    go_wp2_with fail
    refine (unhide HB).mono ?_
    rintro e w1 ⟨rfl, hx1⟩
    clear HB
    go_wp2_with fail
    refine (unhide H1 _ hx1).mono ?_
    rintro e w2 ⟨rfl, hy⟩
    have hx2 := hx1.trans hy
    clear hy H1
    go_wp2_with fail
    refine (unhide H2 _).mono ?_
    rintro e w3 ⟨rfl, hy⟩
    have hx3 := hx2.trans hy
    clear hy H2
    go_wp2_with fail
    refine (unhide H3 _).mono ?_
    rintro e w4 ⟨rfl, hw⟩
    subst hw
    clear H3
    go_wp2_with fail
    refine (unhide H4 _).mono ?_
    rintro e w5 ⟨rfl, hy⟩
    have hx5 := hx3.trans hy
    clear hy H4
    go_wp2_with fail
    refine (unhide H5 _ hx5).mono ?_
    rintro e w6 ⟨rfl, hy⟩
    have hx6 := hx5.trans hy
    clear hy H5
    go_wp2_with fail
    refine (unhide H6 _).mono ?_
    rintro e w7 ⟨rfl, hy⟩
    have hx7 := hx6.trans hy
    clear hy H6
    go_wp2
    go_ret
    exact ⟨rfl, hx7⟩
  · have h60' : 60 < (s.length : Int) := by omega
    go_enter Tryd.func3, Tryd.ntmps3
    go_wp2_with fail
    refine (unhide HB).mono ?_
    rintro e w1 ⟨rfl, hx1⟩
    clear HB
    go_wp2
    go_ret
    exact ⟨rfl, hx1⟩
end Go.Proofs.YtclbekmihimdmaaDoor
