/-
  HoH, HoI.
-/
import Derived.Test.YtenlampiiodkhaaGreatDoorCCc
import Derived.Test.YtenlampiiodkhaaGreatDoorCMc
import Derived.Test.YtenlampiiodkhaaGreatDoorCQc
import Derived.Test.YtenlampiiodkhaaGreatDoorCIc
import Derived.Test.YtenlampiiodkhaaGreatDoorBNc
import Derived.Test.YtenlampiiodkhaaGreatDoorCNc
import Derived.Test.YtenlampiiodkhaaGreatDoorCGc
namespace Go.Proofs.YtenlampiiodkhaaGreatDoor
set_option linter.unusedVariables false
open Go.RowKit
theorem rparse6 (s : List UInt8) (w : World) (hs : s.length ≤ 200) : Calls Tryz.prog 44 #[S s] w fun e w' => e = .returned (.tuple #[V8 (aO (par6 s)), .int .i64 (perr6 (par6 s))]) ∧ Ext w w' :=
  rparse6_any s w hs fun tail t v ht => rpieces_any tail t v ht
theorem pct_plain (l : List UInt8) (w : World) (hm : l.length ≤ 1000000) :
    Calls Tryz.prog 46 #[S l] w fun e w' => ∃ v, e = .returned v ∧ w'.ownsRow w.heap.size 5 1 v (Pct.decd l).length ((Pct.decd l).map B) ∧ Below w.heap.size w w' := Pct.plain_own l w hm
theorem pct_percent (s : Int) (ao : Option Addr) (l cap : Nat) (bs : List UInt8) (w : World) (hl : bs.length = l) (hm : l ≤ 1000000) (h : RdV w ao cap (bs.map B)) :
    Calls Tryz.prog 45 #[.int .i64 s, .slice ao l cap] w fun e w' => e = .returned (S (Pct.encd s bs)) ∧ Ext w w' := Pct.percent_own s ao l cap bs w hl hm h
theorem mid_ext (s : List UInt8) : (⟨s.toArray⟩ : ByteArray).extract 1 (s.length - 1) = ⟨(inB s).toArray⟩ := by
  apply ByteArray.ext; apply Array.toList_inj.1; rw [Lib.extract_data]; show List.take (s.length - 1 - 1) (List.drop 1 s) = inB s; unfold inB; rw [List.dropLast_eq_take, List.length_drop]
theorem mid_slice (w : World) (s : List UInt8) (h : 2 ≤ s.length) : (Instr.slice 9 (S s) (some (.int .i64 1)) (some (.int .i64 ((s.length : Int) - 1))) none).run Tryz.prog w = .ok (S (inB s)) w := by
  have hr := run_slice_string w 9 ⟨s.toArray⟩ .i64 .i64 1 ((s.length : Int) - 1) Tryz.underlying9 (by omega) (by omega) (by rw [size_S]; omega); rw [show (1 : Int).toNat = 1 from rfl, show ((s.length : Int) - 1).toNat = s.length - 1 by omega] at hr; rw [hr, mid_ext s]
theorem last_idx (w : World) (s : List UInt8) (h : 1 ≤ s.length) : (Instr.index 9 (S s) (.int .i64 ((s.length : Int) - 1))).run Tryz.prog w = .ok (B (s.getD (s.length - 1) 0)) w := by
  have := idx_str w s .i64 (s.length - 1) (by omega)
  rwa [show ((s.length - 1 : Nat) : Int) = (s.length : Int) - 1 by omega] at this
theorem last_eq (s : List UInt8) (h : 1 ≤ s.length) : s.getLast? = some (s.getD (s.length - 1) 0) := by
  rw [List.getLast?_eq_getElem?, List.getElem?_eq_getElem (by omega)]; simp [List.getD, show s.length - 1 < s.length by omega]
theorem head_eq (s : List UInt8) (h : 1 ≤ s.length) : s.head? = some (s.getD 0 0) := by
  cases s with
  | nil => simp at h
  | cons x t => rfl
theorem b_ne {x y : UInt8} (h : x ≠ y) : ((x.toNat : Int) == (y.toNat : Int)) = false := by
  rw [beq_eq_false_iff_ne]; intro e; exact h (UInt8.toNat_inj.1 (by omega))
theorem b_ne' {x y : UInt8} (h : x ≠ y) : ¬ (x.toNat : Int) = (y.toNat : Int) := fun e => h (UInt8.toNat_inj.1 (by omega))
set_option maxHeartbeats 4000000 in
set_option maxRecDepth 100000 in
theorem rhost_long (s : List UInt8) (sp : Bool) (w : World) (hs : s.length ≤ 200) (hb : s.head? = some 91) :
    Calls Tryz.prog 16 #[S s, .bool sp] w fun e w' => e = .returned (.tuple #[S (nS ((longO s).map shL)), .int .i64 (nE ((longO s).map shL))]) ∧ Ext w w' := by
  have hsz := size_S s; have h1 : 1 ≤ s.length := by
    cases s with
    | nil => cases hb
    | cons x t => simp
  have h0 : (0 : Int) < (s.length : Int) := by omega
  have hg0 : s.getD 0 0 = 91 := by
    have := head_eq s h1; rw [hb] at this; exact (Option.some.inj this).symm
  have i0 : (Instr.index 9 (S s) (.int .i64 0)).run Tryz.prog w = .ok (B 91) w := by
    have := idx_str w s .i64 0 h1
    rwa [hg0] at this
  have iL := last_idx w s h1; have hl := last_eq s h1; have p1 : (0 : Int) ≤ (s.length : Int) - 1 := by omega
  by_cases h93 : s.getD (s.length - 1) 0 = 93
  · have h2 : 2 ≤ s.length := by
      rcases Nat.lt_or_ge s.length 2 with h | h
      · have e1 : s.length = 1 := by omega
        rw [show s.length - 1 = 0 by omega, hg0] at h93; exact absurd h93 (by decide)
      · exact h
    have hlong : longO s = par6 (inB s) := by
      unfold longO; rw [if_pos ⟨hb, h2, by rw [hl, h93]⟩]
    have ms := mid_slice w s h2; have hmx : max ((s.length : Int) - 1) 1 = (s.length : Int) - 1 := by omega
    have hmx2 : ¬ (s.length : Int) - 1 < 1 := by omega
    have HP := hide (rparse6 (inB s) w (by unfold inB; rw [List.length_dropLast, List.length_drop]; omega)); rw [h93] at iL; rw [hlong]; clear hlong hl h93 hg0 hb; generalize hin : inB s = m at *; clear hin
    cases hp : par6 m with
    | none =>
      rw [hp] at HP; have HP2 : Hid (Calls Tryz.prog 44 #[S m] w fun e w' => e = .returned (.tuple #[.agg #[U 0, U 0, U 0, U 0, U 0, U 0, U 0, U 0], .int .i64 5]) ∧ Ext w w') := HP; clear HP hp; go_enter Tryz.func16, Tryz.ntmps16; go_wp2_with fail
      refine (unhide HP2).mono ?_; rintro e w1 ⟨rfl, hx1⟩; clear HP2; have hx2 := hx1.trans (Ext.alloc w1 (.cells #[U 0, U 0, U 0, U 0, U 0, U 0, U 0, U 0] 36)); clear hx1 ms i0 iL; go_wp2; go_ret2; exact ⟨rfl, hx2⟩
    | some a =>
      obtain ⟨h8, hsm⟩ := par6_good hp; obtain ⟨x0, x1, x2, x3, x4, x5, x6, x7, rfl, hV⟩ := V8_agg a h8; rw [hp] at HP; have HP2 : Hid (Calls Tryz.prog 44 #[S m] w fun e w' => e = .returned (.tuple #[.agg #[U x0, U x1, U x2, U x3, U x4, U x5, U x6, U x7], .int .i64 0]) ∧ Ext w w') := HP; have R6 := hide (fun v => rshow6_any x0 x1 x2 x3 x4 x5 x6 x7 v hsm); have hl6 := shw6_len [x0, x1, x2, x3, x4, x5, x6, x7] rfl hsm; have FIN : Hid (Ending.returned (.tuple #[S (91 :: (shw6 [x0, x1, x2, x3, x4, x5, x6, x7] ++ [93])), .int .i64 0]) = .returned (.tuple #[S (nS ((some [x0, x1, x2, x3, x4, x5, x6, x7]).map shL)), .int .i64 (nE ((some [x0, x1, x2, x3, x4, x5, x6, x7]).map shL))])) := rfl; generalize nS ((some [x0, x1, x2, x3, x4, x5, x6, x7]).map shL) = zs at *; generalize nE ((some [x0, x1, x2, x3, x4, x5, x6, x7]).map shL) = ze at *; generalize shw6 [x0, x1, x2, x3, x4, x5, x6, x7] = z at *; have hc1 : (⟨#[91]⟩ : ByteArray) ++ (⟨z.toArray⟩ : ByteArray) = ⟨(91 :: z).toArray⟩ := catB [91] z; have hc2 : (⟨(91 :: z).toArray⟩ : ByteArray) ++ (⟨#[93]⟩ : ByteArray) = ⟨(91 :: (z ++ [93])).toArray⟩ := catB (91 :: z) [93]; have n1 : ¬ 9223372036854775807 < 1 + z.length := by omega
      have n2 : ¬ 9223372036854775807 < (91 :: z).length + 1 := by simp; omega
      clear HP hp hV h8 hsm hl6; generalize hQ : (91 :: (z ++ [93])) = ZZ at *; clear hQ; generalize hQ1 : (91 :: z) = Z1 at *; clear hQ1; go_enter Tryz.func16, Tryz.ntmps16; go_wp2_with fail
      refine (unhide HP2).mono ?_; rintro e w1 ⟨rfl, hx1⟩; clear HP2 ms i0 iL; have hx2 := hx1.trans (Ext.alloc w1 (.cells #[U x0, U x1, U x2, U x3, U x4, U x5, U x6, U x7] 36)); have hld := load_8q (alloc_new w1 (.cells #[U x0, U x1, U x2, U x3, U x4, U x5, U x6, U x7] 36)); have R62 := hide (unhide R6 (w1.alloc (.cells #[U x0, U x1, U x2, U x3, U x4, U x5, U x6, U x7] 36))); have HX := hide hx2; clear hx1 hx2 R6; go_wp2_with fail
      refine (unhide R62).mono ?_; rintro e w3 ⟨rfl, hx3⟩; have HX2 := hide ((unhide HX).trans hx3); clear R62 hld HX hx3; go_wp2; go_ret2; exact ⟨unhide FIN, unhide HX2⟩
  · have hlong : longO s = none := by
      unfold longO; rw [if_neg (fun h => h93 (by have := h.2.2; rw [hl] at this; exact Option.some.inj this))]
    rw [hlong]; have e1 := b_ne h93; have e2 := b_ne' h93; simp only [show (((93 : UInt8).toNat : Nat) : Int) = 93 from rfl] at e1 e2; clear hlong hl h93 hg0 hb; generalize s.getD (s.length - 1) 0 = y at *; have hrf := Ext.refl w; go_enter Tryz.func16, Tryz.ntmps16; go_wp2; go_ret2; exact ⟨rfl, hrf⟩
end Go.Proofs.YtenlampiiodkhaaGreatDoor
namespace Go.Proofs.YtenlampiiodkhaaGreatDoor
set_option linter.unusedVariables false
open Go.RowKit
theorem noH_split (x : UInt8) : noH.contains x = ((x == 0) || [9, 10, 13, 32, 35, 47, 58, 60, 62, 63, 64, 91, 92, 93, 94, 124].contains x) := rfl
theorem head_not {s : List UInt8} (hb : s.head? ≠ some 91) (h1 : 1 ≤ s.length) : s.getD 0 0 ≠ 91 := fun e => hb (by rw [head_eq s h1, e])
set_option maxHeartbeats 4000000 in
set_option maxRecDepth 100000 in
theorem rhost_other (s : List UInt8) (w : World) (hs : s.length ≤ 200) (hb : s.head? ≠ some 91) :
    Calls Tryz.prog 16 #[S s, .bool false] w fun e w' => e = .returned (.tuple #[S (nS (otherO s)), .int .i64 (nE (otherO s))]) ∧ Ext w w' := by
  have hsz := size_S s; have HE := hide (fun (v : World) ao cap h => pct_percent 0 ao s.length cap s v rfl (by omega) h); have NO : Hid (s.any noH.contains = true → Ending.returned (.tuple #[.string ⟨#[]⟩, .int .i64 5]) = .returned (.tuple #[S (nS (otherO s)), .int .i64 (nE (otherO s))])) := fun h => by unfold otherO; rw [if_pos h]; rfl
  have YES : Hid (s.any noH.contains = false → Ending.returned (.tuple #[S (Pct.encd 0 s), .int .i64 0]) = .returned (.tuple #[S (nS (otherO s)), .int .i64 (nE (otherO s))])) := fun h => by unfold otherO; rw [h]; rfl
  generalize nS (otherO s) = zs at *; generalize nE (otherO s) = ze at *; generalize Pct.encd 0 s = T at *; have HIX := hide (fun (v : World) (k : Nat) (hk : k < s.length) => idx_str v s .i64 k hk); have hrf := Ext.refl w; have HCV := hide (fun v => conv_bytes v s (by omega)); have START : Hid (∀ v : World, v = w → v = w) := fun v h => h; by_cases h1 : 1 ≤ s.length
  · have h0 : (0 : Int) < (s.length : Int) := by omega
    have i0 := unhide HIX w 0 (by omega); have e0 := b_ne (head_not hb h1); have e0' := b_ne' (head_not hb h1); simp only [show (((91 : UInt8).toNat : Nat) : Int) = 91 from rfl] at e0 e0'; rw [show (((0 : Nat) : Int)) = 0 from rfl] at i0; clear hb START; generalize s.getD 0 0 = y0 at *; go_enter Tryz.func16, Tryz.ntmps16; go_wp2_with fail
    go_loopw [8] (fun i wr => ∃ k : Nat, k ≤ s.length ∧ i = .int .i64 k ∧ Hid (∀ b ∈ s.take k, noH.contains b = false) ∧ wr = w) (fun i _ => s.length - (intOf i).toNat)
    case atStart => exact ⟨0, by omega, rfl, hide (by simp), rfl⟩
    case round =>
      obtain ⟨k, hk, rfl, HOK, hw⟩ := hrel; have hw3 := hw.symm; clear hw; subst hw3; by_cases hkl : k < s.length
      · have hkl' : (k : Int) < (s.length : Int) := by omega
        have hx0 := unhide HIX w k hkl; have HT := hide (take_snoc s k 0 hkl); have HMM := hide (show s.getD k 0 ∈ s by simp [List.getD, hkl]); generalize s.getD k 0 = x at *; have HB : Hid (noH.contains x = true → Ending.returned (.tuple #[.string ⟨#[]⟩, .int .i64 5]) = .returned (.tuple #[S zs, .int .i64 ze])) := fun hb => unhide NO (List.any_eq_true.2 ⟨x, unhide HMM, hb⟩); by_cases hz : x = 0
        · have e1 : ((x.toNat : Int) == 0) = true := by rw [hz]; rfl
          have e1' : (x.toNat : Int) = 0 := by rw [hz]; rfl
          have HN := hide (unhide HB (by rw [noH_split, hz]; rfl)); clear HB HT HMM HOK NO YES HIX HE HCV hz; go_wp2; go_ret2; exact ⟨unhide HN, hrf⟩
        · have e1 := b_ne hz; have e1' := b_ne' hz; have hz0 : (x == 0) = false := by simpa using hz
          simp only [show (((0 : UInt8).toNat : Nat) : Int) = 0 from rfl] at e1 e1'; have CC := hide (rhas_any [9, 10, 13, 32, 35, 47, 58, 60, 62, 63, 64, 91, 92, 93, 94, 124] x w (by decide))
          cases hx : [9, 10, 13, 32, 35, 47, 58, 60, 62, 63, 64, 91, 92, 93, 94, 124].contains x with
          | true =>
            rw [hx] at CC; have HN := hide (unhide HB (by rw [noH_split, hx]; simp)); clear HB HT HMM HOK NO YES HIX HE HCV hx hz hz0; go_wp2_with fail
            refine (unhide CC).mono ?_; rintro e w9 ⟨rfl, hw⟩; have hw3 := hw.symm; clear hw; subst hw3; clear CC; go_wp2; go_ret2; exact ⟨unhide HN, hrf⟩
          | false =>
            rw [hx] at CC; have HOK2 : Hid (∀ b ∈ s.take (k + 1), noH.contains b = false) := by
              show ∀ b ∈ s.take (k + 1), noH.contains b = false; rw [unhide HT]; intro b hb; rcases List.mem_append.1 hb with hb | hb
              · exact unhide HOK b hb
              · rw [List.mem_singleton] at hb; rw [hb, noH_split, hx, hz0]; rfl
            clear hx HB HT HMM HOK NO YES HIX HE HCV hz hz0; go_wp2_with fail
            refine (unhide CC).mono ?_; rintro e w9 ⟨rfl, hw⟩; have hw3 := hw.symm; clear hw; subst hw3; clear CC; go_wp2; exact ⟨⟨k + 1, by omega, by simp, HOK2, by first | rfl | trivial⟩, (show s.length - ((k : Int) + 1).toNat < s.length - ((k : Int)).toNat by omega)⟩
      · have hkl' : ¬ (k : Int) < (s.length : Int) := by omega
        have hok := unhide HOK; rw [List.take_of_length_le (by omega)] at hok; have FIN := hide (unhide YES (by
          rw [Bool.eq_false_iff]; intro ha; obtain ⟨b, hb, h2⟩ := List.any_eq_true.1 ha; rw [hok b hb] at h2
          cases h2))
        obtain ⟨c2, w2, hcv, hr2, hx2⟩ := unhide HCV w; have HE2 := hide (unhide HE w2 _ c2 hr2); have HX := hide hx2; clear HE hr2 hx2 HCV HOK hok NO YES HIX; go_wp2_with fail
        refine (unhide HE2).mono ?_; rintro e w3 ⟨rfl, hx3⟩; have HX3 := hide ((unhide HX).trans hx3); clear HE2 HX hx3 hcv; go_wp2; go_ret2; exact ⟨unhide FIN, unhide HX3⟩
  · have h0 : ¬ (0 : Int) < (s.length : Int) := by omega
    clear hb START; go_enter Tryz.func16, Tryz.ntmps16; go_wp2_with fail
    go_loopw [8] (fun i wr => ∃ k : Nat, k ≤ s.length ∧ i = .int .i64 k ∧ Hid (∀ b ∈ s.take k, noH.contains b = false) ∧ wr = w) (fun i _ => s.length - (intOf i).toNat)
    case atStart => exact ⟨0, by omega, rfl, hide (by simp), rfl⟩
    case round =>
      obtain ⟨k, hk, rfl, HOK, hw⟩ := hrel; have hw3 := hw.symm; clear hw; subst hw3; by_cases hkl : k < s.length
      · have hkl' : (k : Int) < (s.length : Int) := by omega
        have hx0 := unhide HIX w k hkl; have HT := hide (take_snoc s k 0 hkl); have HMM := hide (show s.getD k 0 ∈ s by simp [List.getD, hkl]); generalize s.getD k 0 = x at *; have HB : Hid (noH.contains x = true → Ending.returned (.tuple #[.string ⟨#[]⟩, .int .i64 5]) = .returned (.tuple #[S zs, .int .i64 ze])) := fun hb => unhide NO (List.any_eq_true.2 ⟨x, unhide HMM, hb⟩); by_cases hz : x = 0
        · have e1 : ((x.toNat : Int) == 0) = true := by rw [hz]; rfl
          have e1' : (x.toNat : Int) = 0 := by rw [hz]; rfl
          have HN := hide (unhide HB (by rw [noH_split, hz]; rfl)); clear HB HT HMM HOK NO YES HIX HE HCV hz; go_wp2; go_ret2; exact ⟨unhide HN, hrf⟩
        · have e1 := b_ne hz; have e1' := b_ne' hz; have hz0 : (x == 0) = false := by simpa using hz
          simp only [show (((0 : UInt8).toNat : Nat) : Int) = 0 from rfl] at e1 e1'; have CC := hide (rhas_any [9, 10, 13, 32, 35, 47, 58, 60, 62, 63, 64, 91, 92, 93, 94, 124] x w (by decide))
          cases hx : [9, 10, 13, 32, 35, 47, 58, 60, 62, 63, 64, 91, 92, 93, 94, 124].contains x with
          | true =>
            rw [hx] at CC; have HN := hide (unhide HB (by rw [noH_split, hx]; simp)); clear HB HT HMM HOK NO YES HIX HE HCV hx hz hz0; go_wp2_with fail
            refine (unhide CC).mono ?_; rintro e w9 ⟨rfl, hw⟩; have hw3 := hw.symm; clear hw; subst hw3; clear CC; go_wp2; go_ret2; exact ⟨unhide HN, hrf⟩
          | false =>
            rw [hx] at CC; have HOK2 : Hid (∀ b ∈ s.take (k + 1), noH.contains b = false) := by
              show ∀ b ∈ s.take (k + 1), noH.contains b = false; rw [unhide HT]; intro b hb; rcases List.mem_append.1 hb with hb | hb
              · exact unhide HOK b hb
              · rw [List.mem_singleton] at hb; rw [hb, noH_split, hx, hz0]; rfl
            clear hx HB HT HMM HOK NO YES HIX HE HCV hz hz0; go_wp2_with fail
            refine (unhide CC).mono ?_; rintro e w9 ⟨rfl, hw⟩; have hw3 := hw.symm; clear hw; subst hw3; clear CC; go_wp2; exact ⟨⟨k + 1, by omega, by simp, HOK2, by first | rfl | trivial⟩, (show s.length - ((k : Int) + 1).toNat < s.length - ((k : Int)).toNat by omega)⟩
      · have hkl' : ¬ (k : Int) < (s.length : Int) := by omega
        have hok := unhide HOK; rw [List.take_of_length_le (by omega)] at hok; have FIN := hide (unhide YES (by
          rw [Bool.eq_false_iff]; intro ha; obtain ⟨b, hb, h2⟩ := List.any_eq_true.1 ha; rw [hok b hb] at h2
          cases h2))
        obtain ⟨c2, w2, hcv, hr2, hx2⟩ := unhide HCV w; have HE2 := hide (unhide HE w2 _ c2 hr2); have HX := hide hx2; clear HE hr2 hx2 HCV HOK hok NO YES HIX; go_wp2_with fail
        refine (unhide HE2).mono ?_; rintro e w3 ⟨rfl, hx3⟩; have HX3 := hide ((unhide HX).trans hx3); clear HE2 HX hx3 hcv; go_wp2; go_ret2; exact ⟨unhide FIN, unhide HX3⟩
set_option maxHeartbeats 4000000 in
set_option maxRecDepth 100000 in
theorem rhost_name (s : List UInt8) (w : World) (hs : s.length ≤ 200) (hb : s.head? ≠ some 91) :
    Calls Tryz.prog 16 #[S s, .bool true] w fun e w' => e = .returned (.tuple #[S (nS (nameO s)), .int .i64 (nE (nameO s))]) ∧ Ext w w' := by
  have hsz := size_S s; have HD := hide (fun v => pct_plain s v (by omega)); have hdl := Pct.decd_len s; have HA := hide (fun (v : World) ao l cap (hl : (Pct.decd s).length = l) h => rascii_any ao l cap (Pct.decd s) v hl h); have HIX := hide (fun (v : World) (k : Nat) (hk : k < s.length) => idx_str v s .i64 k hk); have hrf := Ext.refl w; have HEAD : Hid (1 ≤ s.length → s.getD 0 0 ≠ 91) := fun h1 => head_not hb h1; clear hb; unfold nameO; generalize Pct.decd s = d at *
  cases hn : nam d with
  | none =>
    rw [hn] at HA; have HA2 : Hid (∀ (v : World), ∀ ao l cap, d.length = l → RdV v ao cap (d.map B) → Calls Tryz.prog 10 #[.slice ao l cap] v fun e w' => e = .returned (.tuple #[.string ⟨#[]⟩, .int .i64 5]) ∧ Ext v w') := HA; clear HA hn; by_cases h1 : 1 ≤ s.length
    · have h0 : (0 : Int) < (s.length : Int) := by omega
      have i0 := unhide HIX w 0 (by omega); have e0 := b_ne (unhide HEAD h1); have e0' := b_ne' (unhide HEAD h1); simp only [show (((91 : UInt8).toNat : Nat) : Int) = 91 from rfl] at e0 e0'; rw [show (((0 : Nat) : Int)) = 0 from rfl] at i0; clear HEAD HIX; generalize s.getD 0 0 = y0 at *; have HD1 := hide (unhide HD w); clear HD; go_enter Tryz.func16, Tryz.ntmps16; go_wp2_with fail
      refine (unhide HD1).mono ?_; rintro e w1 ⟨v, rfl, own, hx1⟩; clear HD1; obtain ⟨ao, cap, rfl, hr, _⟩ := RdV.of_owned own; have HA3 := hide (unhide HA2 w1 ao d.length cap rfl hr); have HX := hide hx1; clear HA2 own hr hx1; go_wp2_with fail
      refine (unhide HA3).mono ?_; rintro e w2 ⟨rfl, hx2⟩; have HX2 := hide (Ext.trans (unhide HX) hx2); clear HA3 HX hx2; go_wp2; go_ret2; exact ⟨rfl, unhide HX2⟩
    · have h0 : ¬ (0 : Int) < (s.length : Int) := by omega
      clear HEAD HIX; have HD1 := hide (unhide HD w); clear HD; go_enter Tryz.func16, Tryz.ntmps16; go_wp2_with fail
      refine (unhide HD1).mono ?_; rintro e w1 ⟨v, rfl, own, hx1⟩; clear HD1; obtain ⟨ao, cap, rfl, hr, _⟩ := RdV.of_owned own; have HA3 := hide (unhide HA2 w1 ao d.length cap rfl hr); have HX := hide hx1; clear HA2 own hr hx1; go_wp2_with fail
      refine (unhide HA3).mono ?_; rintro e w2 ⟨rfl, hx2⟩; have HX2 := hide (Ext.trans (unhide HX) hx2); clear HA3 HX hx2; go_wp2; go_ret2; exact ⟨rfl, unhide HX2⟩
  | some n =>
    rw [hn] at HA; have HA2 : Hid (∀ (v : World), ∀ ao l cap, d.length = l → RdV v ao cap (d.map B) → Calls Tryz.prog 10 #[.slice ao l cap] v fun e w' => e = .returned (.tuple #[S n, .int .i64 0]) ∧ Ext v w') := HA; have hnl := (nam_stays hn).2.2; have HE := hide (fun v => rends_any n v (by omega)); show Calls _ _ _ _ fun e w' => e = .returned (.tuple #[S (nS (if ends n = true then (prs n).map shw else some n)), .int .i64 (nE (if ends n = true then (prs n).map shw else some n))]) ∧ Ext w w'
    cases he : ends n with
    | false =>
      rw [he] at HE; rw [if_neg (by simp)]; have FIN : Hid (Ending.returned (.tuple #[S n, .int .i64 0]) = .returned (.tuple #[S (nS (some n)), .int .i64 (nE (some n))])) := rfl; generalize nS (some n) = zs at *; generalize nE (some n) = ze at *; clear HA hn he; by_cases h1 : 1 ≤ s.length
      · have h0 : (0 : Int) < (s.length : Int) := by omega
        have i0 := unhide HIX w 0 (by omega); have e0 := b_ne (unhide HEAD h1); have e0' := b_ne' (unhide HEAD h1); simp only [show (((91 : UInt8).toNat : Nat) : Int) = 91 from rfl] at e0 e0'; rw [show (((0 : Nat) : Int)) = 0 from rfl] at i0; clear HEAD HIX; generalize s.getD 0 0 = y0 at *; have HD1 := hide (unhide HD w); clear HD; go_enter Tryz.func16, Tryz.ntmps16; go_wp2_with fail
        refine (unhide HD1).mono ?_; rintro e w1 ⟨v, rfl, own, hx1⟩; clear HD1; obtain ⟨ao, cap, rfl, hr, _⟩ := RdV.of_owned own; have HA3 := hide (unhide HA2 w1 ao d.length cap rfl hr); have HX := hide hx1; clear HA2 own hr hx1; go_wp2_with fail
        refine (unhide HA3).mono ?_; rintro e w2 ⟨rfl, hx2⟩; have HX2 := hide (Ext.trans (unhide HX) hx2); clear HA3 HX hx2; have HE2 := hide (unhide HE w2); clear HE; go_wp2_with fail
        refine (unhide HE2).mono ?_; rintro e w3 ⟨rfl, hx3⟩; have HX3 := hide ((unhide HX2).trans hx3); clear HE2 HX2 hx3; go_wp2; go_ret2; exact ⟨unhide FIN, unhide HX3⟩
      · have h0 : ¬ (0 : Int) < (s.length : Int) := by omega
        clear HEAD HIX; have HD1 := hide (unhide HD w); clear HD; go_enter Tryz.func16, Tryz.ntmps16; go_wp2_with fail
        refine (unhide HD1).mono ?_; rintro e w1 ⟨v, rfl, own, hx1⟩; clear HD1; obtain ⟨ao, cap, rfl, hr, _⟩ := RdV.of_owned own; have HA3 := hide (unhide HA2 w1 ao d.length cap rfl hr); have HX := hide hx1; clear HA2 own hr hx1; go_wp2_with fail
        refine (unhide HA3).mono ?_; rintro e w2 ⟨rfl, hx2⟩; have HX2 := hide (Ext.trans (unhide HX) hx2); clear HA3 HX hx2; have HE2 := hide (unhide HE w2); clear HE; go_wp2_with fail
        refine (unhide HE2).mono ?_; rintro e w3 ⟨rfl, hx3⟩; have HX3 := hide ((unhide HX2).trans hx3); clear HE2 HX2 hx3; go_wp2; go_ret2; exact ⟨unhide FIN, unhide HX3⟩
    | true =>
      rw [he] at HE; rw [if_pos rfl]; have HP := hide (fun v => rparse_any n v (by omega))
      cases hp : prs n with
      | none =>
        rw [hp] at HP; have HP2 : Hid (∀ v, Calls Tryz.prog 48 #[S n] v fun e w' => e = .returned (.tuple #[.int .u32 0, .int .i64 5]) ∧ Ext v w') := HP; clear HA hn he HP hp; by_cases h1 : 1 ≤ s.length
        · have h0 : (0 : Int) < (s.length : Int) := by omega
          have i0 := unhide HIX w 0 (by omega); have e0 := b_ne (unhide HEAD h1); have e0' := b_ne' (unhide HEAD h1); simp only [show (((91 : UInt8).toNat : Nat) : Int) = 91 from rfl] at e0 e0'; rw [show (((0 : Nat) : Int)) = 0 from rfl] at i0; clear HEAD HIX; generalize s.getD 0 0 = y0 at *; have HD1 := hide (unhide HD w); clear HD; go_enter Tryz.func16, Tryz.ntmps16; go_wp2_with fail
          refine (unhide HD1).mono ?_; rintro e w1 ⟨v, rfl, own, hx1⟩; clear HD1; obtain ⟨ao, cap, rfl, hr, _⟩ := RdV.of_owned own; have HA3 := hide (unhide HA2 w1 ao d.length cap rfl hr); have HX := hide hx1; clear HA2 own hr hx1; go_wp2_with fail
          refine (unhide HA3).mono ?_; rintro e w2 ⟨rfl, hx2⟩; have HX2 := hide (Ext.trans (unhide HX) hx2); clear HA3 HX hx2; have HE2 := hide (unhide HE w2); clear HE; go_wp2_with fail
          refine (unhide HE2).mono ?_; rintro e w3 ⟨rfl, hx3⟩; have HX3 := hide ((unhide HX2).trans hx3); clear HE2 HX2 hx3; have HP3 := hide (unhide HP2 w3); clear HP2; go_wp2_with fail
          refine (unhide HP3).mono ?_; rintro e w4 ⟨rfl, hx4⟩; have HX4 := hide ((unhide HX3).trans hx4); clear HP3 HX3 hx4; go_wp2; go_ret2; exact ⟨rfl, unhide HX4⟩
        · have h0 : ¬ (0 : Int) < (s.length : Int) := by omega
          clear HEAD HIX; have HD1 := hide (unhide HD w); clear HD; go_enter Tryz.func16, Tryz.ntmps16; go_wp2_with fail
          refine (unhide HD1).mono ?_; rintro e w1 ⟨v, rfl, own, hx1⟩; clear HD1; obtain ⟨ao, cap, rfl, hr, _⟩ := RdV.of_owned own; have HA3 := hide (unhide HA2 w1 ao d.length cap rfl hr); have HX := hide hx1; clear HA2 own hr hx1; go_wp2_with fail
          refine (unhide HA3).mono ?_; rintro e w2 ⟨rfl, hx2⟩; have HX2 := hide (Ext.trans (unhide HX) hx2); clear HA3 HX hx2; have HE2 := hide (unhide HE w2); clear HE; go_wp2_with fail
          refine (unhide HE2).mono ?_; rintro e w3 ⟨rfl, hx3⟩; have HX3 := hide ((unhide HX2).trans hx3); clear HE2 HX2 hx3; have HP3 := hide (unhide HP2 w3); clear HP2; go_wp2_with fail
          refine (unhide HP3).mono ?_; rintro e w4 ⟨rfl, hx4⟩; have HX4 := hide ((unhide HX3).trans hx4); clear HP3 HX3 hx4; go_wp2; go_ret2; exact ⟨rfl, unhide HX4⟩
      | some a =>
        have hlt := prs_lt hp; rw [hp] at HP; have HP2 : Hid (∀ v, Calls Tryz.prog 48 #[S n] v fun e w' => e = .returned (.tuple #[.int .u32 (a : Int), .int .i64 0]) ∧ Ext v w') := HP; have HS := hide (fun v => rshow_any a v hlt); have FIN : Hid (Ending.returned (.tuple #[S (shw a), .int .i64 0]) = .returned (.tuple #[S (nS ((some a).map shw)), .int .i64 (nE ((some a).map shw))])) := rfl; generalize nS ((some a).map shw) = zs at *; generalize nE ((some a).map shw) = ze at *; generalize shw a = T at *; clear HA hn he HP hp; by_cases h1 : 1 ≤ s.length
        · have h0 : (0 : Int) < (s.length : Int) := by omega
          have i0 := unhide HIX w 0 (by omega); have e0 := b_ne (unhide HEAD h1); have e0' := b_ne' (unhide HEAD h1); simp only [show (((91 : UInt8).toNat : Nat) : Int) = 91 from rfl] at e0 e0'; rw [show (((0 : Nat) : Int)) = 0 from rfl] at i0; clear HEAD HIX; generalize s.getD 0 0 = y0 at *; have HD1 := hide (unhide HD w); clear HD; go_enter Tryz.func16, Tryz.ntmps16; go_wp2_with fail
          refine (unhide HD1).mono ?_; rintro e w1 ⟨v, rfl, own, hx1⟩; clear HD1; obtain ⟨ao, cap, rfl, hr, _⟩ := RdV.of_owned own; have HA3 := hide (unhide HA2 w1 ao d.length cap rfl hr); have HX := hide hx1; clear HA2 own hr hx1; go_wp2_with fail
          refine (unhide HA3).mono ?_; rintro e w2 ⟨rfl, hx2⟩; have HX2 := hide (Ext.trans (unhide HX) hx2); clear HA3 HX hx2; have HE2 := hide (unhide HE w2); clear HE; go_wp2_with fail
          refine (unhide HE2).mono ?_; rintro e w3 ⟨rfl, hx3⟩; have HX3 := hide ((unhide HX2).trans hx3); clear HE2 HX2 hx3; have HP3 := hide (unhide HP2 w3); clear HP2; go_wp2_with fail
          refine (unhide HP3).mono ?_; rintro e w4 ⟨rfl, hx4⟩; have HX4 := hide ((unhide HX3).trans hx4); clear HP3 HX3 hx4; have HS2 := hide (unhide HS w4); clear HS; go_wp2_with fail
          refine (unhide HS2).mono ?_; rintro e w5 ⟨rfl, hx5⟩; have HX5 := hide ((unhide HX4).trans hx5); clear HS2 HX4 hx5; go_wp2; go_ret2; exact ⟨unhide FIN, unhide HX5⟩
        · have h0 : ¬ (0 : Int) < (s.length : Int) := by omega
          clear HEAD HIX; have HD1 := hide (unhide HD w); clear HD; go_enter Tryz.func16, Tryz.ntmps16; go_wp2_with fail
          refine (unhide HD1).mono ?_; rintro e w1 ⟨v, rfl, own, hx1⟩; clear HD1; obtain ⟨ao, cap, rfl, hr, _⟩ := RdV.of_owned own; have HA3 := hide (unhide HA2 w1 ao d.length cap rfl hr); have HX := hide hx1; clear HA2 own hr hx1; go_wp2_with fail
          refine (unhide HA3).mono ?_; rintro e w2 ⟨rfl, hx2⟩; have HX2 := hide (Ext.trans (unhide HX) hx2); clear HA3 HX hx2; have HE2 := hide (unhide HE w2); clear HE; go_wp2_with fail
          refine (unhide HE2).mono ?_; rintro e w3 ⟨rfl, hx3⟩; have HX3 := hide ((unhide HX2).trans hx3); clear HE2 HX2 hx3; have HP3 := hide (unhide HP2 w3); clear HP2; go_wp2_with fail
          refine (unhide HP3).mono ?_; rintro e w4 ⟨rfl, hx4⟩; have HX4 := hide ((unhide HX3).trans hx4); clear HP3 HX3 hx4; have HS2 := hide (unhide HS w4); clear HS; go_wp2_with fail
          refine (unhide HS2).mono ?_; rintro e w5 ⟨rfl, hx5⟩; have HX5 := hide ((unhide HX4).trans hx5); clear HS2 HX4 hx5; go_wp2; go_ret2; exact ⟨unhide FIN, unhide HX5⟩
set_option maxHeartbeats 2000000 in
theorem rhost_any (s : List UInt8) (sp : Bool) (w : World) (hs : s.length ≤ 200) :
    Calls Tryz.prog 16 #[S s, .bool sp] w fun e w' => e = .returned (.tuple #[S (nS (hostO sp s)), .int .i64 (nE (hostO sp s))]) ∧ Ext w w' := by
  unfold hostO; by_cases hb : s.head? = some 91
  · rw [if_pos hb]; exact rhost_long s sp w hs hb
  · rw [if_neg hb]
    cases sp with
    | true => exact rhost_name s w hs hb
    | false => exact rhost_other s w hs hb
end Go.Proofs.YtenlampiiodkhaaGreatDoor
