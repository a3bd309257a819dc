/-
  I4C, I4D, I4E, I4F.
-/
import Derived.Test.YtenlampiiodkhaaGreatDoorBLc
import Derived.Test.YtenlampiiodkhaaGreatDoorShelfc
import Derived.Lib.AppendIntMem
import Derived.Test.YtenlampiiodkhaaGreatDoorBAc
import Derived.Lib.AppendStr
import Derived.Laws.BitsAllLaws
namespace Go.Proofs.YtenlampiiodkhaaGreatDoor
set_option linter.unusedVariables false
open Go.RowKit
structure Tb4 (w : World) : Prop where
  max : ∃ m : Int, w.cell? ⟨2, 0, none⟩ = some (.int .i64 m)
  pow : Lib.TabIs Tryz.prog w "internal/strconv.uint64pow10" .u64 Lib.pow10Tab
theorem Tb4.below {w w' : World} (h : Tb4 w) (hx : Ext w w') : Tb4 w' :=
  ⟨by
    obtain ⟨m, hm⟩ := h.max; exact ⟨m, (hx.cell (p := ⟨2, 0, none⟩) (cell_lt hm)).trans hm⟩, Lib.tabBelow_of_tabIs h.pow w' hx⟩
theorem trim_any (s : List UInt8) (w : World) (hs : s.length ≤ 1000000) : Calls Tryz.prog 80 #[S s] w fun e w' => e = .returned (S (Lib.trimSuffix s [46])) ∧ w' = w := by
  have HT : Hid (Calls Tryz.prog 62 #[S s, .string ⟨#[46]⟩] w fun e w' => e = .returned (S (Lib.trimSuffix s [46])) ∧ w' = w) := Tryz.strings_TrimSuffix ⟨s.toArray⟩ ⟨#[46]⟩ w (by rw [size_S]; omega); generalize Lib.trimSuffix s [46] = t at *; go_enter Tryz.func80, Tryz.ntmps80; go_wp2_with fail
  refine (unhide HT).mono ?_; rintro e w2 ⟨rfl, hw⟩; subst hw; clear HT; go_wp2; go_ret; exact ⟨rfl, rfl⟩
theorem count_any (s : List UInt8) (w : World) : Calls Tryz.prog 81 #[S s, .string ⟨#[46]⟩] w fun e w' => e = .returned (.int .i64 (((pcs 46 s).length : Int) - 1)) ∧ w' = w := by
  have h := Tryz.strings_Count_one ⟨s.toArray⟩ 46 w; have e : ((Lib.countByte (⟨s.toArray⟩ : ByteArray).data.toList 46 : Nat) : Int) = ((pcs 46 s).length : Int) - 1 := by
    have := pcs_count 46 s; show ((Lib.countByte s 46 : Nat) : Int) = _; omega
  rw [e] at h; exact h
theorem split_any (s : List UInt8) (w : World) (hs : s.length ≤ 1000000) (tb : Tb4 w) : Calls Tryz.prog 37 #[S s, .string ⟨#[46]⟩] w fun e w' => ∃ b, e = .returned (.slice (some ⟨b, 0, none⟩) (pcs 46 s).length (pcs 46 s).length) ∧ RdV w' (some ⟨b, 0, none⟩) (pcs 46 s).length ((pcs 46 s).map S) ∧ Ext w w' := by
  obtain ⟨m, hm⟩ := tb.max; have h := Tryz.strings_Split ⟨s.toArray⟩ ⟨#[46]⟩ m w (by rw [size_S]; omega) hm (by decide); rw [split_S, count_S] at h; refine h.mono ?_; rintro e w' ⟨rfl, rfl⟩; refine ⟨w.heap.size, rfl, ?_, Ext.alloc _ _⟩; have := RdV.lit w ((pcs 46 s).map S) 9 (0, 0) (by
    have h1 := pcs_count 46 s; have h2 : Lib.countByte s 46 ≤ s.length := List.count_le_length; simp; omega)
  simpa using this
set_option maxHeartbeats 1000000 in
set_option maxRecDepth 100000 in
theorem mostOfLast_any (n : Nat) (w : World) (h1 : 1 ≤ n) (h4 : n ≤ 4) : Calls Tryz.prog 83 #[.int .i64 (n : Int)] w fun e w' => e = .returned (.int .u32 (mostL n : Int)) ∧ w' = w := by
  have hn : n = 1 ∨ n = 2 ∨ n = 3 ∨ n = 4 := by omega
  rcases hn with rfl | rfl | rfl | rfl
  all_goals
    go_enter Tryz.func83, Tryz.ntmps83; go_wp2; go_ret; exact ⟨rfl, rfl⟩
set_option maxHeartbeats 1000000 in
set_option maxRecDepth 100000 in
theorem shiftOf_any (i : Nat) (w : World) (h4 : i ≤ 3) : Calls Tryz.prog 84 #[.int .i64 (i : Int)] w fun e w' => e = .returned (.int .i64 (8 * (3 - (i : Int)))) ∧ w' = w := by
  have hn : i = 0 ∨ i = 1 ∨ i = 2 ∨ i = 3 := by omega
  rcases hn with rfl | rfl | rfl | rfl
  all_goals
    go_enter Tryz.func84, Tryz.ntmps84; go_wp2; go_ret; exact ⟨rfl, rfl⟩
end Go.Proofs.YtenlampiiodkhaaGreatDoor
namespace Go.Proofs.YtenlampiiodkhaaGreatDoor
set_option linter.unusedVariables false
open Go.RowKit
def perr (o : Option Nat) : Int := if o.isSome = true then 0 else 5
def bd (n k : Nat) : Nat := 4294967296 - 256 ^ (4 - k) + 256 ^ (5 - n)
theorem bd_step {n k a v : Nat} (hk : k + 1 < n) (hn : n ≤ 4) (ha : a < bd n k) (hv : v ≤ 255) : a + v * 256 ^ (3 - k) < bd n (k + 1) ∧ bd n (k + 1) ≤ 4294967296 := by
  unfold bd at *; have hn2 : n = 2 ∨ n = 3 ∨ n = 4 := by omega
  have hk2 : k = 0 ∨ k = 1 ∨ k = 2 := by omega
  rcases hn2 with rfl | rfl | rfl <;> rcases hk2 with rfl | rfl | rfl <;> simp at * <;> omega
theorem bd_start {n a : Nat} (h1 : 1 ≤ n) (hn : n ≤ 4) (ha : a ≤ mostL n) : a < bd n 0 := by
  unfold bd mostL at *; have hn2 : n = 1 ∨ n = 2 ∨ n = 3 ∨ n = 4 := by omega
  rcases hn2 with rfl | rfl | rfl | rfl <;> simp at * <;> omega
theorem bd_max {n k : Nat} (h1 : k + 1 ≤ n) (hn : n ≤ 4) : bd n k ≤ 4294967296 := by
  unfold bd; have hn2 : n = 1 ∨ n = 2 ∨ n = 3 ∨ n = 4 := by omega
  have hk2 : k = 0 ∨ k = 1 ∨ k = 2 ∨ k = 3 := by omega
  rcases hn2 with rfl | rfl | rfl | rfl <;> rcases hk2 with rfl | rfl | rfl | rfl <;> simp at * 
set_option maxHeartbeats 2000000 in
set_option maxRecDepth 100000 in
theorem parse_any (s : List UInt8) (w : World) (hs : s.length ≤ 100000) (tb : Tb4 w) : Calls Tryz.prog 49 #[S s] w fun e w' => e = .returned (.tuple #[.int .u32 (numV (prs s)), .int .i64 (perr (prs s))]) ∧ Ext w w' := by
  have no : prs s = none → Ending.returned (.tuple #[.int .u32 0, .int .i64 5]) = .returned (.tuple #[.int .u32 (numV (prs s)), .int .i64 (perr (prs s))]) := fun h => by rw [h]; rfl
  have yes : ∀ z : Nat, prs s = some z → Ending.returned (.tuple #[.int .u32 (z : Int), .int .i64 0]) = .returned (.tuple #[.int .u32 (numV (prs s)), .int .i64 (perr (prs s))]) := fun z h => by rw [h]; rfl
  have HT := hide (trim_any s w (by omega)); have htl := trim_len 46 s; unfold prs at no yes ⊢; generalize Lib.trimSuffix s [46] = t at *; have HC := hide (count_any t w); have HS := hide (split_any t w (by omega) tb); have hpl := pcs_len 46 t; have hne := pcs_ne 46 t; have h0 : 0 < (pcs 46 t).length := List.length_pos_iff.2 hne; generalize pcs 46 t = ps at *; have NO := hide no; have YES := hide yes; clear no yes; generalize numV (parO ps) = z1 at *; generalize perr (parO ps) = z2 at *; go_enter Tryz.func49, Tryz.ntmps49; go_wp2_with fail
  refine (unhide HT).mono ?_; rintro e w2 ⟨rfl, hw⟩; subst hw; clear HT; go_wp2_with fail
  refine (unhide HC).mono ?_; rintro e w2 ⟨rfl, hw⟩; subst hw; clear HC; by_cases h4 : 4 < ps.length
  · have h4' : 4 ≤ (ps.length : Int) - 1 := by omega
    have HN := hide (unhide NO (by unfold parO; rw [if_pos h4])); clear NO YES hpl; go_wp2; go_ret2; exact ⟨unhide HN, Ext.refl _⟩
  · have h4' : ¬ 4 ≤ (ps.length : Int) - 1 := by omega
    have HPO : Hid (parO ps = (numO (ps.getLastD []) (mostL ps.length)).bind fun a => accO a 0 ps.dropLast) := by
      show parO ps = _; unfold parO; rw [if_neg h4]
    go_wp2_with fail
    refine (unhide HS).mono ?_; rintro e w3 ⟨b, rfl, hrd, hx3⟩; clear HS; obtain ⟨b', off', eb, hc⟩ := hrd.cells (by simpa using h0); simp only [Option.some.injEq, Addr.mk.injEq] at eb; obtain ⟨rfl, rfl, _⟩ := eb; have hcs : ∀ i, i < ps.length → w3.cell? ⟨b, i, none⟩ = some (S (ps.getD i [])) := fun i hi => by
      have := hc i (by simpa using hi); rw [Nat.zero_add] at this; rw [this]; simp [List.getD, hi]
    have HCS := hide hcs; clear hc hrd hcs; have hlast : ps.getD (ps.length - 1) [] = ps.getLastD [] := by
      rw [List.getLastD_eq_getLast?, List.getLast?_eq_getElem?]; rfl
    have cl := unhide HCS (ps.length - 1) (by omega); rw [hlast] at cl; have hll : (ps.getLastD []).length ≤ 1000000 := by
      rw [← hlast]; have := hpl (ps.getD (ps.length - 1) []) (by
        have : ps.length - 1 < ps.length := by omega
        simp [List.getD, this])
      omega
    have MLQ := hide (fun w => mostOfLast_any ps.length w (by omega) (by omega)); have hml : mostL ps.length ≤ 4294967295 := by
      have hn2 : ps.length = 1 ∨ ps.length = 2 ∨ ps.length = 3 ∨ ps.length = 4 := by omega
      unfold mostL; rcases hn2 with e | e | e | e <;> rw [e] <;> decide
    have NLQ := hide (fun w => number_any (ps.getLastD []) (mostL ps.length) w hll hml); have HST := hide (fun a (ha : a ≤ mostL ps.length) => bd_start (n := ps.length) (by omega) (by omega) ha); have HLE := hide (fun n (h : numO (ps.getLastD []) (mostL ps.length) = some n) => numO_le h); clear hlast; generalize ps.getLastD [] = pl at *; generalize mostL ps.length = ml at *; have ci : ((ps.length : Int) - 1).toNat = ps.length - 1 := by omega
    go_wp2_with fail
    go_quiet ((first | (go_at_call 83; exact Calls.quiet_of_same (unhide MLQ _)) | (go_at_call 82; exact Calls.quiet_of_same (unhide NLQ _))))
    clear MLQ NLQ cl
    cases hn : numO pl ml with
    | none =>
      have HN := hide (unhide NO (by rw [unhide HPO, hn]; rfl)); clear NO YES hpl HPO HST HLE hn HCS; go_wp2; go_ret2; exact ⟨unhide HN, hx3.trans (Ext.drewN _ _)⟩
    | some a0 =>
      have hba := unhide HST a0 (unhide HLE a0 hn); have hp2 := unhide HPO; rw [hn] at hp2; simp only [Option.bind_some] at hp2; rw [hp2] at NO YES; have HCW : Hid (∀ i, i < ps.length → (w3.drewN nq).cell? ⟨b, i, none⟩ = some (S (ps.getD i []))) := fun i hi => by
        have h := unhide HCS i hi; rw [← h]; exact (Ext.drewN w3 nq).cell (p := ⟨b, i, none⟩) (cell_lt h)
      have hx4 := hx3.trans (Ext.drewN w3 nq); clear HPO HST HLE hn HCS hp2 hll hml; have ev : numV (some a0) = (a0 : Int) := rfl; rw [ev, show (some a0).isSome = true from rfl]; clear ev; generalize w3.drewN nq = w4 at *; have BA := hide hba; have ha0 : a0 < 4294967296 := Nat.lt_of_lt_of_le hba (bd_max (by omega) (by omega)); clear hba; go_wp2_with fail
      go_loopw [5, 39] (fun x i wr => ∃ (k a : Nat), k ≤ ps.length - 1 ∧ i = .int .i64 k ∧ Hid (accO a0 0 (ps.dropLast.take k) = some a) ∧ Hid (a < bd ps.length k) ∧ a < 4294967296 ∧ x = .int .u32 a ∧ wr = w4) (fun _ i _ => ps.length - 1 - (intOf i).toNat)
      case atStart => exact ⟨0, a0, by omega, rfl, hide rfl, BA, ha0, rfl, rfl⟩
      case round =>
        obtain ⟨k, a, hk, rfl, HA, HBD, ha, rfl, hw⟩ := hrel; subst hw; by_cases hkl : k < ps.length - 1
        · have c0 := unhide HCW k (by omega); have hpk : (ps.getD k []).length ≤ 1000000 := by
            have := hpl (ps.getD k []) (by
              have : k < ps.length := by omega
              simp [List.getD, this])
            omega
          have NC := hide (number_any (ps.getD k []) 255 wr hpk (by decide)); have HT := hide (take_snoc ps.dropLast k [] (by simp; omega)); have hgd : ps.dropLast.getD k [] = ps.getD k [] := by
            have h2 : k < ps.length := by omega
            rw [List.getD, List.getD, List.dropLast_eq_take, List.getElem?_take, if_pos hkl]
          rw [hgd] at HT; clear hgd; have HBAD := hide (fun (hn : numO (ps.getD k []) 255 = none) => unhide NO (accO_bad ps.dropLast a0 0 (k + 1) (by rw [unhide HT, accO_snoc, unhide HA, hn]; rfl))); have HGO := hide (fun (v : Nat) (hv : numO (ps.getD k []) 255 = some v) => (show accO a0 0 (ps.dropLast.take (k + 1)) = some (a + v * 256 ^ (3 - k)) by
            rw [unhide HT, accO_snoc, unhide HA, hv]; simp only [Option.bind_some, Option.map_some]; rw [show 0 + (ps.dropLast.take k).length = k by rw [List.length_take, List.length_dropLast]; omega]))
          generalize ps.getD k [] = p at *; go_wp2_with fail
          refine (unhide NC).mono ?_; rintro e w5 ⟨rfl, hw⟩; subst hw; clear NC
          cases hn : numO p 255 with
          | none =>
            have HN := hide (unhide HBAD hn); clear NO YES hpl HBAD HGO HT HA HBD hn HCW; go_wp2; go_ret2; exact ⟨unhide HN, hx4⟩
          | some v =>
            have hv := numO_le hn; have HA2 := hide (unhide HGO v hn); obtain ⟨hs1, hs2⟩ := bd_step (v := v) (by omega) (by omega) (unhide HBD) hv; have ev : numV (some v) = (v : Int) := rfl; rw [ev, show (some v).isSome = true from rfl]; have KEQ : Hid (∀ z : Int, z = (↑a + ↑v * 2 ^ (8 * (3 - k)) % 4294967296) % 4294967296 → ((∃ (k' a' : Nat), k' ≤ ps.length - 1 ∧ Value.int .i64 ((k : Int) + 1) = .int .i64 k' ∧ Hid (accO a0 0 (ps.dropLast.take k') = some a') ∧ Hid (a' < bd ps.length k') ∧ a' < 4294967296 ∧ Value.int .u32 z = .int .u32 a' ∧ w5 = w5) ∧ ps.length - 1 - ((k : Int) + 1).toNat < ps.length - 1 - k)) := fun z hz =>
              ⟨⟨k + 1, a + v * 256 ^ (3 - k), by omega, by simp, HA2, hs1, by omega, by
                rw [hz]; congr 1; have hk3 : k = 0 ∨ k = 1 ∨ k = 2 := by omega
                have hlt : a + v * 256 ^ (3 - k) < 4294967296 := by omega
                clear hz HA2 hs1 hs2 HCW hx4 tb; rcases hk3 with rfl | rfl | rfl <;> simp at hlt ⊢ <;> omega, rfl⟩, by omega⟩
            have SH := hide (shiftOf_any k w5 (by omega)); clear ev hn HBAD HGO HT HA HBD; go_wp2_with fail
            refine (unhide SH).mono ?_; rintro e w6 ⟨rfl, hw⟩; subst hw; clear SH; go_wp2; exact unhide KEQ _ rfl
        · have e : ps.dropLast.take k = ps.dropLast := List.take_of_length_le (by simp; omega); have hA := unhide HA; rw [e] at hA; have HN := hide (unhide YES a hA); clear NO YES HCW HA hA HBD e hpl; go_wp2; go_ret2; exact ⟨unhide HN, hx4⟩
end Go.Proofs.YtenlampiiodkhaaGreatDoor
namespace Go.Proofs.YtenlampiiodkhaaGreatDoor
set_option linter.unusedVariables false
open Go.RowKit
theorem lastIx_any (s : List UInt8) (w : World) (hs : s.length ≤ 1000000) : Calls Tryz.prog 112 #[S s, .string ⟨#[46]⟩] w fun e w' => e = .returned (.int .i64 (Lib.lastIndexByte ⟨s.toArray⟩ 46)) ∧ w' = w :=
  Tryz.strings_LastIndex_one ⟨s.toArray⟩ ⟨#[46]⟩ rfl (by rw [size_S]; omega) w
set_option maxHeartbeats 1000000 in
set_option maxRecDepth 100000 in
theorem ends_any (s : List UInt8) (w : World) (hs : s.length ≤ 100000) : Calls Tryz.prog 72 #[S s] w fun e w' => e = .returned (.bool (ends s)) ∧ w' = w := by
  have fin : ∀ b : Bool, b = ends s → Ending.returned (.bool b) = .returned (.bool (ends s)) := fun b h => by rw [h]
  unfold ends at fin ⊢; have HT := hide (trim_any s w (by omega)); have htl := trim_len 46 s; generalize Lib.trimSuffix s [46] = t at *; have HL := hide (lastIx_any t w (by omega)); obtain ⟨k, hk, hkl, hkd⟩ := last_S 46 t; rw [← hkd] at fin ⊢; have hdr := run_drop w t k hk; have hlen : (t.drop k).length ≤ 1000000 := by simp; omega
  generalize t.drop k = x at *; have e46 : (((46 : UInt8).toNat : Nat) : Int) = 46 := rfl; rw [e46] at hkl; have hiw : -1 ≤ Lib.lastIndexByte ⟨t.toArray⟩ 46 := by omega
  have hiw2 : Lib.lastIndexByte ⟨t.toArray⟩ 46 < 1000000 := by omega
  generalize Lib.lastIndexByte ⟨t.toArray⟩ 46 = z at *; obtain rfl : z = (k : Int) - 1 := by omega
  have ek : ((k : Int) - 1 + 1) = (k : Int) := by omega
  clear hkd e46 hkl; have HM := hide (marked_any x w hlen); have hsz := size_S x; have FIN := hide fin; clear fin
  cases hm : mrk x with
  | true =>
    rw [hm] at HM; have HD := hide (digitsOf_any x w hlen); have e1 : i4digs x = x.drop 2 := by unfold i4digs; rw [hm]; rfl
    have e2 : (bas x : Int) = 16 := by unfold bas; rw [hm]; rfl
    rw [e1, e2] at HD; have HA := hide (areDigits_any (x.drop 2) 16 w (by simp; omega) (by decide)); have HE : Hid (okD 16 (x.drop 2) = endB x) := by show _ = endB x; unfold endB; rw [hm]; rfl
    clear e1 e2 hm; generalize x.drop 2 = y at *; go_enter Tryz.func72, Tryz.ntmps72; go_wp2_with fail
    refine (unhide HT).mono ?_; rintro e w2 ⟨rfl, hw⟩; subst hw; clear HT; go_wp2_with fail
    refine (unhide HL).mono ?_; rintro e w2 ⟨rfl, hw⟩; subst hw; clear HL; go_wp2_with fail
    refine (unhide HM).mono ?_; rintro e w2 ⟨rfl, hw⟩; subst hw; clear HM; go_wp2_with fail
    refine (unhide HD).mono ?_; rintro e w2 ⟨rfl, hw⟩; subst hw; clear HD; go_wp2_with fail
    refine (unhide HA).mono ?_; rintro e w2 ⟨rfl, hw⟩; subst hw; clear HA; go_wp2; go_ret; exact ⟨unhide FIN _ (unhide HE), rfl⟩
  | false =>
    rw [hm] at HM; have HA := hide (areDigits_any x 10 w hlen (by decide)); by_cases hx : x = []
    · have HE : Hid (false = endB x) := by show _ = endB x; unfold endB; rw [hm, hx]; rfl
      have hie : x.isEmpty = true := by rw [hx]; rfl
      clear hm HA; have HX := hide hx; clear hx; go_enter Tryz.func72, Tryz.ntmps72; go_wp2_with fail
      refine (unhide HT).mono ?_; rintro e w2 ⟨rfl, hw⟩; subst hw; clear HT; go_wp2_with fail
      refine (unhide HL).mono ?_; rintro e w2 ⟨rfl, hw⟩; subst hw; clear HL; go_wp2_with fail
      refine (unhide HM).mono ?_; rintro e w2 ⟨rfl, hw⟩; subst hw; clear HM; go_wp2; go_ret; exact ⟨unhide FIN _ (unhide HE), rfl⟩
    · have hie : x.isEmpty = false := by simpa using hx
      have HE : Hid (okD 10 x = endB x) := by show _ = endB x; unfold endB; rw [hm, hie]; simp
      have hne : ¬ ((⟨x.toArray⟩ : ByteArray) = ⟨#[]⟩) := fun e => hx (by
        have := congrArg (fun b : ByteArray => b.data.toList) e; simpa using this)
      clear hm; go_enter Tryz.func72, Tryz.ntmps72; go_wp2_with fail
      refine (unhide HT).mono ?_; rintro e w2 ⟨rfl, hw⟩; subst hw; clear HT; go_wp2_with fail
      refine (unhide HL).mono ?_; rintro e w2 ⟨rfl, hw⟩; subst hw; clear HL; go_wp2_with fail
      refine (unhide HM).mono ?_; rintro e w2 ⟨rfl, hw⟩; subst hw; clear HM; go_wp2_with fail
      refine (unhide HA).mono ?_; rintro e w2 ⟨rfl, hw⟩; subst hw; clear HA; go_wp2; go_ret; exact ⟨unhide FIN _ (unhide HE), rfl⟩
def shwK (a : Nat) : Nat → List UInt8
  | 0 => []
  | k + 1 => (shwK a k ++ if 0 < k then [46] else []) ++ Lib.decDigits (a / 256 ^ (3 - k) % 256)
theorem shwK_len (a : Nat) : ∀ k, k ≤ 4 → (shwK a k).length ≤ 4 * k := by
  have hd : ∀ u : Nat, u < 256 → (Lib.decDigits u).length ≤ 3 := by
    intro u hu; rw [dec_bdg]; by_cases h1 : u < 10
    · rw [bdg_small h1 (by decide)]; simp
    · rw [bdg_great h1 (by decide)]; by_cases h2 : u / 10 < 10
      · rw [bdg_small h2 (by decide)]; simp
      · rw [bdg_great h2 (by decide), bdg_small (by omega) (by decide)]; simp
  intro k
  induction k with
  | zero => intro _; simp [shwK]
  | succ k ih =>
    intro hk; have := ih (by omega); have h3 := hd (a / 256 ^ (3 - k) % 256) (Nat.mod_lt _ (by decide)); rw [shwK, List.length_append, List.length_append]
    split <;> simp <;> omega
theorem shwK_4 (a : Nat) (h : a < 4294967296) : shwK a 4 = shw a := by
  unfold shw; simp only [shwK]; have e : a / 256 ^ (3 - 0) % 256 = a / 16777216 := by
    show a / 16777216 % 256 = _; omega
  rw [e]; simp
theorem appU_any (B0 n u : Nat) (hu : u < 256) (sv : Value) (xs : List Value) (w : World) (hown : w.ownsRow B0 5 1 sv n xs) (hBw : B0 ≤ w.heap.size) (hlim : n ≤ 1000) (tb : Tb4 w) :
    Calls Tryz.prog 123 #[sv, .int .u64 (u : Int), .int .i64 10] w fun e w' => ∃ v', e = .returned v' ∧ w'.ownsRow B0 5 1 v' (n + (Lib.decDigits u).length) (xs ++ (Lib.decDigits u).map B) ∧ Below B0 w w' := by
  by_cases h : u < 100
  · refine (Tryz.internal_strconv_AppendUint_10_small B0 n u h sv xs w hown hBw (by omega)).mono ?_; rintro e w' ⟨v', rfl, h1, h2, _⟩; exact ⟨v', rfl, h1, h2⟩
  · refine (Tryz.internal_strconv_AppendUint_10_big B0 n u (by omega) (by omega) sv xs w hown hBw (by omega) tb.pow).mono ?_; rintro e w' ⟨v', rfl, h1, h2, _⟩; exact ⟨v', rfl, h1, h2⟩
theorem appUint_any (B0 n u : Nat) (hu : u < 256) (sv : Value) (xs : List Value) (w : World) (hown : w.ownsRow B0 5 1 sv n xs) (hBw : B0 ≤ w.heap.size) (hlim : n ≤ 1000) (tb : Tb4 w) :
    Calls Tryz.prog 85 #[sv, .int .u64 (u : Int), .int .i64 10] w fun e w' => ∃ v', e = .returned v' ∧ w'.ownsRow B0 5 1 v' (n + (Lib.decDigits u).length) (xs ++ (Lib.decDigits u).map B) ∧ Below B0 w w' := by
  have HC := hide (appU_any B0 n u hu sv xs w hown hBw hlim tb); generalize (Lib.decDigits u).map B = ds at *; generalize (Lib.decDigits u).length = dl at *; clear hown; go_enter Tryz.func85, Tryz.ntmps85; go_wp2_with fail
  refine (unhide HC).mono ?_; rintro e w2 ⟨v', rfl, h1, h2⟩; clear HC; have H1 := hide h1; have H2 := hide h2; clear h1 h2; go_wp2; go_ret; exact ⟨v', rfl, unhide H1, unhide H2⟩
end Go.Proofs.YtenlampiiodkhaaGreatDoor
namespace Go.Proofs.YtenlampiiodkhaaGreatDoor
set_option linter.unusedVariables false
open Go.RowKit
theorem infoB4 : (Tryz.prog.info? 5).map (fun i => (i.zero, i.size, i.bytes)) = some (some (.int .u8 0), 1, 1) := by kernel_rfl
theorem wpList_dot {w : World} {ops : Array Oper} {rest : List Oper} {o : Oper} {a : Act} {Q : Exit → Act → World → Prop} (hgd : o.guard = none) (sl x : Operand)
    (ho : o.op = .call { callee := .builtin .append, args := #[sl, x], argTypes := #[22, 9] })
    (base : Nat) (v : Value) (n : Nat) (xs : List Value) (hs : a.eval sl = v) (hown : w.ownsRow base 5 1 v n xs) (hx : a.eval x = .string ⟨#[46]⟩)
    (hn : n ≤ 1000) (hbase : base ≤ w.heap.size)
    (h : ∀ v' w', w'.ownsRow base 5 1 v' (n + 1) (xs ++ [B 46]) → Below base w w' → wpList Tryz.prog ops Q rest (a.put o.dst v') w') : wpList Tryz.prog ops Q (o :: rest) a w := by
  obtain ⟨i0, hi, hz0, hz1, hz2⟩ := info_parts infoB4; refine Lib.wpList_append_own_string (w := w) hgd sl x 22 9 ho base 5 i0 Tryz.underlying22 Tryz.underlying9 hi hz0 hz1 hz2 v n xs hs hown ⟨#[46]⟩ hx (by unfold maxLen; show n + 1 ≤ _; omega) (by show n + 1 ≤ _; omega) hbase ?_; intro v' w' h1 h2 _; exact h v' w' h1 ((Below.refl _ _).grown h2 hbase (fun t ht => (hown.lt t ht).1))
theorem wrap_u64 (u : Nat) (h : u < 256) : IntKind.u64.wrap (u : Int) = (u : Int) := by
  have key : ∀ x : Fin 256, IntKind.u64.wrap (x.val : Int) = (x.val : Int) := by decide +kernel
  exact key ⟨u, h⟩
theorem mask8 (x : Nat) (h : x < 4294967296) : bits .and .u32 (x : Int) 255 = ((x % 256 : Nat) : Int) := by
  have := u32_and_nat x 255 h (by decide); rw [show ((255 : Nat) : Int) = 255 from rfl] at this; rw [this, show (255 : Nat) = 2 ^ 8 - 1 from rfl, Nat.and_two_pow_sub_one_eq_mod]
theorem shr_eq (k a : Nat) (hk : k ≤ 3) (ha : a < 4294967296) : bits .and .u32 ((a : Int) / 2 ^ (8 * (3 - k))) 255 = ((a / 256 ^ (3 - k) % 256 : Nat) : Int) := by
  have e : (a : Int) / 2 ^ (8 * (3 - k)) = ((a / 256 ^ (3 - k) : Nat) : Int) := by
    have hk3 : k = 0 ∨ k = 1 ∨ k = 2 ∨ k = 3 := by omega
    rcases hk3 with rfl | rfl | rfl | rfl <;> simp
  rw [e, mask8]; exact Nat.lt_of_le_of_lt (Nat.div_le_self _ _) ha
set_option maxHeartbeats 2000000 in
set_option maxRecDepth 100000 in
theorem show_any (a : Nat) (w : World) (ha : a < 4294967296) (tb : Tb4 w) : Calls Tryz.prog 50 #[.int .u32 (a : Int)] w fun e w' => e = .returned (S (shw a)) ∧ Ext w w' := by
  have FIN := hide (show ∀ s, s = shwK a 4 → Ending.returned (S s) = .returned (S (shw a)) from fun s h => by rw [h, shwK_4 a ha]); have TB := hide (fun (w' : World) (hx : Below w.heap.size w w') => tb.below hx); clear tb; go_enter Tryz.func50, Tryz.ntmps50; go_wp2_with fail
  go_loopw [3, 6] (fun v i wr => ∃ (k : Nat), k ≤ 4 ∧ i = .int .i64 k ∧ wr.ownsRow w.heap.size 5 1 v (shwK a k).length ((shwK a k).map B) ∧ Below w.heap.size w wr) (fun _ i _ => 4 - (intOf i).toNat)
  case atStart => exact ⟨0, by omega, rfl, World.ownsRow_nil _ _ _ _, Below.refl _ _⟩
  case round =>
    obtain ⟨k, hk, rfl, own, hbr⟩ := hrel; have hln := shwK_len a k hk; by_cases hkl : k < 4
    · have hkl' : (k : Int) < 4 := by omega
      by_cases hk0 : 0 < k
      · have hk0' : 0 < (k : Int) := by omega
        have hbase := hbr.size; go_wp2_with (at_builtin; refine wpList_dot rfl (.tmp 11) (.const (.string ⟨#[46]⟩)) rfl w.heap.size _ _ _ rfl own rfl (by omega) hbase ?_)
        intro v1 w1 o1 b1; obtain ⟨pre, hpre⟩ : ∃ pre, pre = shwK a k ++ if 0 < k then [46] else [] := ⟨_, rfl⟩; have own1 : w1.ownsRow w.heap.size 5 1 v1 pre.length (pre.map B) := by
          rw [hpre, if_pos hk0, List.length_append, List.map_append]; exact o1
        have hb1 := hbr.trans b1; have hpl0 : pre.length = (shwK a k).length + 1 := by rw [hpre, if_pos hk0, List.length_append]; rfl
        clear o1 b1; have hpl : pre.length ≤ 1000 := by omega
        have SH := hide (shiftOf_any k w1 (by omega)); clear own hbr; go_wp2_with fail
        refine (unhide SH).mono ?_; rintro e w2 ⟨rfl, hw⟩; subst hw; clear SH; have hsq := shr_eq k a (by omega) ha; have hu : a / 256 ^ (3 - k) % 256 < 256 := Nat.mod_lt _ (by decide); have KK : Hid (∀ v' w', w'.ownsRow w.heap.size 5 1 v' (pre.length + (Lib.decDigits (a / 256 ^ (3 - k) % 256)).length) (pre.map B ++ (Lib.decDigits (a / 256 ^ (3 - k) % 256)).map B) → Below w.heap.size w2 w' → ((∃ (k' : Nat), k' ≤ 4 ∧ Value.int .i64 ((k : Int) + 1) = .int .i64 k' ∧ w'.ownsRow w.heap.size 5 1 v' (shwK a k').length ((shwK a k').map B) ∧ Below w.heap.size w w') ∧ 4 - ((k : Int) + 1).toNat < 4 - k)) := fun v' w' h1 h2 =>
          ⟨⟨k + 1, by omega, by simp, by
            have e : shwK a (k + 1) = pre ++ Lib.decDigits (a / 256 ^ (3 - k) % 256) := by rw [hpre]; rfl
            rw [e, List.length_append, List.map_append]; exact h1, hb1.trans h2⟩, by omega⟩
        have AU := hide (appUint_any w.heap.size pre.length (a / 256 ^ (3 - k) % 256) hu v1 (pre.map B) w2 own1 hb1.size hpl (unhide TB w2 hb1)); generalize a / 256 ^ (3 - k) % 256 = u at *; clear own1 hpre; have hwr : IntKind.u64.wrap (u : Int) = (u : Int) := wrap_u64 u hu; go_wp2_with fail
        refine (unhide AU).mono ?_; rintro e w3 ⟨v3, rfl, o3, b3⟩; clear AU; have kk := hide (unhide KK v3 w3 o3 b3); clear o3 b3 KK hsq hwr; go_wp2; exact unhide kk
      · have hk0' : ¬ 0 < (k : Int) := by omega
        obtain ⟨pre, hpre⟩ : ∃ pre, pre = shwK a k ++ if 0 < k then [46] else [] := ⟨_, rfl⟩; obtain ⟨w1, hw1⟩ : ∃ w1, w1 = wr := ⟨_, rfl⟩; obtain ⟨v1, hv1⟩ : ∃ v1, v1 = u3 := ⟨_, rfl⟩; have own1 : w1.ownsRow w.heap.size 5 1 v1 pre.length (pre.map B) := by
          rw [hpre, if_neg hk0, List.append_nil, hw1, hv1]; exact own
        have hb1 : Below w.heap.size w w1 := by
          rw [hw1]; exact hbr
        have hpl0 : pre.length = (shwK a k).length := by rw [hpre, if_neg hk0, List.append_nil]
        subst hw1 hv1; have hpl : pre.length ≤ 1000 := by omega
        have SH := hide (shiftOf_any k w1 (by omega)); clear own hbr; go_wp2_with fail
        refine (unhide SH).mono ?_; rintro e w2 ⟨rfl, hw⟩; subst hw; clear SH; have hsq := shr_eq k a (by omega) ha; have hu : a / 256 ^ (3 - k) % 256 < 256 := Nat.mod_lt _ (by decide); have KK : Hid (∀ v' w', w'.ownsRow w.heap.size 5 1 v' (pre.length + (Lib.decDigits (a / 256 ^ (3 - k) % 256)).length) (pre.map B ++ (Lib.decDigits (a / 256 ^ (3 - k) % 256)).map B) → Below w.heap.size w2 w' → ((∃ (k' : Nat), k' ≤ 4 ∧ Value.int .i64 ((k : Int) + 1) = .int .i64 k' ∧ w'.ownsRow w.heap.size 5 1 v' (shwK a k').length ((shwK a k').map B) ∧ Below w.heap.size w w') ∧ 4 - ((k : Int) + 1).toNat < 4 - k)) := fun v' w' h1 h2 =>
          ⟨⟨k + 1, by omega, by simp, by
            have e : shwK a (k + 1) = pre ++ Lib.decDigits (a / 256 ^ (3 - k) % 256) := by rw [hpre]; rfl
            rw [e, List.length_append, List.map_append]; exact h1, hb1.trans h2⟩, by omega⟩
        have AU := hide (appUint_any w.heap.size pre.length (a / 256 ^ (3 - k) % 256) hu v1 (pre.map B) w2 own1 hb1.size hpl (unhide TB w2 hb1)); generalize a / 256 ^ (3 - k) % 256 = u at *; clear own1 hpre; have hwr : IntKind.u64.wrap (u : Int) = (u : Int) := wrap_u64 u hu; go_wp2_with fail
        refine (unhide AU).mono ?_; rintro e w3 ⟨v3, rfl, o3, b3⟩; clear AU; have kk := hide (unhide KK v3 w3 o3 b3); clear o3 b3 KK hsq hwr; go_wp2; exact unhide kk
    · have hk4 : k = 4 := by omega
      subst hk4; obtain ⟨ao, cap, rfl, hr, hn⟩ := RdV.of_owned own; have cs := oconv_str wr ao _ cap (shwK a 4) rfl hr; have FF := hide (unhide FIN (shwK a 4) rfl); clear own FIN hr hn hln; generalize shwK a 4 = Z at *; have hbr2 : Ext w wr := hbr; clear hbr; go_wp2; go_ret; exact ⟨unhide FF, hbr2⟩
end Go.Proofs.YtenlampiiodkhaaGreatDoor
