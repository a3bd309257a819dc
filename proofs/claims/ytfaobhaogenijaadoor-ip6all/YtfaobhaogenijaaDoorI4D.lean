/-
  Parse of package ip4, whole.
-/
import Derived.Test.YtfaobhaogenijaaDoorI4C
namespace Go.Proofs.YtfaobhaogenijaaDoor
set_option linter.unusedVariables false
open Go.RowKit

def perr (o : Option Nat) : Int := if o.isSome = true then 0 else 5
def bd (n k : Nat) : Nat := 4294967296 - 256 ^ (4 - k) + 256 ^ (5 - n)
theorem bd_step {n k a v : Nat} (hk : k + 1 < n) (hn : n ≤ 4) (ha : a < bd n k) (hv : v ≤ 255) : a + v * 256 ^ (3 - k) < bd n (k + 1) ∧ bd n (k + 1) ≤ 4294967296 := by
  unfold bd at *
  have hn2 : n = 2 ∨ n = 3 ∨ n = 4 := by omega
  have hk2 : k = 0 ∨ k = 1 ∨ k = 2 := by omega
  rcases hn2 with rfl | rfl | rfl <;> rcases hk2 with rfl | rfl | rfl <;> simp at * <;> omega
theorem bd_start {n a : Nat} (h1 : 1 ≤ n) (hn : n ≤ 4) (ha : a ≤ mostL n) : a < bd n 0 := by
  unfold bd mostL at *
  have hn2 : n = 1 ∨ n = 2 ∨ n = 3 ∨ n = 4 := by omega
  rcases hn2 with rfl | rfl | rfl | rfl <;> simp at * <;> omega
theorem bd_max {n k : Nat} (h1 : k + 1 ≤ n) (hn : n ≤ 4) : bd n k ≤ 4294967296 := by
  unfold bd
  have hn2 : n = 1 ∨ n = 2 ∨ n = 3 ∨ n = 4 := by omega
  have hk2 : k = 0 ∨ k = 1 ∨ k = 2 ∨ k = 3 := by omega
  rcases hn2 with rfl | rfl | rfl | rfl <;> rcases hk2 with rfl | rfl | rfl | rfl <;> simp at * 

set_option maxHeartbeats 2000000 in
set_option maxRecDepth 100000 in
theorem parse_any (s : List UInt8) (w : World) (hs : s.length ≤ 100000) (tb : Tb4 w) : Calls Tryd.prog 33 #[S s] w fun e w' => e = .returned (.tuple #[.int .u32 (numV (prs s)), .int .i64 (perr (prs s))]) ∧ Ext w w' := by
  have no : prs s = none → Ending.returned (.tuple #[.int .u32 0, .int .i64 5]) = .returned (.tuple #[.int .u32 (numV (prs s)), .int .i64 (perr (prs s))]) := fun h => by rw [h]; rfl
  have yes : ∀ z : Nat, prs s = some z → Ending.returned (.tuple #[.int .u32 (z : Int), .int .i64 0]) = .returned (.tuple #[.int .u32 (numV (prs s)), .int .i64 (perr (prs s))]) := fun z h => by rw [h]; rfl
  have HT := hide (trim_any s w (by omega))
  have htl := trim_len 46 s
  unfold prs at no yes ⊢
  generalize Lib.trimSuffix s [46] = t at *
  have HC := hide (count_any t w)
  have HS := hide (split_any t w (by omega) tb)
  have hpl := pcs_len 46 t
  have hne := pcs_ne 46 t
  have h0 : 0 < (pcs 46 t).length := List.length_pos_iff.2 hne
  generalize pcs 46 t = ps at *
  have NO := hide no
  have YES := hide yes
  clear no yes
  generalize numV (parO ps) = z1 at *
  generalize perr (parO ps) = z2 at *
  go_enter Tryd.func33, Tryd.ntmps33
  go_wp2_with fail
  refine (unhide HT).mono ?_
  rintro e w2 ⟨rfl, hw⟩
  subst hw
  clear HT
  go_wp2_with fail
  refine (unhide HC).mono ?_
  rintro e w2 ⟨rfl, hw⟩
  subst hw
  clear HC
  by_cases h4 : 4 < ps.length
  · have h4' : 4 ≤ (ps.length : Int) - 1 := by omega
    have HN := hide (unhide NO (by unfold parO; rw [if_pos h4]))
    clear NO YES hpl
    go_wp2
    go_ret2
    exact ⟨unhide HN, Ext.refl _⟩
  · have h4' : ¬ 4 ≤ (ps.length : Int) - 1 := by omega
    have HPO : Hid (parO ps = (numO (ps.getLastD []) (mostL ps.length)).bind fun a => accO a 0 ps.dropLast) := by
      show parO ps = _
      unfold parO
      rw [if_neg h4]
    go_wp2_with fail
    refine (unhide HS).mono ?_
    rintro e w3 ⟨b, rfl, hrd, hx3⟩
    clear HS
    obtain ⟨b', off', eb, hc⟩ := hrd.cells (by simpa using h0)
    simp only [Option.some.injEq, Addr.mk.injEq] at eb
    obtain ⟨rfl, rfl, _⟩ := eb
    have hcs : ∀ i, i < ps.length → w3.cell? ⟨b, i, none⟩ = some (S (ps.getD i [])) := fun i hi => by
      have := hc i (by simpa using hi)
      rw [Nat.zero_add] at this
      rw [this]
      simp [List.getD, hi]
    have HCS := hide hcs
    clear hc hrd hcs
    have hlast : ps.getD (ps.length - 1) [] = ps.getLastD [] := by
      rw [List.getLastD_eq_getLast?, List.getLast?_eq_getElem?]
      rfl
    have cl := unhide HCS (ps.length - 1) (by omega)
    rw [hlast] at cl
    have hll : (ps.getLastD []).length ≤ 1000000 := by
      rw [← hlast]
      have := hpl (ps.getD (ps.length - 1) []) (by
        have : ps.length - 1 < ps.length := by omega
        simp [List.getD, this])
      omega
    have MLQ := hide (fun w => mostOfLast_any ps.length w (by omega) (by omega))
    have hml : mostL ps.length ≤ 4294967295 := by
      have hn2 : ps.length = 1 ∨ ps.length = 2 ∨ ps.length = 3 ∨ ps.length = 4 := by omega
      unfold mostL
      rcases hn2 with e | e | e | e <;> rw [e] <;> decide
    have NLQ := hide (fun w => number_any (ps.getLastD []) (mostL ps.length) w hll hml)
    have HST := hide (fun a (ha : a ≤ mostL ps.length) => bd_start (n := ps.length) (by omega) (by omega) ha)
    have HLE := hide (fun n (h : numO (ps.getLastD []) (mostL ps.length) = some n) => numO_le h)
    clear hlast
    generalize ps.getLastD [] = pl at *
    generalize mostL ps.length = ml at *
    have ci : ((ps.length : Int) - 1).toNat = ps.length - 1 := by omega
    go_wp2_with fail
    go_quiet ((first | (go_at_call 47; exact Calls.quiet_of_same (unhide MLQ _)) | (go_at_call 46; exact Calls.quiet_of_same (unhide NLQ _))))
    clear MLQ NLQ cl
    cases hn : numO pl ml with
    | none =>
      have HN := hide (unhide NO (by rw [unhide HPO, hn]; rfl))
      clear NO YES hpl HPO HST HLE hn HCS
      go_wp2
      go_ret2
      exact ⟨unhide HN, hx3.trans (Ext.drewN _ _)⟩
    | some a0 =>
      have hba := unhide HST a0 (unhide HLE a0 hn)
      have hp2 := unhide HPO
      rw [hn] at hp2
      simp only [Option.bind_some] at hp2
      rw [hp2] at NO YES
      have HCW : Hid (∀ i, i < ps.length → (w3.drewN nq).cell? ⟨b, i, none⟩ = some (S (ps.getD i []))) := fun i hi => by
        have h := unhide HCS i hi
        rw [← h]
        exact (Ext.drewN w3 nq).cell (p := ⟨b, i, none⟩) (cell_lt h)
      have hx4 := hx3.trans (Ext.drewN w3 nq)
      clear HPO HST HLE hn HCS hp2 hll hml
      have ev : numV (some a0) = (a0 : Int) := rfl
      rw [ev, show (some a0).isSome = true from rfl]
      clear ev
      generalize w3.drewN nq = w4 at *
      have BA := hide hba
      have ha0 : a0 < 4294967296 := Nat.lt_of_lt_of_le hba (bd_max (by omega) (by omega))
      clear hba
      go_wp2_with fail
      go_loopw [5, 39] (fun x i wr => ∃ (k a : Nat), k ≤ ps.length - 1 ∧ i = .int .i64 k ∧ Hid (accO a0 0 (ps.dropLast.take k) = some a) ∧ Hid (a < bd ps.length k) ∧ a < 4294967296 ∧ x = .int .u32 a ∧ wr = w4) (fun _ i _ => ps.length - 1 - (intOf i).toNat)
      case atStart => exact ⟨0, a0, by omega, rfl, hide rfl, BA, ha0, rfl, rfl⟩
      case round =>
        obtain ⟨k, a, hk, rfl, HA, HBD, ha, rfl, hw⟩ := hrel
        subst hw
        by_cases hkl : k < ps.length - 1
        · have c0 := unhide HCW k (by omega)
          have hpk : (ps.getD k []).length ≤ 1000000 := by
            have := hpl (ps.getD k []) (by
              have : k < ps.length := by omega
              simp [List.getD, this])
            omega
          have NC := hide (number_any (ps.getD k []) 255 wr hpk (by decide))
          have HT := hide (take_snoc ps.dropLast k [] (by simp; omega))
          have hgd : ps.dropLast.getD k [] = ps.getD k [] := by
            have h2 : k < ps.length := by omega
            rw [List.getD, List.getD, List.dropLast_eq_take, List.getElem?_take, if_pos hkl]
          rw [hgd] at HT
          clear hgd
          have HBAD := hide (fun (hn : numO (ps.getD k []) 255 = none) => unhide NO (accO_bad ps.dropLast a0 0 (k + 1) (by rw [unhide HT, accO_snoc, unhide HA, hn]; rfl)))
          have HGO := hide (fun (v : Nat) (hv : numO (ps.getD k []) 255 = some v) => (show accO a0 0 (ps.dropLast.take (k + 1)) = some (a + v * 256 ^ (3 - k)) by
            rw [unhide HT, accO_snoc, unhide HA, hv]
            simp only [Option.bind_some, Option.map_some]
            rw [show 0 + (ps.dropLast.take k).length = k by rw [List.length_take, List.length_dropLast]; omega]))
          generalize ps.getD k [] = p at *
          go_wp2_with fail
          refine (unhide NC).mono ?_
          rintro e w5 ⟨rfl, hw⟩
          subst hw
          clear NC
          cases hn : numO p 255 with
          | none =>
            have HN := hide (unhide HBAD hn)
            clear NO YES hpl HBAD HGO HT HA HBD hn HCW
            go_wp2
            go_ret2
            exact ⟨unhide HN, hx4⟩
          | some v =>
            have hv := numO_le hn
            have HA2 := hide (unhide HGO v hn)
            obtain ⟨hs1, hs2⟩ := bd_step (v := v) (by omega) (by omega) (unhide HBD) hv
            have ev : numV (some v) = (v : Int) := rfl
            rw [ev, show (some v).isSome = true from rfl]
            have KEQ : Hid (∀ z : Int, z = (↑a + ↑v * 2 ^ (8 * (3 - k)) % 4294967296) % 4294967296 → ((∃ (k' a' : Nat), k' ≤ ps.length - 1 ∧ Value.int .i64 ((k : Int) + 1) = .int .i64 k' ∧ Hid (accO a0 0 (ps.dropLast.take k') = some a') ∧ Hid (a' < bd ps.length k') ∧ a' < 4294967296 ∧ Value.int .u32 z = .int .u32 a' ∧ w5 = w5) ∧ ps.length - 1 - ((k : Int) + 1).toNat < ps.length - 1 - k)) := fun z hz =>
              ⟨⟨k + 1, a + v * 256 ^ (3 - k), by omega, by simp, HA2, hs1, by omega, by
                rw [hz]
                congr 1
                have hk3 : k = 0 ∨ k = 1 ∨ k = 2 := by omega
                have hlt : a + v * 256 ^ (3 - k) < 4294967296 := by omega
                clear hz HA2 hs1 hs2 HCW hx4 tb
                rcases hk3 with rfl | rfl | rfl <;> simp at hlt ⊢ <;> omega, rfl⟩, by omega⟩
            have SH := hide (shiftOf_any k w5 (by omega))
            clear ev hn HBAD HGO HT HA HBD
            go_wp2_with fail
            refine (unhide SH).mono ?_
            rintro e w6 ⟨rfl, hw⟩
            subst hw
            clear SH
            go_wp2
            exact unhide KEQ _ rfl
        · have e : ps.dropLast.take k = ps.dropLast := List.take_of_length_le (by simp; omega)
          have hA := unhide HA
          rw [e] at hA
          have HN := hide (unhide YES a hA)
          clear NO YES HCW HA hA HBD e hpl
          go_wp2
          go_ret2
          exact ⟨unhide HN, hx4⟩
end Go.Proofs.YtfaobhaogenijaaDoor
