/-
  What is asked of package query; how far it has come; its laws All, Parts, Most.
-/
import Derived.Test.YtilmkmplaehcaaaDoorQryE
namespace Go.Proofs.YtilmkmplaehcaaaDoor
set_option linter.unusedVariables false
open Go.RowKit

/-- Some int lies in the library's own variable. -/
def MaxL (w : World) : Prop := ∃ m : Int, w.cell? ⟨0, 0, none⟩ = some (.int .i64 m)
theorem MaxL.below {w w' : World} (h : MaxL w) (hx : Ext w w') : MaxL w' := by
  obtain ⟨m, hm⟩ := h
  exact ⟨m, (hx.cell (p := ⟨0, 0, none⟩) (cell_lt hm)).trans hm⟩
/-- Parse tells the document's pairs. -/
def ParseOk : Prop := ∀ (s : List UInt8) (w : World), s.length ≤ 100000 → MaxL w → Calls Tryd.prog 10 #[S s] w fun e w' => ∃ ao c, e = .returned (.slice ao (parQ s).length c) ∧ RdP w' ao c (parQ s) ∧ Ext w w'
/-- Show tells the document's text. -/
def ShowOk : Prop := ∀ (ao : Option Addr) (cap : Nat) (l : List Pr) (w : World), (shwQ l).length ≤ 1000000 → (∀ p ∈ l, p.1.length ≤ 100000 ∧ p.2.length ≤ 100000) → RdP w ao cap l → Calls Tryd.prog 12 #[.slice ao l.length cap] w fun e w' => e = .returned (S (shwQ l)) ∧ Ext w w'

theorem shw1_len (M : Nat) (p : Pr) (h1 : p.1.length ≤ M) (h2 : p.2.length ≤ M) : (shw1 p).length ≤ 6 * M + 1 := by
  have e1 := Pct.encd_len 6 p.1
  have e2 := Pct.encd_len 6 p.2
  unfold shw1 encF
  rw [List.length_append, List.length_cons]
  omega
theorem shwQ_bound (M : Nat) : ∀ l : List Pr, (∀ p ∈ l, p.1.length ≤ M ∧ p.2.length ≤ M) → (shwQ l).length ≤ l.length * (6 * M + 2)
  | [], _ => by simp [shwQ]
  | p :: r, h => by
    have h0 := shw1_len M p (h p (by simp)).1 (h p (by simp)).2
    have key : ∀ r : List Pr, (∀ q ∈ r, q.1.length ≤ M ∧ q.2.length ≤ M) → (r.flatMap fun q => 38 :: shw1 q).length ≤ r.length * (6 * M + 2) := by
      intro r
      induction r with
      | nil => intro _; simp
      | cons q r ih =>
        intro hr
        have h1 := shw1_len M q (hr q (by simp)).1 (hr q (by simp)).2
        have h2 := ih (fun z hz => hr z (by simp [hz]))
        rw [List.flatMap_cons, List.length_append, List.length_cons, List.length_cons, Nat.succ_mul]
        omega
    have h1 := key r (fun z hz => h z (by simp [hz]))
    rw [shwQ, List.length_append, List.length_cons, Nat.succ_mul]
    omega
theorem parQ_len (s : List UInt8) : (parQ s).length ≤ 40 := by
  unfold parQ
  rw [List.length_take]
  omega
theorem parQ_each (s : List UInt8) : ∀ p ∈ parQ s, p.1.length ≤ 4 * s.length ∧ p.2.length ≤ 4 * s.length := by
  intro p hp
  have hp := List.mem_of_mem_take hp
  unfold prs at hp
  obtain ⟨q, hq, rfl⟩ := List.mem_map.1 hp
  have hq := (List.mem_filter.1 hq).1
  have h1 := pcs_len 38 s q hq
  have h2 := cut1_len 61 q
  have h3 := plainB_len (cut1 61 q).1
  have h4 := plainB_len (cut1 61 q).2
  unfold pairOf
  simp only
  omega
theorem shw_par (s : List UInt8) (hs : s.length ≤ 1000) : (shwQ (parQ s)).length ≤ 1000000 ∧ ∀ p ∈ parQ s, p.1.length ≤ 100000 ∧ p.2.length ≤ 100000 := by
  have h1 := shwQ_bound (4 * s.length) (parQ s) (parQ_each s)
  have h2 := parQ_len s
  have h3 : (parQ s).length * (6 * (4 * s.length) + 2) ≤ 40 * (6 * (4 * 1000) + 2) := Nat.mul_le_mul h2 (by omega)
  refine ⟨by omega, fun p hp => ?_⟩
  have := parQ_each s p hp
  omega

set_option maxHeartbeats 1000000 in
theorem begun_yes (hp : ParseOk) (hs : ShowOk) (w : World) (tb : MaxL w) : Calls Tryd.prog 8 #[] w fun e w' => e = .returned (.bool true) ∧ Ext w w' := by
  have HP := hide (hp [97, 61, 98, 43, 99, 38, 100] w (by decide) tb)
  rw [show parQ [97, 61, 98, 43, 99, 38, 100] = [([97], [98, 32, 99]), ([100], [])] by decide +kernel] at HP
  go_enter Tryd.func8, Tryd.ntmps8
  go_wp2_with fail
  refine (unhide HP).mono ?_
  rintro e w1 ⟨ao, c, rfl, R1, hx1⟩
  clear HP
  obtain ⟨g, off, rfl, hc⟩ := R1.cells (by decide)
  have hle := R1.le
  have hmx := R1.max
  have c01 : w1.cell? ⟨g, off + 1, none⟩ = some (S [98, 32, 99]) := (hc 0 (by decide)).2
  have c10 : w1.cell? ⟨g, off + 2, none⟩ = some (S [100]) := (hc 1 (by decide)).1
  have HS := hide (hs (some ⟨g, off, none⟩) c [([97], [98, 32, 99]), ([100], [])] w1 (by decide +kernel) (by decide) R1)
  rw [show shwQ [([97], [98, 32, 99]), ([100], [])] = [97, 61, 98, 43, 99, 38, 100, 61] by decide +kernel] at HS
  have X1 := hide hx1
  have hle2 : 2 ≤ c := hle
  clear hc R1 hx1 hle
  go_wp2_with fail
  refine (unhide HS).mono ?_
  rintro e w2 ⟨rfl, hx2⟩
  clear HS
  have FF := (unhide X1).trans hx2
  go_wp2
  go_ret
  exact ⟨rfl, FF⟩
end Go.Proofs.YtilmkmplaehcaaaDoor
