/-
  Ways of package path: texts cloned, one segment more, Parse.
-/
import Derived.Test.YtbmikdocjnpidaaDoorPthA
import Derived.Laws.OwnMore
namespace Go.Proofs.YtbmikdocjnpidaaDoor
set_option linter.unusedVariables false
open Go.RowKit

/-- make([]string, 0, c). -/
theorem make_ownS (w : World) (base c : Nat) (hc : c ≤ 1000000) (hbase : base ≤ w.heap.size) :
    ∃ w', (Instr.makeSlice 22 (.int .i64 0) (.int .i64 (c : Int))).run Tryd.prog w = .ok (.slice (some ⟨w.heap.size, 0, none⟩) 0 c) w' ∧
      w'.ownsRow base 9 1 (.slice (some ⟨w.heap.size, 0, none⟩) 0 c) 0 [] ∧ Ext w w' := by
  obtain ⟨i0, hi, hz0, hz1, hz2⟩ := info_parts infoSt
  obtain ⟨w', h1, h2, h3⟩ := run_make_own (P := Tryd.prog) w base 22 9 i0 (.string ⟨#[]⟩) 1 Tryd.underlying22 hi hz0 hz1 .i64 .i64 c (by rw [hz2]; omega) (by unfold maxLen; omega) hbase
  exact ⟨w', h1, h2, (Below.refl _ _).grown h3 (Nat.le_refl _) (fun t ht => by cases ht)⟩

theorem owned_some {w : World} {base e n : Nat} {v : Value} {xs : List Value} (h : w.ownsRow base e 1 v n xs) (hn : 0 < n) : ∃ g c, v = .slice (some ⟨g, 0, none⟩) n c := by
  rcases h.2 with ⟨_, h0⟩ | ⟨g, c, cur, hv, _⟩
  · omega
  · exact ⟨g, c, hv⟩
theorem owned_take {w : World} {base e n g c : Nat} {xs : List Value} (h : w.ownsRow base e 1 (.slice (some ⟨g, 0, none⟩) n c) n xs) (k : Nat) (hk : k ≤ n) : w.ownsRow base e 1 (.slice (some ⟨g, 0, none⟩) k c) k (xs.take k) := by
  have hl := h.1
  refine ⟨by rw [List.length_take]; omega, .inr ?_⟩
  rcases h.2 with ⟨h', _⟩ | ⟨g', c', cur, hv, hbg, hg, hnc, hcm, hcs, htake⟩
  · simp at h'
  · simp only [Value.slice.injEq, Option.some.injEq, Addr.mk.injEq, and_true, true_and] at hv
    obtain ⟨rfl, rfl⟩ := hv
    refine ⟨g, c, cur, rfl, hbg, hg, by omega, hcm, hcs, ?_⟩
    rw [← htake, List.take_take]
    congr 1
    omega

set_option maxHeartbeats 1000000 in
theorem copied_any (ao : Option Addr) (cap : Nat) (ps : List (List UInt8)) (w : World) (hn : ps.length ≤ 1000) (hs : ∀ p ∈ ps, p.length ≤ 2000000) (h : RdV w ao cap (ps.map S)) :
    Calls Tryd.prog 19 #[.slice ao ps.length cap] w fun e w' => ∃ g c, e = .returned (.slice (some ⟨g, 0, none⟩) ps.length c) ∧ w'.ownsRow w.heap.size 9 1 (.slice (some ⟨g, 0, none⟩) ps.length c) ps.length (ps.map S) ∧ Ext w w' := by
  obtain ⟨w0, hmk, own, hx0⟩ := make_ownS w w.heap.size (ps.length + 1) (by omega) (Nat.le_refl _)
  have hmk' : (Instr.makeSlice 22 (.int .i64 0) (.int .i64 ((ps.length : Int) + 1))).run Tryd.prog w = .ok (.slice (some ⟨w.heap.size, 0, none⟩) 0 (ps.length + 1)) w0 := by
    rw [← hmk]
    rfl
  have ST : Hid (∃ (k g c : Nat), k ≤ ps.length ∧ Value.int .i64 0 = .int .i64 (k : Int) ∧ Value.slice (some ⟨w.heap.size, 0, none⟩) 0 (ps.length + 1) = .slice (some ⟨g, 0, none⟩) k c ∧ w0.ownsRow w.heap.size 9 1 (.slice (some ⟨g, 0, none⟩) k c) k ((ps.take k).map S) ∧ Below w.heap.size w w0) :=
    ⟨0, w.heap.size, ps.length + 1, by omega, rfl, rfl, own, hx0⟩
  have HR := hide h
  have hle := h.le
  have hmx := h.max
  simp only [List.length_map] at hle
  have r1 : IntKind.i64.wrap ((ps.length : Int) + 1) = (ps.length : Int) + 1 := by rw [IntKind.wrap_i64]; omega
  clear own hx0 h hmk
  go_enter Tryd.func19, Tryd.ntmps19
  go_wp2
  go_loopw [3, 12] (fun v i wr => ∃ (k g c : Nat), k ≤ ps.length ∧ i = .int .i64 (k : Int) ∧ v = .slice (some ⟨g, 0, none⟩) k c ∧ wr.ownsRow w.heap.size 9 1 (.slice (some ⟨g, 0, none⟩) k c) k ((ps.take k).map S) ∧ Below w.heap.size w wr) (fun _ i _ => ps.length - (intOf i).toNat)
  case atStart => exact unhide ST
  case round =>
    clear ST hmk'
    obtain ⟨k, g, c, hk, rfl, rfl, own, hbr⟩ := hrel
    by_cases hkl : k < ps.length
    · obtain ⟨b, off, rfl, hc⟩ := (unhide HR).cells (by simp; omega)
      have hpk : (ps.getD k []).length ≤ 2000000 := hs _ (by simp [List.getD, hkl])
      have c0 : wr.cell? ⟨b, off + k, none⟩ = some (S (ps.getD k [])) := by
        have := hc k (by simpa using hkl)
        rw [show (ps.map S)[k]? = some (S (ps.getD k [])) by simp [List.getD, hkl]] at this
        rw [← this]
        exact hbr.cell (p := ⟨b, off + k, none⟩) (cell_lt this)
      clear hc
      have hkl' : (k : Int) < (ps.length : Int) := by omega
      have HT := hide (take_snoc ps k [] hkl)
      have HK := hide (clone_any (ps.getD k []) wr hpk)
      have KEY : Hid (∀ (wz : World) (v' : Value) (w' : World), Below w.heap.size w wz → w'.ownsRow w.heap.size 9 1 v' (k + 1) ((ps.take k).map S ++ [S (ps.getD k [])]) → Below w.heap.size wz w' →
          ((∃ (k' g' c' : Nat), k' ≤ ps.length ∧ Value.int .i64 ((k : Int) + 1) = .int .i64 (k' : Int) ∧ v' = .slice (some ⟨g', 0, none⟩) k' c' ∧ w'.ownsRow w.heap.size 9 1 (.slice (some ⟨g', 0, none⟩) k' c') k' ((ps.take k').map S) ∧ Below w.heap.size w w') ∧ ps.length - ((k : Int) + 1).toNat < ps.length - k)) := by
        intro wz v' w' hz o' b'
        obtain ⟨g', c', rfl⟩ := owned_some o' (by omega)
        refine ⟨⟨k + 1, g', c', by omega, by simp, rfl, ?_, hz.trans b'⟩, by omega⟩
        rw [unhide HT, List.map_append]
        exact o'
      clear HT hs HR
      generalize ps.getD k [] = p at *
      go_wp2_with fail
      refine (unhide HK).mono ?_
      rintro e w2 ⟨rfl, hx2⟩
      clear HK c0
      have RL := RdV.lit w2 [S p] 9 (0, 0) (by simp)
      have own2 := owns_below (owns_below own hx2) (Ext.alloc w2 (.cells #[S p] 9 (0, 0)))
      have hb2 : Below w.heap.size w (w2.alloc (.cells #[S p] 9 (0, 0))) := hbr.trans (Below.mono (hx2.trans (Ext.alloc w2 _)) hbr.size)
      have hbase := hb2.size
      have hone : ∀ u ∈ [S p], u.oneCell' = true := by simp [Value.oneCell']
      clear own hbr hx2
      go_wp2_with (at_builtin; refine wpList_app rfl (.tmp 16) (.tmp 19) 22 9 (.string ⟨#[]⟩) 16 Tryd.underlying22 infoSt rfl rfl w.heap.size _ _ _ rfl own2 _ _ _ [S p] rfl rfl RL hone (by omega) hbase ?_)
      intro v2 w3 o2 b2
      clear own2 RL hone
      have kk := hide (unhide KEY _ v2 w3 hb2 (by rw [List.map_take]; exact o2) b2)
      clear o2 b2 KEY
      go_wp2
      exact unhide kk
    · have hk2 : k = ps.length := by omega
      subst hk2
      rw [List.take_length] at own
      have FF : Hid (∃ g' c', Ending.returned (.slice (some ⟨g, 0, none⟩) ps.length c) = .returned (.slice (some ⟨g', 0, none⟩) ps.length c') ∧ wr.ownsRow w.heap.size 9 1 (.slice (some ⟨g', 0, none⟩) ps.length c') ps.length (ps.map S) ∧ Ext w wr) := ⟨_, _, rfl, own, hbr⟩
      clear own hbr HR hs
      go_wp2
      go_ret
      exact unhide FF

theorem stp_len (l : List (List UInt8)) (x : List UInt8) (last : Bool) : (stp l x last).length ≤ l.length + 1 := by
  unfold stp
  split
  · split <;> simp <;> omega
  · split
    · split <;> simp
    · simp
end Go.Proofs.YtbmikdocjnpidaaDoor
