/-
  I6N, I6O, J6A, I4Q.
-/
import Derived.Test.YtenlampiiodkhaaGreatDoorBXc
import Derived.Test.YtenlampiiodkhaaGreatDoorBNc
import Derived.Laws.BitsAllLaws
namespace Go.Proofs.YtenlampiiodkhaaGreatDoor
set_option linter.unusedVariables false
open Go.RowKit
/-! What is written behind so many places -/
def sW (a : List Nat) (fr en i : Nat) : List UInt8 := if i ≤ fr then jp (a.take i) else jp (a.take fr) ++ [58, 58] ++ jp ((a.take i).drop en)
def lst (s : List UInt8) : UInt8 := s.getD (s.length - 1) 0
theorem lst_app (p s : List UInt8) (h : s ≠ []) : lst (p ++ s) = lst s := by
  unfold lst; have hl := List.length_pos_iff.2 h; simp only [List.getD]; rw [List.length_append, List.getElem?_append_right (by omega)]; congr 2; omega
theorem lst_mem (s : List UInt8) (h : s ≠ []) : lst s ∈ s := by
  have hl := List.length_pos_iff.2 h; unfold lst; have : s.length - 1 < s.length := by omega
  simp [List.getD, this]
theorem bdg_col (v : Nat) : noCol (bdg 16 v) := fun x hx e => by
  have := (bdg_mem 16 (by decide) (by decide) v x hx).1; rw [e, dgV_58] at this; omega
theorem jp_last (l : List Nat) (h : l ≠ []) : jp l ≠ [] ∧ lst (jp l) ≠ 58 := by
  obtain ⟨t, v, rfl⟩ : ∃ t v, l = t ++ [v] := ⟨l.dropLast, l.getLast h, (List.dropLast_concat_getLast h).symm⟩; have hv : lst (bdg 16 v) ≠ 58 := bdg_col v _ (lst_mem _ (bdg_ne _ _)); by_cases ht : t = []
  · subst ht; exact ⟨bdg_ne _ _, hv⟩
  · rw [jp_snoc t v ht]; exact ⟨by simp, by rw [lst_app _ _ (bdg_ne _ _)]; exact hv⟩
theorem sW_zero (a : List Nat) (fr en : Nat) : sW a fr en 0 = [] := by
  unfold sW; rw [if_pos (Nat.zero_le _)]; rfl
theorem sW_colon (a : List Nat) (fr en i : Nat) (hi : i < a.length) (h0 : 0 < i) (hv : i < fr ∨ en < i) (hfe : fr ≤ en) : sW a fr en (i + 1) = sW a fr en i ++ [58] ++ bdg 16 (a.getD i 0) ∧ sW a fr en i ≠ [] ∧ lst (sW a fr en i) ≠ 58 := by
  unfold sW; rcases hv with hv | hv
  · rw [if_pos (show i + 1 ≤ fr by omega), if_pos (show i ≤ fr by omega), take_snoc a i 0 hi]; have hne : a.take i ≠ [] := fun e => by
      have := congrArg List.length e; rw [List.length_take, List.length_nil] at this; omega
    obtain ⟨h1, h2⟩ := jp_last _ hne; exact ⟨jp_snoc _ _ hne, h1, h2⟩
  · rw [if_neg (show ¬ i + 1 ≤ fr by omega), if_neg (show ¬ i ≤ fr by omega), take_snoc a i 0 hi]; have hne : (a.take i).drop en ≠ [] := fun e => by
      have := congrArg List.length e; rw [List.length_drop, List.length_take, List.length_nil] at this; omega
    obtain ⟨h1, h2⟩ := jp_last _ hne; rw [List.drop_append_of_le_length (by rw [List.length_take]; omega), jp_snoc _ _ hne]; exact ⟨by simp, by simp, by rw [lst_app _ _ h1]; exact h2⟩
theorem sW_plain (a : List Nat) (fr en i : Nat) (hi : i < a.length) (hfe : fr < en ∨ fr = a.length) (h : i = 0 ∧ i < fr ∨ i = en ∧ fr < en) : sW a fr en (i + 1) = sW a fr en i ++ bdg 16 (a.getD i 0) ∧ (sW a fr en i = [] ∨ lst (sW a fr en i) = 58) := by
  unfold sW; rcases h with ⟨h0, hv⟩ | ⟨h0, hv⟩
  · subst h0; rw [if_pos (show 0 + 1 ≤ fr by omega), if_pos (show 0 ≤ fr by omega), take_snoc a 0 0 hi]; exact ⟨rfl, .inl rfl⟩
  · subst h0; rw [if_neg (show ¬ i + 1 ≤ fr by omega), if_neg (show ¬ i ≤ fr by omega), take_snoc a i 0 hi]; have hd : (a.take i).drop i = [] := List.drop_of_length_le (by rw [List.length_take]; omega); rw [List.drop_append_of_le_length (by rw [List.length_take]; omega), hd]; refine ⟨?_, .inr ?_⟩
    · show jp (a.take fr) ++ [58, 58] ++ bdg 16 (a.getD i 0) = jp (a.take fr) ++ [58, 58] ++ [] ++ bdg 16 (a.getD i 0); simp
    · show lst (jp (a.take fr) ++ [58, 58] ++ []) = 58; rw [List.append_nil, lst_app _ _ (by simp)]; rfl
theorem sW_gap (a : List Nat) (fr en : Nat) (h : fr < en) : sW a fr en en = sW a fr en fr ++ [58, 58] := by
  unfold sW; rw [if_neg (by omega), if_pos (Nat.le_refl _), List.drop_of_length_le (by rw [List.length_take]; omega)]; show jp (a.take fr) ++ [58, 58] ++ [] = _; rw [List.append_nil]
theorem sW_end (a : List Nat) (h8 : a.length = 8) : sW a (rowOf (zb a)).1 (rowOf (zb a)).2 8 = shw6 a := by
  obtain ⟨h1, h2, h3, h4⟩ := row_facts a h8; unfold sW shw6; by_cases hlt : (rowOf (zb a)).1 < (rowOf (zb a)).2
  · rw [if_pos hlt, if_neg (by omega), List.take_of_length_le (show a.length ≤ 8 by omega)]; simp
  · rw [if_neg hlt, (h4 hlt).1, if_pos (Nat.le_refl _), List.append_nil]
theorem sW_len (a : List Nat) (h8 : a.length = 8) (hs : i6small a) (fr en i : Nat) : (sW a fr en i).length ≤ 100 := by
  have h1 := jp_len (a.take i) (small_take hs _); have h2 := jp_len (a.take fr) (small_take hs _); have h3 := jp_len ((a.take i).drop en) (small_drop (small_take hs _) _); rw [List.length_take] at h1 h2; rw [List.length_drop, List.length_take] at h3; unfold sW
  split
  · omega
  · rw [List.length_append, List.length_append]; simp; omega
theorem drow_yes (bs : List Bool) (k z : Nat) (hz : z = runB (bs.drop k)) (h : (drow bs k).2 < z) : drow bs (k + 1) = ((k : Int), z) := by
  rw [drow, ← hz, if_pos h]
theorem drow_no (bs : List Bool) (k z : Nat) (hz : z = runB (bs.drop k)) (h : ¬ (drow bs k).2 < z) : drow bs (k + 1) = drow bs k := by
  rw [drow, ← hz, if_neg h]
theorem drow_le (bs : List Bool) : ∀ k, (drow bs k).2 ≤ bs.length + 1
  | 0 => by show 1 ≤ _; omega
  | k + 1 => by
    have ih := drow_le bs k; have hr : ∀ l : List Bool, runB l ≤ l.length := by
      intro l
      induction l with
      | nil => exact Nat.le_refl _
      | cons b l ih => cases b <;> simp [runB]; omega
    have := hr (bs.drop k); rw [List.length_drop] at this; rw [drow]
    split
    · show runB (bs.drop k) ≤ _; omega
    · exact ih
end Go.Proofs.YtenlampiiodkhaaGreatDoor
namespace Go.Proofs.YtenlampiiodkhaaGreatDoor
set_option linter.unusedVariables false
open Go.RowKit
end Go.Proofs.YtenlampiiodkhaaGreatDoor
namespace Go.Proofs.YtenlampiiodkhaaGreatDoor
set_option linter.unusedVariables false
open Go.RowKit
theorem hex_slice16 (d : Nat) (hd : d < 16) (v : World) : (Instr.slice 9 (.string ⟨#[48, 49, 50, 51, 52, 53, 54, 55, 56, 57, 97, 98, 99, 100, 101, 102]⟩) (some (.int .u16 (d : Int))) (some (.int .u16 ((d : Int) + 1))) none).run Tryz.prog v = .ok (S [hexd d]) v := by
  have h := run_slice_string v 9 ⟨hexs.toArray⟩ .u16 .u16 (d : Int) ((d : Int) + 1) Tryz.underlying9 (by omega) (by omega) (by show (d : Int) + 1 ≤ 16; omega); rw [show ((d : Int)).toNat = d by omega, show ((d : Int) + 1).toNat = d + 1 by omega, hexs_at ⟨d, hd⟩] at h; exact h
theorem cell_lj {w : World} {g : Nat} {l : List Nat} {t : TypeId} {fr : Nat × Nat} (h : w.heap[g]? = some (.cells (l.map U).toArray t fr)) (k : Nat) (hk : k < l.length) : w.cell? ⟨g, k, none⟩ = some (U (l.getD k 0)) := by
  have h2 : w.cell? ⟨g, k, none⟩ = (l.map U)[k]? := by simp [World.cell?, h]
  rw [h2, List.getElem?_map, List.getElem?_eq_getElem hk]; simp [List.getD, hk]
set_option maxHeartbeats 2000000 in
set_option maxRecDepth 100000 in
theorem piece_any (n : Nat) (w : World) (hn : n < 65536) : Calls Tryz.prog 54 #[.int .u16 (n : Int)] w fun e w' => e = .returned (S (bdg 16 n)) ∧ Ext w w' := by
  have fin : ∀ s, s = bdg 16 n → Ending.returned (S s) = .returned (S (bdg 16 n)) := fun s h => by rw [h]
  have FIN := hide fin; clear fin; go_enter Tryz.func54, Tryz.ntmps54; go_wp2_with fail
  go_loopw [0, 3] (fun x s wr => ∃ (m : Nat) (acc : List UInt8), x = .int .u16 (m : Int) ∧ s = S acc ∧ Hid (Wrt 16 n m acc) ∧ m < 65536 ∧ Ext w wr) (fun x _ _ => (intOf x).toNat)
  case atStart => exact ⟨n, [], rfl, rfl, Wrt.start 16 n, hn, Ext.refl _⟩
  case round =>
    obtain ⟨m, acc, rfl, rfl, HW, hm, hx⟩ := hrel; have hlen := (unhide HW).len (by omega); obtain ⟨d, hd⟩ : ∃ d, d = m % 16 := ⟨_, rfl⟩; have hd16 : d < 16 := by omega
    have hrem : (m : Int) % 16 = (d : Int) := by omega
    have hsl := fun v => hex_slice16 d (by omega) v; have hcat := cat_one (hexd d) acc; have hl2 : ¬ 9223372036854775807 < 1 + acc.length := by omega
    by_cases hmb : m < 16
    · have hq : (m : Int) / 16 = 0 := by omega
      have HF := hide (unhide FIN (hexd d :: acc) (by rw [(unhide HW).last (by decide) hmb, ← hd])); clear HW hd FIN; generalize hexd d :: acc = Z at *; generalize hexd d = xd at *; go_wp2; go_ret; exact ⟨unhide HF, hx⟩
    · obtain ⟨q, hq⟩ : ∃ q, q = m / 16 := ⟨_, rfl⟩; have hqi : (m : Int) / 16 = (q : Int) := by omega
      have hq0 : ((q : Int) == 0) = false := by simp; omega
      have hq0' : ¬ (q : Int) = 0 := by omega
      have KK : Hid ((∃ (m' : Nat) (acc' : List UInt8), Value.int .u16 (q : Int) = .int .u16 (m' : Int) ∧ S (hexd d :: acc) = S acc' ∧ Hid (Wrt 16 n m' acc') ∧ m' < 65536 ∧ Ext w wr) ∧ ((q : Int)).toNat < ((m : Int)).toNat) :=
        ⟨⟨q, hexd d :: acc, rfl, rfl, by rw [hq, hd]; exact (unhide HW).next (by decide) hmb, by omega, hx⟩, by omega⟩
      clear HW hd FIN hq; generalize hexd d :: acc = Z at *; generalize hexd d = xd at *; go_wp2; exact unhide KK
set_option maxHeartbeats 4000000 in
set_option maxRecDepth 100000 in
theorem rshow6_any (x0 x1 x2 x3 x4 x5 x6 x7 : Nat) (w : World) (hsm : i6small [x0, x1, x2, x3, x4, x5, x6, x7]) : Calls Tryz.prog 22 #[.agg #[U x0, U x1, U x2, U x3, U x4, U x5, U x6, U x7]] w fun e w' => e = .returned (S (shw6 [x0, x1, x2, x3, x4, x5, x6, x7])) ∧ Ext w w' := by
  have hxa : Ext w (w.alloc (.cells #[U x0, U x1, U x2, U x3, U x4, U x5, U x6, U x7] 36)) := Ext.alloc _ _; have hA0 : (w.alloc (.cells #[U x0, U x1, U x2, U x3, U x4, U x5, U x6, U x7] 36)).heap[w.heap.size]? = some (.cells #[U x0, U x1, U x2, U x3, U x4, U x5, U x6, U x7] 36 (0, 0)) := alloc_new _ _; obtain ⟨a, ha⟩ : ∃ a, a = [x0, x1, x2, x3, x4, x5, x6, x7] := ⟨_, rfl⟩; have h8 : a.length = 8 := by rw [ha]; rfl
  rw [← ha] at hsm; have HSM := hide hsm; have HA : Hid ((w.alloc (.cells #[U x0, U x1, U x2, U x3, U x4, U x5, U x6, U x7] 36)).heap[w.heap.size]? = some (.cells (a.map U).toArray 36 (0, 0))) := by rw [ha]; exact hA0
  have FIN : Hid (∀ s, s = shw6 a → Ending.returned (S s) = .returned (S (shw6 [x0, x1, x2, x3, x4, x5, x6, x7]))) := fun s h => by rw [h, ha]
  clear hsm hA0; have HA' := HA; go_enter Tryz.func22, Tryz.ntmps22; have HC0 : Hid (∀ j, j < 8 → (w.alloc (.cells #[U x0, U x1, U x2, U x3, U x4, U x5, U x6, U x7] 36)).cell? ⟨w.heap.size, j, none⟩ = some (U (a.getD j 0))) := fun j hj => cell_lj (unhide HA) j (by omega); have HZB : Hid (∀ j, j < 8 → (zb a).getD j false = (a.getD j 0 == 0)) := fun j hj => zb_at (by rw [h8]; exact hj); have hbl : (zb a).length = 8 := by rw [zb_len, h8]
  have HEND := hide (sW_end a h8); have HRF := hide (row_facts a h8); generalize hbs : zb a = bs at *; clear hbs HA' ha; go_wp2_with fail
  generalize w.alloc (.cells #[U x0, U x1, U x2, U x3, U x4, U x5, U x6, U x7] 36) = wa at *; generalize w.heap.size = g at *
  go_loopw [3, 4, 5] (fun at' n i wr2 => ∃ i' : Nat, i = .int .i64 i' ∧ at' = .int .i64 (drow bs i').1 ∧ n = .int .i64 ((drow bs i').2 : Int) ∧ i' ≤ 8 ∧ wr2 = wa) (fun _ _ i _ => 8 - (intOf i).toNat)
  case atStart => exact ⟨0, rfl, rfl, rfl, by omega, rfl⟩
  case round =>
    obtain ⟨i, rfl, rfl, rfl, hi, hw2⟩ := hrel; have hw3 := hw2.symm; subst hw3; clear hw2; by_cases hi8 : i < 8
    · have hi8' : (i : Int) < 8 := by omega
      clear HRF HEND HSM HA FIN hxa; go_wp2_with fail
      go_loopw [6] (fun nn wr' => ∃ n' : Nat, nn = .int .i64 n' ∧ i + n' ≤ 8 ∧ Hid (runB (bs.drop i) = n' + runB (bs.drop (i + n'))) ∧ wr' = wa) (fun nn _ => 8 - (intOf nn).toNat)
      case atStart => exact ⟨0, rfl, by omega, hide (by simp), rfl⟩
      case round =>
        obtain ⟨n', rfl, hij, HJ, hw⟩ := hrel; have hw3 := hw.symm; subst hw3; clear hw; obtain ⟨j, hj⟩ : ∃ j, j = i + n' := ⟨_, rfl⟩; have hpos : (i : Int) + (n' : Int) = (j : Int) := by omega
        have hj9 : (j : Int) ≤ 8 := by omega
        have hn0 := drow_le bs i; rw [hbl] at hn0; rw [← hj] at HJ; by_cases hj8 : j < 8
        · have hj' : (j : Int) < 8 := by omega
          have c0 := unhide HC0 j hj8; have hz := unhide HZB j hj8; by_cases hx0 : a.getD j 0 = 0
          · have hxb : (((a.getD j 0 : Nat) : Int) == 0) = true := by rw [hx0]; rfl
            have HJ2 : Hid (runB (bs.drop i) = (n' + 1) + runB (bs.drop (i + (n' + 1)))) := by
              show _ = _; have h1 := runB_yes (bs := bs) (j := j) (by rw [hbl]; exact hj8) (by rw [hz, hx0]; rfl); have h2 := unhide HJ; rw [show i + (n' + 1) = j + 1 by omega]; omega
            have KK : Hid ((∃ n2 : Nat, Value.int .i64 ((n' : Int) + 1) = .int .i64 n2 ∧ i + n2 ≤ 8 ∧ Hid (runB (bs.drop i) = n2 + runB (bs.drop (i + n2))) ∧ True) ∧ 8 - ((n' : Int) + 1).toNat < 8 - n') := ⟨⟨n' + 1, by simp, by omega, HJ2, trivial⟩, by omega⟩; clear HJ hz hx0 HC0 HZB HJ2 hj hij; generalize a.getD j 0 = x at *; go_wp2; obtain ⟨⟨n2, e1, e2, e3, _⟩, e5⟩ := unhide KK; exact ⟨⟨n2, e1, e2, e3, by first | rfl | trivial⟩, e5⟩
          · have hxb : (((a.getD j 0 : Nat) : Int) == 0) = false := by
              rw [beq_eq_false_iff_ne]; omega
            have hrun : runB (bs.drop j) = 0 := runB_no (by rw [hbl]; exact hj8) (by rw [hz]; simpa using hx0); have hz2 : runB (bs.drop i) = n' := by
              have h2 := unhide HJ; omega
            clear hrun hz hx0 HJ; generalize a.getD j 0 = x at *; by_cases hq : (drow bs i).2 < n'
            · have hd := drow_yes bs i n' hz2.symm hq; have q1 : ((drow bs i).2 : Int) < (n' : Int) := by omega
              have KK : Hid ((∃ i' : Nat, Value.int .i64 ((i : Int) + 1) = .int .i64 i' ∧ Value.int .i64 (i : Int) = .int .i64 (drow bs i').1 ∧ Value.int .i64 (n' : Int) = .int .i64 ((drow bs i').2 : Int) ∧ i' ≤ 8 ∧ True) ∧ 8 - ((i : Int) + 1).toNat < 8 - i) := ⟨⟨i + 1, by simp, by rw [hd], by rw [hd], by omega, trivial⟩, by omega⟩; clear hz2 hd HC0 HZB hj hij hq; go_wp2; obtain ⟨⟨i', e1, e2, e3, e4, _⟩, e5⟩ := unhide KK; exact ⟨⟨i', e1, e2, e3, e4, by first | rfl | trivial⟩, e5⟩
            · have hd := drow_no bs i n' hz2.symm hq; have q1 : ¬ ((drow bs i).2 : Int) < (n' : Int) := by omega
              have KK : Hid ((∃ i' : Nat, Value.int .i64 ((i : Int) + 1) = .int .i64 i' ∧ Value.int .i64 (drow bs i).1 = .int .i64 (drow bs i').1 ∧ Value.int .i64 ((drow bs i).2 : Int) = .int .i64 ((drow bs i').2 : Int) ∧ i' ≤ 8 ∧ True) ∧ 8 - ((i : Int) + 1).toNat < 8 - i) := ⟨⟨i + 1, by simp, by rw [hd], by rw [hd], by omega, trivial⟩, by omega⟩; clear hz2 hd HC0 HZB hj hij hq; go_wp2; obtain ⟨⟨i', e1, e2, e3, e4, _⟩, e5⟩ := unhide KK; exact ⟨⟨i', e1, e2, e3, e4, by first | rfl | trivial⟩, e5⟩
        · have hj' : ¬ (j : Int) < 8 := by omega
          have hz2 : runB (bs.drop i) = n' := by
            have h2 := unhide HJ; have h3 := runB_end (bs := bs) (j := j) (by rw [hbl]; omega); omega
          clear HJ; by_cases hq : (drow bs i).2 < n'
          · have hd := drow_yes bs i n' hz2.symm hq; have q1 : ((drow bs i).2 : Int) < (n' : Int) := by omega
            have KK : Hid ((∃ i' : Nat, Value.int .i64 ((i : Int) + 1) = .int .i64 i' ∧ Value.int .i64 (i : Int) = .int .i64 (drow bs i').1 ∧ Value.int .i64 (n' : Int) = .int .i64 ((drow bs i').2 : Int) ∧ i' ≤ 8 ∧ True) ∧ 8 - ((i : Int) + 1).toNat < 8 - i) := ⟨⟨i + 1, by simp, by rw [hd], by rw [hd], by omega, trivial⟩, by omega⟩; clear hz2 hd HC0 HZB hj hij hq; go_wp2; obtain ⟨⟨i', e1, e2, e3, e4, _⟩, e5⟩ := unhide KK; exact ⟨⟨i', e1, e2, e3, e4, by first | rfl | trivial⟩, e5⟩
          · have hd := drow_no bs i n' hz2.symm hq; have q1 : ¬ ((drow bs i).2 : Int) < (n' : Int) := by omega
            have KK : Hid ((∃ i' : Nat, Value.int .i64 ((i : Int) + 1) = .int .i64 i' ∧ Value.int .i64 (drow bs i).1 = .int .i64 (drow bs i').1 ∧ Value.int .i64 ((drow bs i).2 : Int) = .int .i64 ((drow bs i').2 : Int) ∧ i' ≤ 8 ∧ True) ∧ 8 - ((i : Int) + 1).toNat < 8 - i) := ⟨⟨i + 1, by simp, by rw [hd], by rw [hd], by omega, trivial⟩, by omega⟩; clear hz2 hd HC0 HZB hj hij hq; go_wp2; obtain ⟨⟨i', e1, e2, e3, e4, _⟩, e5⟩ := unhide KK; exact ⟨⟨i', e1, e2, e3, e4, by first | rfl | trivial⟩, e5⟩
    · have hi8e : i = 8 := by omega
      have hD : drow bs 8 = drow bs i := by rw [hi8e]
      obtain ⟨hfe, he8, hy, hnn⟩ := unhide HRF; rw [hD] at hy hnn; clear hD hi8e; clear HRF HZB; generalize (rowOf bs).1 = fr at *; generalize (rowOf bs).2 = en at *; have HQ : Hid (∀ i2 : Nat, i2 < 8 → i2 = fr → ((i2 : Int) == (drow bs i).1) = true ∧ fr < en ∧ (drow bs i).2 = en - fr) := fun i2 hi e => by
        by_cases hlt : fr < en
        · rw [(hy hlt).1]; exact ⟨by rw [e]; simp, hlt, rfl⟩
        · have := (hnn hlt).1; omega
      have HN : Hid (∀ i2 : Nat, i2 < 8 → i2 ≠ fr → ((i2 : Int) == (drow bs i).1) = false) := fun i2 hi e => by
        rw [beq_eq_false_iff_ne]; by_cases hlt : fr < en
        · rw [(hy hlt).1]; show (i2 : Int) ≠ (fr : Int); omega
        · rw [(hnn hlt).2]; show (i2 : Int) ≠ -1; omega
      have HF : Hid (fr < en ∨ fr = 8) := by
        show _ ∨ _; by_cases hlt : fr < en
        · exact .inl hlt
        · exact .inr (hnn hlt).1
      clear hy hnn HC0; generalize (drow bs i).1 = at' at *; generalize (drow bs i).2 = n at *; have HS0 : Hid (S (sW a fr en 0) = S []) := congrArg S (sW_zero a fr en); go_wp2_with fail
      go_loopw [7, 8] (fun want i wr2 => ∃ i' : Nat, i = .int .i64 i' ∧ i' ≤ 8 ∧ (i' ≤ fr ∨ en ≤ i') ∧ want = S (sW a fr en i') ∧ Ext wa wr2) (fun _ i _ => 8 - (intOf i).toNat)
      case atStart => exact ⟨0, rfl, by omega, by omega, (unhide HS0).symm, Ext.refl _⟩
      case round =>
        clear HS0; obtain ⟨i, rfl, hi, hif, rfl, hx2⟩ := hrel; have hl9 := sW_len a h8 (unhide HSM) fr en i; by_cases hi8 : i < 8
        · have hi8' : (i : Int) < 8 := by omega
          by_cases hif2 : i = fr
          · have hif3 := hif2.symm; subst hif3; clear hif2; obtain ⟨q1, hlt, hn⟩ := unhide HQ fr hi8 rfl; obtain ⟨m, rfl⟩ : ∃ m, en = fr + m := ⟨en - fr, by omega⟩; obtain rfl : n = m := by omega
            clear hn; have hm1 : 0 < n := by omega
            have hc : (⟨(sW a fr (fr + n) fr).toArray⟩ : ByteArray) ++ ⟨#[58, 58]⟩ = ⟨(sW a fr (fr + n) (fr + n)).toArray⟩ := by
              rw [sW_gap a fr (fr + n) hlt]; exact cat_to _ [58, 58]
            have KK : Hid ((∃ i' : Nat, Value.int .i64 ((fr : Int) + (n : Int)) = .int .i64 i' ∧ i' ≤ 8 ∧ (i' ≤ fr ∨ fr + n ≤ i') ∧ Value.string ⟨(sW a fr (fr + n) (fr + n)).toArray⟩ = S (sW a fr (fr + n) i') ∧ Ext wa wr) ∧ 8 - ((fr : Int) + (n : Int)).toNat < 8 - fr) :=
              ⟨⟨fr + n, by simp, he8, .inr (Nat.le_refl _), rfl, hx2⟩, by omega⟩
            clear HQ HN HA HF HEND HSM FIN; generalize sW a fr (fr + n) fr = q at *; generalize sW a fr (fr + n) (fr + n) = q2 at *; go_wp2; exact unhide KK
          · have q1 := unhide HN i hi8 hif2; have c1 : wr.cell? ⟨g, i, none⟩ = some (U (a.getD i 0)) := cell_lj (heap_ext (unhide HA) hx2) i (by omega); have hv : a.getD i 0 < 65536 := unhide HSM _ (by simp only [List.getD, List.getElem?_eq_getElem (show i < a.length by omega), Option.getD_some]; exact List.getElem_mem _); have HPC := hide (piece_any (a.getD i 0) wr hv); have hb4 := bdg16_len _ hv; have KK : Hid (∀ u, Ext wr u → (∃ i' : Nat, Value.int .i64 ((i : Int) + 1) = .int .i64 i' ∧ i' ≤ 8 ∧ (i' ≤ fr ∨ en ≤ i') ∧ Value.string ⟨(sW a fr en (i + 1)).toArray⟩ = S (sW a fr en i') ∧ Ext wa u) ∧ 8 - ((i : Int) + 1).toNat < 8 - i) := fun u hu =>
              ⟨⟨i + 1, by simp, by omega, by omega, rfl, hx2.trans hu⟩, by omega⟩
            by_cases hpl : i = 0 ∧ i < fr ∨ i = en ∧ fr < en
            · obtain ⟨hw1, hw2⟩ := sW_plain a fr en i (by omega) (by have := unhide HF; omega) hpl; have hc : (⟨(sW a fr en i).toArray⟩ : ByteArray) ++ ⟨(bdg 16 (a.getD i 0)).toArray⟩ = ⟨(sW a fr en (i + 1)).toArray⟩ := by rw [hw1]; exact cat_to _ _
              clear HQ HN HA HF HEND HSM FIN hw1; generalize sW a fr en (i + 1) = q2 at *; generalize sW a fr en i = q at *; generalize bdg 16 (a.getD i 0) = z at *; generalize a.getD i 0 = v at *; by_cases hq : q = []
              · have hie : q.isEmpty = true := by rw [hq]; rfl
                clear hw2 hq; go_wp2_with fail
                refine (unhide HPC).mono ?_; rintro e w3 ⟨rfl, hx3⟩; have KK2 := hide (unhide KK w3 hx3); clear HPC KK hx3 hx2 c1; go_wp2; exact unhide KK2
              · have hl58 := hw2.resolve_left hq; have hlp := List.length_pos_iff.2 hq; have hie : q.isEmpty = false := by simpa using hq
                have ix := idx_str wr q .i64 (q.length - 1) (by omega); rw [show ((q.length - 1 : Nat) : Int) = (q.length : Int) - 1 by omega, show q.getD (q.length - 1) 0 = 58 from hl58] at ix; clear hw2 hq hl58; go_wp2_with fail
                refine (unhide HPC).mono ?_; rintro e w3 ⟨rfl, hx3⟩; have KK2 := hide (unhide KK w3 hx3); clear HPC KK hx3 hx2 c1; go_wp2; exact unhide KK2
            · obtain ⟨hw1, hw2, hw3⟩ := sW_colon a fr en i (by omega) (by have := unhide HF; omega) (by have := unhide HF; omega) hfe; have hc0 : (⟨(sW a fr en i).toArray⟩ : ByteArray) ++ ⟨#[58]⟩ = ⟨(sW a fr en i ++ [58]).toArray⟩ := cat_to _ [58]; have hc : (⟨(sW a fr en i ++ [58]).toArray⟩ : ByteArray) ++ ⟨(bdg 16 (a.getD i 0)).toArray⟩ = ⟨(sW a fr en (i + 1)).toArray⟩ := by rw [hw1]; exact cat_to _ _
              clear HQ HN HA HF HEND HSM FIN hw1; generalize sW a fr en (i + 1) = q2 at *; generalize sW a fr en i = q at *; generalize bdg 16 (a.getD i 0) = z at *; generalize a.getD i 0 = v at *; have hlp := List.length_pos_iff.2 hw2; have hie : q.isEmpty = false := by simpa using hw2
              have ix := idx_str wr q .i64 (q.length - 1) (by omega); rw [show ((q.length - 1 : Nat) : Int) = (q.length : Int) - 1 by omega] at ix; have hyb : (((q.getD (q.length - 1) 0).toNat : Int) == 58) = false := by
                rw [beq_eq_false_iff_ne]; intro e; exact hw3 (UInt8.toNat_inj.1 (by show (q.getD (q.length - 1) 0).toNat = 58; omega))
              clear hw2 hw3; generalize q.getD (q.length - 1) 0 = y at *; have hl10 : (q ++ [58]).length ≤ 101 := by rw [List.length_append]; simp; omega
              generalize q ++ [58] = q1' at *; go_wp2_with fail
              refine (unhide HPC).mono ?_; rintro e w3 ⟨rfl, hx3⟩; have KK2 := hide (unhide KK w3 hx3); clear HPC KK hx3 hx2 c1; go_wp2; exact unhide KK2
        · have hi8e : i = 8 := by omega
          subst hi8e; have HE := hide (unhide FIN _ (unhide HEND)); have HX := hide (hxa.trans hx2); clear FIN HEND HQ HN HF HSM HA; generalize sW a fr en 8 = q at *; go_wp2; go_ret; exact ⟨unhide HE, unhide HX⟩
end Go.Proofs.YtenlampiiodkhaaGreatDoor
namespace Go.Proofs.YtenlampiiodkhaaGreatDoor
set_option linter.unusedVariables false
open Go.RowKit
theorem drop_step (ps : List (List UInt8)) (k : Nat) (h : k < ps.length) : ps.drop k = ps.getD k [] :: ps.drop (k + 1) := by
  rw [List.drop_eq_getElem_cons h]; simp [List.getD, h]
theorem shl_last (n : Nat) (h1 : 1 ≤ n) (h4 : n ≤ 4) : IntKind.u64.wrap (2 ^ (8 * (5 - n))) = ((256 ^ (5 - n) : Nat) : Int) := by
  have hn : n = 1 ∨ n = 2 ∨ n = 3 ∨ n = 4 := by omega
  rcases hn with rfl | rfl | rfl | rfl <;> decide
theorem pow_last (n : Nat) (h1 : 1 ≤ n) : 256 ^ (5 - n) ≤ 4294967296 := Nat.pow_le_pow_right (n := 256) (show 0 < 256 by decide) (show 5 - n ≤ 4 by omega)
theorem shl_mid (v x k : Nat) (hk : k ≤ 2) (hv : v ≤ k * 4294967296) (hx : x ≤ 255) : ((v : Int) + (x : Int) * 2 ^ (8 * (3 - k)) % 18446744073709551616) % 18446744073709551616 = ((v + x * 256 ^ (3 - k) : Nat) : Int) ∧ v + x * 256 ^ (3 - k) ≤ (k + 1) * 4294967296 := by
  have hk2 : k = 0 ∨ k = 1 ∨ k = 2 := by omega
  rcases hk2 with rfl | rfl | rfl <;> simp <;> omega
set_option maxHeartbeats 2000000 in
set_option maxRecDepth 100000 in
theorem rparse_any (s : List UInt8) (w : World) (hs : s.length ≤ 100000) : Calls Tryz.prog 48 #[S s] w fun e w' => e = .returned (.tuple #[.int .u32 (numV (prs s)), .int .i64 (perr (prs s))]) ∧ Ext w w' := by
  have no : prs s = none → Ending.returned (.tuple #[.int .u32 0, .int .i64 5]) = .returned (.tuple #[.int .u32 (numV (prs s)), .int .i64 (perr (prs s))]) := fun h => by rw [h]; rfl
  have yes : ∀ z : Nat, prs s = some z → Ending.returned (.tuple #[.int .u32 (z : Int), .int .i64 0]) = .returned (.tuple #[.int .u32 (numV (prs s)), .int .i64 (perr (prs s))]) := fun z h => by rw [h]; rfl
  have HC := hide (rparts_any s w (by omega)); have htl := trim_len 46 s; unfold prs at no yes ⊢; generalize Lib.trimSuffix s [46] = t at *; have hpl := pcs_len 46 t; have hn0 := List.length_pos_iff.2 (pcs_ne 46 t); generalize pcs 46 t = ps at *; have NO := hide no; have YES := hide yes; clear no yes; have HLT := hide (fun r => parO_lt (ps := ps) (r := r) (by omega)); generalize numV (parO ps) = z1 at *; generalize perr (parO ps) = z2 at *; go_enter Tryz.func48, Tryz.ntmps48; go_wp2_with fail
  refine (unhide HC).mono ?_; rintro e w1 ⟨g, cap, rfl, hr, hx⟩; clear HC; have hle := hr.le; have hmx := hr.max; simp only [List.length_map] at hle; by_cases h4 : 4 < ps.length
  · have h4' : 4 < (ps.length : Int) := by omega
    have HN := hide (unhide NO (by unfold parO; rw [if_pos h4])); clear NO YES hpl hr; go_wp2; go_ret2; exact ⟨unhide HN, hx⟩
  · have h4' : ¬ 4 < (ps.length : Int) := by omega
    have HRS := hide (rsum_par ps (by omega) (by omega)); have HCS : Hid (∀ i, i < ps.length → w1.cell? ⟨g, i, none⟩ = some (S (ps.getD i []))) := fun i hi => by
      obtain ⟨b', off', eb, hc⟩ := hr.cell i (by simpa using hi); simp only [Option.some.injEq, Addr.mk.injEq] at eb; obtain ⟨rfl, rfl, _⟩ := eb; rw [Nat.zero_add] at hc; rw [hc]; simp [List.getD, hi]
    clear hr; go_wp2_with fail
    go_loopw [5, 6] (fun n i wr => ∃ (k v : Nat), k ≤ ps.length ∧ i = .int .i64 k ∧ Hid (rsum ps.length v k (ps.drop k) = parO ps) ∧ v ≤ k * 4294967296 ∧ n = .int .u64 v ∧ wr = w1) (fun _ i _ => ps.length - (intOf i).toNat)
    case atStart => exact ⟨0, 0, by omega, rfl, by rw [List.drop_zero]; exact HRS, by omega, rfl, rfl⟩
    case round =>
      obtain ⟨k, v, hk, rfl, HV, hv, rfl, hw⟩ := hrel; subst hw; by_cases hkl : k < ps.length
      · have hkl' : (k : Int) < (ps.length : Int) := by omega
        have c0 := unhide HCS k hkl; have hpk : (ps.getD k []).length ≤ 1000000 := by
          have := hpl (ps.getD k []) (by simp [List.getD, hkl]); omega
        have NC := hide (rnumber_any (ps.getD k []) wr hpk); rw [drop_step ps k hkl, rsum] at HV; generalize ps.getD k [] = p at *; go_wp2_with fail
        refine (unhide NC).mono ?_; rintro e w5 ⟨rfl, hw⟩; subst hw; clear NC
        cases hn : rnum p with
        | none =>
          rw [hn] at HV; have HN := hide (unhide NO (unhide HV).symm); rw [show numV none = 0 from rfl, show (none : Option Nat).isSome = false from rfl]; clear NO YES hpl HV HCS hn HRS HLT; go_wp2; go_ret2; exact ⟨unhide HN, hx⟩
        | some x =>
          rw [hn] at HV; rw [show numV (some x) = (x : Int) from rfl, show (some x).isSome = true from rfl]; simp only [Option.bind_some] at HV; have hx40 : x ≤ 1099511627776 := by
            unfold rnum at hn
            split at hn
            · simp only [Option.some.injEq] at hn; omega
            · cases hn
          clear hn hpk c0; by_cases hlast : k + 1 = ps.length
          · rw [if_pos hlast] at HV; have e1 : ((k : Int) == (ps.length : Int) - 1) = true := by simp; omega
            have e2 : (k : Int) = (ps.length : Int) - 1 := by omega
            have hsl := shl_last ps.length (by omega) (by omega); have hpw := pow_last ps.length (by omega); generalize 256 ^ (5 - ps.length) = M at *; by_cases hxm : x < M
            · rw [if_pos hxm] at HV; have hxm' : ¬ (M : Int) ≤ (x : Int) := by omega
              have E2 := hide e2; have KK : Hid ((∃ (k' v' : Nat), k' ≤ ps.length ∧ Value.int .i64 ((k : Int) + 1) = .int .i64 k' ∧ Hid (rsum ps.length v' k' (ps.drop k') = parO ps) ∧ v' ≤ k' * 4294967296 ∧ Value.int .u64 ((v : Int) + (x : Int)) = .int .u64 v' ∧ True) ∧ ps.length - ((k : Int) + 1).toNat < ps.length - k) :=
                ⟨⟨k + 1, v + x, by omega, by simp, HV, by omega, by simp, trivial⟩, by omega⟩
              clear e2 HV NO YES HCS HRS HLT hpl; go_wp2; exact unhide KK
            · rw [if_neg hxm] at HV; have hxm' : (M : Int) ≤ (x : Int) := by omega
              have E2 := hide e2; have HN := hide (unhide NO (unhide HV).symm); clear e2 HV NO YES HCS HRS HLT hpl; go_wp2; go_ret2; exact ⟨unhide HN, hx⟩
          · rw [if_neg hlast] at HV; have e2 : ¬ (k : Int) = (ps.length : Int) - 1 := by omega
            have e1 : ((k : Int) == (ps.length : Int) - 1) = false := by simpa using e2
            by_cases hxm : x ≤ 255
            · rw [if_pos hxm] at HV; have hxm' : ¬ (255 : Int) < (x : Int) := by omega
              obtain ⟨q1, q2⟩ := shl_mid v x k (by omega) hv hxm; have KK : Hid (∀ z : Int, z = ((v : Int) + (x : Int) * 2 ^ (8 * (3 - k)) % 18446744073709551616) % 18446744073709551616 → (∃ (k' v' : Nat), k' ≤ ps.length ∧ Value.int .i64 ((k : Int) + 1) = .int .i64 k' ∧ Hid (rsum ps.length v' k' (ps.drop k') = parO ps) ∧ v' ≤ k' * 4294967296 ∧ Value.int .u64 z = .int .u64 v' ∧ True) ∧ ps.length - ((k : Int) + 1).toNat < ps.length - k) := fun z hz =>
                ⟨⟨k + 1, v + x * 256 ^ (3 - k), by omega, by simp, HV, q2, by rw [hz, q1], trivial⟩, by omega⟩
              clear e2 HV NO YES HCS HRS HLT hpl q1 q2; go_wp2; exact unhide KK _ rfl
            · rw [if_neg hxm] at HV; have hxm' : (255 : Int) < (x : Int) := by omega
              have HN := hide (unhide NO (unhide HV).symm); clear e2 HV NO YES HCS HRS HLT hpl; go_wp2; go_ret2; exact ⟨unhide HN, hx⟩
      · have hkl' : ¬ (k : Int) < (ps.length : Int) := by omega
        rw [List.drop_eq_nil_of_le (by omega), rsum] at HV; have hlt := unhide HLT v (unhide HV).symm; have HN := hide (unhide YES v (unhide HV).symm); have hwr : IntKind.u32.wrap (v : Int) = (v : Int) := by
          simp [IntKind.wrap, IntKind.bits, IntKind.signed]; omega
        clear NO YES HCS HRS HLT hpl HV; go_wp2; go_ret2; exact ⟨unhide HN, hx⟩
theorem shw_alt (a : Nat) : shw a = ((((((bdg 10 (a / 16777216) ++ [46]) ++ bdg 10 (a / 65536 % 256)) ++ [46]) ++ bdg 10 (a / 256 % 256)) ++ [46]) ++ bdg 10 (a % 256)) := by
  rw [shw_jn]; simp [jn]
set_option maxHeartbeats 2000000 in
set_option maxRecDepth 100000 in
theorem rshow_any (a : Nat) (w : World) (ha : a < 4294967296) : Calls Tryz.prog 21 #[.int .u32 (a : Int)] w fun e w' => e = .returned (S (shw a)) ∧ Ext w w' := by
  rw [shw_alt]; obtain ⟨q1, hq1⟩ : ∃ q, q = a / 16777216 := ⟨_, rfl⟩; obtain ⟨q2, hq2⟩ : ∃ q, q = a / 65536 % 256 := ⟨_, rfl⟩; obtain ⟨q3, hq3⟩ : ∃ q, q = a / 256 % 256 := ⟨_, rfl⟩; obtain ⟨q4, hq4⟩ : ∃ q, q = a % 256 := ⟨_, rfl⟩; rw [← hq1, ← hq2, ← hq3, ← hq4]; have r1 : (a : Int) / 16777216 = (q1 : Int) := by omega
  have r2 : bits .and .u32 ((a : Int) / 65536) 255 = (q2 : Int) := by
    have := mask8 (a / 65536) (by omega); rw [hq2, ← this]; congr 1
  have r3 : bits .and .u32 ((a : Int) / 256) 255 = (q3 : Int) := by
    have := mask8 (a / 256) (by omega); rw [hq3, ← this]; congr 1
  have r4 : bits .and .u32 (a : Int) 255 = (q4 : Int) := by
    have := mask8 a ha; rw [hq4, ← this]
  have b1 : q1 < 256 := by omega
  have b2 : q2 < 256 := by omega
  have b3 : q3 < 256 := by omega
  have b4 : q4 < 256 := by omega
  have z2 := wrap_u64 q2 b2; have z3 := wrap_u64 q3 b3; have z4 := wrap_u64 q4 b4; clear hq1 hq2 hq3 hq4; have K1 := hide (fun (v : World) => ten_any q1 v (by omega)); have K2 := hide (fun (v : World) => ten_any q2 v (by omega)); have K3 := hide (fun (v : World) => ten_any q3 v (by omega)); have K4 := hide (fun (v : World) => ten_any q4 v (by omega)); have lA := ten_len q1 (by omega); have lB := ten_len q2 (by omega); have lC := ten_len q3 (by omega); have lD := ten_len q4 (by omega); generalize bdg 10 q1 = A at *; generalize bdg 10 q2 = B' at *; generalize bdg 10 q3 = C at *; generalize bdg 10 q4 = D at *; obtain ⟨s1, es1⟩ : ∃ s : List UInt8, s = A ++ [46] := ⟨_, rfl⟩; have cs1 : (⟨A.toArray⟩ : ByteArray) ++ (⟨#[46]⟩ : ByteArray) = ⟨s1.toArray⟩ := by
    rw [es1]; exact cat_two A [46]
  have ls1 : s1.length ≤ A.length + 1 := by rw [es1, List.length_append]; exact Nat.le_refl _
  have ms1 : ¬ 9223372036854775807 < A.length + 1 := by omega
  obtain ⟨s2, es2⟩ : ∃ s : List UInt8, s = s1 ++ B' := ⟨_, rfl⟩; have cs2 : (⟨s1.toArray⟩ : ByteArray) ++ (⟨B'.toArray⟩ : ByteArray) = ⟨s2.toArray⟩ := by
    rw [es2]; exact cat_two s1 B'
  have ls2 : s2.length ≤ s1.length + B'.length := by rw [es2, List.length_append]; exact Nat.le_refl _
  have ms2 : ¬ 9223372036854775807 < s1.length + B'.length := by omega
  obtain ⟨s3, es3⟩ : ∃ s : List UInt8, s = s2 ++ [46] := ⟨_, rfl⟩; have cs3 : (⟨s2.toArray⟩ : ByteArray) ++ (⟨#[46]⟩ : ByteArray) = ⟨s3.toArray⟩ := by
    rw [es3]; exact cat_two s2 [46]
  have ls3 : s3.length ≤ s2.length + 1 := by rw [es3, List.length_append]; exact Nat.le_refl _
  have ms3 : ¬ 9223372036854775807 < s2.length + 1 := by omega
  obtain ⟨s4, es4⟩ : ∃ s : List UInt8, s = s3 ++ C := ⟨_, rfl⟩; have cs4 : (⟨s3.toArray⟩ : ByteArray) ++ (⟨C.toArray⟩ : ByteArray) = ⟨s4.toArray⟩ := by
    rw [es4]; exact cat_two s3 C
  have ls4 : s4.length ≤ s3.length + C.length := by rw [es4, List.length_append]; exact Nat.le_refl _
  have ms4 : ¬ 9223372036854775807 < s3.length + C.length := by omega
  obtain ⟨s5, es5⟩ : ∃ s : List UInt8, s = s4 ++ [46] := ⟨_, rfl⟩; have cs5 : (⟨s4.toArray⟩ : ByteArray) ++ (⟨#[46]⟩ : ByteArray) = ⟨s5.toArray⟩ := by
    rw [es5]; exact cat_two s4 [46]
  have ls5 : s5.length ≤ s4.length + 1 := by rw [es5, List.length_append]; exact Nat.le_refl _
  have ms5 : ¬ 9223372036854775807 < s4.length + 1 := by omega
  obtain ⟨s6, es6⟩ : ∃ s : List UInt8, s = s5 ++ D := ⟨_, rfl⟩; have cs6 : (⟨s5.toArray⟩ : ByteArray) ++ (⟨D.toArray⟩ : ByteArray) = ⟨s6.toArray⟩ := by
    rw [es6]; exact cat_two s5 D
  have ls6 : s6.length ≤ s5.length + D.length := by rw [es6, List.length_append]; exact Nat.le_refl _
  have ms6 : ¬ 9223372036854775807 < s5.length + D.length := by omega
  rw [← es1, ← es2, ← es3, ← es4, ← es5, ← es6]; clear es1 es2 es3 es4 es5 es6; go_enter Tryz.func21, Tryz.ntmps21; go_wp2_with fail
  refine (unhide K1 _).mono ?_; rintro e w1 ⟨rfl, hx1⟩; go_wp2_with fail
  refine (unhide K2 _).mono ?_; rintro e w2 ⟨rfl, hy⟩; have hx2 := hx1.trans hy; clear hy; go_wp2_with fail
  refine (unhide K3 _).mono ?_; rintro e w3 ⟨rfl, hy⟩; have hx3 := hx2.trans hy; clear hy; go_wp2_with fail
  refine (unhide K4 _).mono ?_; rintro e w4 ⟨rfl, hy⟩; have hx4 := hx3.trans hy; clear hy; go_wp2; go_ret; exact ⟨rfl, hx4⟩
end Go.Proofs.YtenlampiiodkhaaGreatDoor
