/-
  Show of package ip6.
-/
import Derived.Test.YtfaobhaogenijaaDoorI6V
namespace Go.Proofs.YtfaobhaogenijaaDoor
set_option linter.unusedVariables false
open Go.RowKit

theorem wpList_txt {w : World} {ops : Array Oper} {rest : List Oper} {o : Oper} {a : Act} {Q : Exit → Act → World → Prop} (hgd : o.guard = none) (sl x : Operand)
    (ho : o.op = .call { callee := .builtin .append, args := #[sl, x], argTypes := #[40, 9] })
    (base : Nat) (v : Value) (n : Nat) (xs : List Value) (hs : a.eval sl = v) (hown : w.ownsRow base 5 1 v n xs) (tx : List UInt8) (ht : tx = [58] ∨ tx = [58, 58]) (hx : a.eval x = .string ⟨tx.toArray⟩)
    (hn : n ≤ 1000) (hbase : base ≤ w.heap.size)
    (h : ∀ v' w', w'.ownsRow base 5 1 v' (n + tx.length) (xs ++ tx.map B) → Below base w w' → wpList Tryd.prog ops Q rest (a.put o.dst v') w') : wpList Tryd.prog ops Q (o :: rest) a w := by
  obtain ⟨i0, hi, hz0, hz1, hz2⟩ := info_parts infoB4
  rcases ht with rfl | rfl
  · refine Lib.wpList_append_own_string (w := w) hgd sl x 40 9 ho base 5 i0 Tryd.underlying40 Tryd.underlying9 hi hz0 hz1 hz2 v n xs hs hown ⟨#[58]⟩ hx (by unfold maxLen; show n + 1 ≤ _; omega) (by show n + 1 ≤ _; omega) hbase ?_
    intro v' w' h1 h2 _
    exact h v' w' h1 ((Below.refl _ _).grown h2 hbase (fun t ht => (hown.lt t ht).1))
  · refine Lib.wpList_append_own_string (w := w) hgd sl x 40 9 ho base 5 i0 Tryd.underlying40 Tryd.underlying9 hi hz0 hz1 hz2 v n xs hs hown ⟨#[58, 58]⟩ hx (by unfold maxLen; show n + 2 ≤ _; omega) (by show n + 2 ≤ _; omega) hbase ?_
    intro v' w' h1 h2 _
    exact h v' w' h1 ((Below.refl _ _).grown h2 hbase (fun t ht => (hown.lt t ht).1))

theorem wrap64u (u : Nat) (h : u < 65536) : IntKind.u64.wrap (u : Int) = (u : Int) := by
  simp [IntKind.wrap, IntKind.bits, IntKind.signed]
  omega
set_option maxHeartbeats 1000000 in
set_option maxRecDepth 100000 in
theorem iapp16_any (B0 n u : Nat) (hu : u < 65536) (sv : Value) (xs : List Value) (w : World) (hown : w.ownsRow B0 5 1 sv n xs) (hBw : B0 ≤ w.heap.size) (hlim : n ≤ 1000) (tb : Tb8 w) :
    Calls Tryd.prog 29 #[sv, .int .u64 (u : Int), .int .i64 16] w fun e w' => ∃ v', e = .returned v' ∧ w'.ownsRow B0 5 1 v' (n + (bdg 16 u).length) (xs ++ (bdg 16 u).map B) ∧ Below B0 w w' := by
  have HC := hide (bits_any B0 n u hu sv xs w hown hBw hlim tb)
  generalize (bdg 16 u).map B = ds at *
  generalize (bdg 16 u).length = dl at *
  clear hown
  go_enter Tryd.func29, Tryd.ntmps29
  go_wp2_with fail
  refine (unhide HC).mono ?_
  rintro e w2 ⟨v', rfl, h1, h2⟩
  clear HC
  have H1 := hide h1
  have H2 := hide h2
  clear h1 h2
  go_wp2
  go_ret
  exact ⟨v', rfl, unhide H1, unhide H2⟩
set_option maxHeartbeats 1000000 in
set_option maxRecDepth 100000 in
theorem app16_any (B0 n u : Nat) (hu : u < 65536) (sv : Value) (xs : List Value) (w : World) (hown : w.ownsRow B0 5 1 sv n xs) (hBw : B0 ≤ w.heap.size) (hlim : n ≤ 1000) (tb : Tb8 w) :
    Calls Tryd.prog 23 #[sv, .int .u64 (u : Int), .int .i64 16] w fun e w' => ∃ v', e = .returned v' ∧ w'.ownsRow B0 5 1 v' (n + (bdg 16 u).length) (xs ++ (bdg 16 u).map B) ∧ Below B0 w w' := by
  have HC := hide (iapp16_any B0 n u hu sv xs w hown hBw hlim tb)
  generalize (bdg 16 u).map B = ds at *
  generalize (bdg 16 u).length = dl at *
  clear hown
  go_enter Tryd.func23, Tryd.ntmps23
  go_wp2_with fail
  refine (unhide HC).mono ?_
  rintro e w2 ⟨v', rfl, h1, h2⟩
  clear HC
  have H1 := hide h1
  have H2 := hide h2
  clear h1 h2
  go_wp2
  go_ret
  exact ⟨v', rfl, unhide H1, unhide H2⟩

theorem RdV.low {w w' : World} {ao : Option Addr} {cap b0 : Nat} {vs : List Value} (h : RdV w ao cap vs) (hb0 : ∀ b off, ao = some ⟨b, off, none⟩ → b < b0) (hb : Below b0 w w') : RdV w' ao cap vs := by
  refine ⟨h.le, h.max, h.nil, fun i hi => ?_⟩
  obtain ⟨b, off, e, hc⟩ := h.cell i hi
  refine ⟨b, off, e, ?_⟩
  rw [← hc]
  exact hb.cell (p := ⟨b, off + i, none⟩) (hb0 b off e)
theorem jb_snoc (c : UInt8) (q : List UInt8) : ∀ ps : List (List UInt8), ps ≠ [] → jb c (ps ++ [q]) = jb c ps ++ c :: q
  | [], h => absurd rfl h
  | [p], _ => rfl
  | p :: r :: t, _ => by
    show p ++ c :: jb c ((r :: t) ++ [q]) = _
    rw [jb_snoc c q (r :: t) (by simp)]
    simp [jb]
theorem jp_snoc (l : List Nat) (v : Nat) (h : l ≠ []) : jp (l ++ [v]) = jp l ++ [58] ++ bdg 16 v := by
  unfold jp
  rw [List.map_append, List.map_singleton, jb_snoc 58 _ _ (by simpa using h)]
  simp
theorem bdg16_len (v : Nat) (h : v < 65536) : (bdg 16 v).length ≤ 4 := (hexW_parts (hexW_bdg v h)).2.1
theorem jp_len : ∀ l : List Nat, small l → (jp l).length ≤ 5 * l.length
  | [], _ => by simp [jp, jb]
  | [v], h => by
    have := bdg16_len v (h v (by simp))
    show (bdg 16 v).length ≤ _
    simp
    omega
  | v :: u :: t, h => by
    have h1 := bdg16_len v (h v (by simp))
    have h2 := jp_len (u :: t) fun x hx => h x (List.mem_cons_of_mem _ hx)
    show (bdg 16 v ++ 58 :: jp (u :: t)).length ≤ _
    rw [List.length_append, List.length_cons, List.length_cons]
    omega

set_option maxHeartbeats 4000000 in
set_option maxRecDepth 100000 in
theorem appendPieces_any (B0 n : Nat) (sv : Value) (xs : List Value) (ao : Option Addr) (cap ln : Nat) (l : List Nat) (w : World) (hln : l.length = ln) (hown : w.ownsRow B0 5 1 sv n xs) (hBw : B0 ≤ w.heap.size) (hlim : n ≤ 100) (h8 : l.length ≤ 8) (hsm : small l)
    (hrd : RdV w ao cap (l.map U)) (hlow : ∀ b off, ao = some ⟨b, off, none⟩ → b < B0) (tb : TbF B0 w) :
    Calls Tryd.prog 13 #[sv, .slice ao ln cap] w fun e w' => ∃ v', e = .returned v' ∧ w'.ownsRow B0 5 1 v' (n + (jp l).length) (xs ++ (jp l).map B) ∧ Below B0 w w' := by
  subst hln
  have hle := hrd.le
  have hmx := hrd.max
  rw [List.length_map] at hle
  have HRD := hide (fun w' (hb : Below B0 w w') => hrd.low hlow hb)
  have HTB := hide (fun w' (hb : Below B0 w w') => hb.size)
  have HT := hide tb
  have HS := hide hsm
  have ST : Hid (w.ownsRow B0 5 1 sv (n + (jp (l.take 0)).length) (xs ++ (jp (l.take 0)).map B)) := by
    show w.ownsRow B0 5 1 sv (n + 0) (xs ++ [])
    rw [List.append_nil]
    exact hown
  clear hrd hown tb hsm
  go_enter Tryd.func13, Tryd.ntmps13
  go_wp2_with fail
  go_loopw [0, 9] (fun v i wr => ∃ k : Nat, k ≤ l.length ∧ i = .int .i64 k ∧ Hid (wr.ownsRow B0 5 1 v (n + (jp (l.take k)).length) (xs ++ (jp (l.take k)).map B)) ∧ Below B0 w wr) (fun _ i _ => l.length - (intOf i).toNat)
  case atStart => exact ⟨0, by omega, rfl, ST, Below.refl _ _⟩
  case round =>
    clear ST
    obtain ⟨k, hk, rfl, OWN, hb⟩ := hrel
    have own := unhide OWN
    have hbs := hb.size
    by_cases hkl : k < l.length
    · have hkl' : (k : Int) < (l.length : Int) := by omega
      obtain ⟨bb, off, hao, hc⟩ := (unhide HRD wr hb).cells (by simp; omega)
      subst hao
      have c0 : wr.cell? ⟨bb, off + k, none⟩ = some (U (l.getD k 0)) := by
        rw [hc k (by simpa using hkl)]
        simp [List.getD, hkl]
      have hlk := jp_len (l.take k) fun v hv => unhide HS v (List.mem_of_mem_take hv)
      rw [List.length_take] at hlk
      have hvs : l.getD k 0 < 65536 := unhide HS _ (by simp [List.getD, hkl])
      have HT2 := hide (take_snoc l k 0 hkl)
      have hTB := (unhide HT).on hb
      have hw64 : IntKind.u64.wrap ((l.getD k 0 : Nat) : Int) = ((l.getD k 0 : Nat) : Int) := wrap64u _ hvs
      clear hc OWN
      by_cases hk0 : 0 < k
      · have hk0' : (0 : Int) < (k : Int) := by omega
        have HJ := hide (jp_snoc (l.take k) (l.getD k 0) (by
          intro e
          have := congrArg List.length e
          rw [List.length_take, List.length_nil] at this
          omega))
        generalize l.getD k 0 = v at *
        generalize hjl : jp (l.take k) = J at *
        have hJ40 : n + J.length ≤ 1000 := by omega
        go_wp2_with (at_builtin; refine wpList_txt rfl (.tmp 16) (.const (.string ⟨#[58]⟩)) rfl B0 _ _ _ rfl own [58] (.inl rfl) rfl hJ40 (by omega) ?_)
        intro v1 w1 o1 b1
        have hs1 := b1.size
        have HC := hide (app16_any B0 (n + J.length + 1) v hvs v1 _ w1 o1 (by omega) (by omega) (hTB.on b1).tb)
        have hb1 := hb.trans b1
        clear own o1 b1
        go_wp2_with fail
        refine (unhide HC).mono ?_
        rintro e w2 ⟨v2, rfl, o2, b2⟩
        clear HC
        have KK : Hid ((∃ k' : Nat, k' ≤ l.length ∧ Value.int .i64 ((k : Int) + 1) = .int .i64 k' ∧ Hid (w2.ownsRow B0 5 1 v2 (n + (jp (l.take k')).length) (xs ++ (jp (l.take k')).map B)) ∧ Below B0 w w2) ∧ l.length - ((k : Int) + 1).toNat < l.length - k) := by
          refine ⟨⟨k + 1, by omega, by simp, ?_, hb1.trans b2⟩, by omega⟩
          show w2.ownsRow _ _ _ _ _ _
          rw [unhide HT2, unhide HJ]
          simpa [Nat.add_assoc, Nat.add_comm 1 (bdg 16 v).length] using o2
        clear o2 b2 HJ HT2
        go_wp2
        exact unhide KK
      · have ht0 : l.take k = [] := by
          rw [show k = 0 by omega]
          rfl
        have hk0' : ¬ (0 : Int) < (k : Int) := by omega
        have HJ : Hid (jp (l.take (k + 1)) = bdg 16 (l.getD k 0)) := by
          show _ = _
          rw [unhide HT2, ht0]
          rfl
        generalize l.getD k 0 = v at *
        have own' := own
        rw [ht0, show jp [] = [] from rfl, List.map_nil, List.append_nil, List.length_nil, Nat.add_zero] at own'
        have HC := hide (app16_any B0 n v hvs _ xs wr own' (by omega) (by omega) hTB.tb)
        clear own own' ht0
        go_wp2_with fail
        refine (unhide HC).mono ?_
        rintro e w2 ⟨v2, rfl, o2, b2⟩
        clear HC
        have KK : Hid ((∃ k' : Nat, k' ≤ l.length ∧ Value.int .i64 ((k : Int) + 1) = .int .i64 k' ∧ Hid (w2.ownsRow B0 5 1 v2 (n + (jp (l.take k')).length) (xs ++ (jp (l.take k')).map B)) ∧ Below B0 w w2) ∧ l.length - ((k : Int) + 1).toNat < l.length - k) := by
          refine ⟨⟨k + 1, by omega, by simp, ?_, hb.trans b2⟩, by omega⟩
          show w2.ownsRow _ _ _ _ _ _
          rw [unhide HJ]
          exact o2
        clear o2 b2 HJ HT2
        go_wp2
        exact unhide KK
    · have hkl' : ¬ (k : Int) < (l.length : Int) := by omega
      rw [show l.take k = l from List.take_of_length_le (by omega)] at OWN
      clear own HRD HT HS
      go_wp2
      go_ret
      exact ⟨_, rfl, unhide OWN, hb⟩
end Go.Proofs.YtfaobhaogenijaaDoor
