/-
  The document's Path.
-/
import Derived.Test.YtbmikdocjnpidaaDoorOp5
namespace Go.Proofs.YtbmikdocjnpidaaDoor
set_option linter.unusedVariables false
open Go.RowKit

theorem sizeSt (w : World) : (sizeOf 9).run Tryd.prog w = .ok 1 w := by kernel_rfl
theorem load_S {w : World} {p : Addr} {s : List UInt8} (h : w.cell? p = some (S s)) : (Instr.loadAt 9 (.pointer (some p))).run Tryd.prog w = .ok (S s) w := by
  have hu := Tryd.underlying9
  simp [Instr.loadAt, Instr.sureAddr, loadVar, isAgg, run_underlying hu, h]
theorem addr_S (w : World) (b off n cap j : Nat) (hj : j < n) : (Instr.indexAt 22 (.slice (some ⟨b, off, none⟩) n cap) (.int .i64 (j : Int))).run Tryd.prog w = .ok (.pointer (some ⟨b, off + j, none⟩)) w := by
  have he : Tryd.prog.elem 22 = 9 := by kernel_rfl
  rw [run_indexAt_slice w 22 ⟨b, off, none⟩ n cap .i64 (j : Int) (by rw [he]; exact Tryd.underlying22), if_pos ⟨by omega, by omega⟩, he, sizeSt]
  simp only [Result.andThen]
  rw [Addr.add_lit]
  simp

/-- 'append(v, ys...)', v the call's own and not nil: so the answer is not. -/
theorem wpList_appS {w : World} {ops : Array Oper} {rest : List Oper} {o : Oper} {a : Act} {Q : Exit → Act → World → Prop} (hgd : o.guard = none) (s x : Operand)
    (ho : o.op = .call { callee := .builtin .append, args := #[s, x], argTypes := #[22, 22] })
    (base g n k : Nat) (xs : List Value) (hs : a.eval s = .slice (some ⟨g, 0, none⟩) n k) (hown : w.ownsRow base 9 1 (.slice (some ⟨g, 0, none⟩) n k) n xs)
    (ao : Option Addr) (m c : Nat) (ys : List Value) (hx : a.eval x = .slice ao m c) (hl : ys.length = m) (hr : RdV w ao c ys) (hone : ∀ u ∈ ys, u.oneCell' = true) (hb : (n + m) * 17 ≤ 140737488355328) (hbase : base ≤ w.heap.size)
    (h : ∀ g' k' w', w'.ownsRow base 9 1 (.slice (some ⟨g', 0, none⟩) (n + m) k') (n + m) (xs ++ ys) → Below base w w' → wpList Tryd.prog ops Q rest (a.put o.dst (.slice (some ⟨g', 0, none⟩) (n + m) k')) w') : wpList Tryd.prog ops Q (o :: rest) a w := by
  obtain ⟨i0, hi, hz0, hz1, hz2⟩ := info_parts infoSt
  cases ao with
  | some ad =>
    refine wpList_append_own _ hgd s x 22 ho base 9 i0 (.string ⟨#[]⟩) 1 16 Tryd.underlying22 hi hz0 hz1 hz2 rfl (by decide) _ n xs hs hown ad m c ys hx (by omega) (hr.news ad rfl) hone (by unfold maxLen; omega) (by omega) hbase ?_
    intro v' w' h1 h2 h3
    rcases h1.2 with ⟨hv, _⟩ | ⟨g', k', cur, hv, _⟩
    · exact absurd (h3.1 hv).1 (by simp)
    · subst hv
      exact h g' k' w' h1 ((Below.refl _ _).grown h2 hbase (fun t ht => (hown.lt t ht).1))
  | none =>
    have h0 := hr.nil rfl
    have hle := hr.le
    have hy : ys = [] := List.eq_nil_of_length_eq_zero (by omega)
    subst hy
    have hm : m = 0 := by simpa using hl.symm
    subst hm
    subst h0
    refine wpList_append_own_none hgd s x 22 ho base 9 i0 1 Tryd.underlying22 hi _ n xs hs hown hx ?_
    exact h g k w (by simpa using hown) (Below.refl _ _)

def sw (x : UInt8) : UInt8 := if x = 92 then 47 else x

/-- One round of what the document does. -/
theorem way_drop (qs ps RR : List (List UInt8)) (k : Nat) (hk : k < ps.length) (h : way qs (ps.drop k) = RR) : way (stp qs (ps.getD k []) (decide (k + 1 = ps.length))) (ps.drop (k + 1)) = RR := by
  have hD : ps.drop k = ps.getD k [] :: ps.drop (k + 1) := by
    rw [List.drop_eq_getElem_cons hk]
    simp [List.getD, hk]
  rw [hD, way] at h
  have : (ps.drop (k + 1)).isEmpty = decide (k + 1 = ps.length) := by
    rw [Bool.eq_iff_iff, List.isEmpty_iff, List.drop_eq_nil_iff, decide_eq_true_iff]
    omega
  rw [this] at h
  exact h

set_option maxHeartbeats 4000000 in
theorem rpath_any (s : List UInt8) (sp : Bool) (ao : Option Addr) (cap : Nat) (base : List (List UInt8)) (w : World) (hs : s.length ≤ 1000) (hn : base.length ≤ 1000) (h : RdV w ao cap (base.map S)) :
    Calls Tryd.prog 15 #[S s, .bool sp, .slice ao base.length cap] w fun e w' => ∃ g c, e = .returned (.slice (some ⟨g, 0, none⟩) (par s sp base).length c) ∧
      w'.ownsRow w.heap.size 9 1 (.slice (some ⟨g, 0, none⟩) (par s sp base).length c) (par s sp base).length ((par s sp base).map S) ∧ Ext w w' := by
  obtain ⟨c, w1, hcv, hr1, hx1, hfz1⟩ := conv_bytes w s (by omega)
  have ST : Hid (∃ (k : Nat) (ts : List UInt8), k ≤ s.length ∧ Value.int .i64 0 = .int .i64 (k : Int) ∧ ts = (s.take k).map sw ++ s.drop k ∧ (sp = false → k = 0) ∧ RdV w1 (some ⟨w.heap.size, 0, none⟩) c (ts.map B) ∧ (∀ i, i < s.length → w1.frozen? ⟨w.heap.size, i, none⟩ = false) ∧ Below w.heap.size w w1) := ⟨0, s, by omega, rfl, by simp, fun _ => rfl, hr1, hfz1, hx1⟩
  have HR := hide h
  have HL : Hid (par s sp base = way base (pcs 47 (swp sp s))) := rfl
  clear hr1 hx1 hfz1 h
  obtain ⟨RR, hRR⟩ : ∃ RR, RR = par s sp base := ⟨_, rfl⟩
  rw [← hRR] at HL
  go_enter Tryd.func15, Tryd.ntmps15
  go_wp2
  clear hcv
  go_loopw [8] (fun i wr => ∃ (k : Nat) (ts : List UInt8), k ≤ s.length ∧ i = .int .i64 (k : Int) ∧ ts = (s.take k).map sw ++ s.drop k ∧ (sp = false → k = 0) ∧ RdV wr (some ⟨w.heap.size, 0, none⟩) c (ts.map B) ∧ (∀ i, i < s.length → wr.frozen? ⟨w.heap.size, i, none⟩ = false) ∧ Below w.heap.size w wr) (fun i _ => s.length - (intOf i).toNat)
  case atStart => exact unhide ST
  case round =>
    clear ST
    obtain ⟨k, ts, hk, rfl, hts, hsp, hr, hfz, hbr⟩ := hrel
    have hle := hr.le
    have hmx := hr.max
    by_cases hkl : k < s.length ∧ sp = true
    · obtain ⟨hkl, rfl⟩ := hkl
      clear HL HR hRR hsp
      obtain ⟨hlen, hget, hset, hsame⟩ := step_map sw s ts k hkl hts
      rw [List.length_map, hlen] at hle
      obtain ⟨b', off', e', hc⟩ := hr.cells (by simp; omega)
      simp only [Option.some.injEq, Addr.mk.injEq] at e'
      obtain ⟨rfl, rfl, _⟩ := e'
      have c0 : wr.cell? ⟨w.heap.size, k, none⟩ = some (B (s.getD k 0)) := by
        have := hc k (by simp; omega)
        rw [getB ts k (by omega), Nat.zero_add, hget] at this
        exact this
      have f0 := hfz k hkl
      have hkl' : (k : Int) < (s.length : Int) := by omega
      have hr2 := hr.put k (by omega) (sw (s.getD k 0))
      rw [hset] at hr2
      have hg : w.heap.size ≤ w.heap.size := Nat.le_refl _
      have YES : Hid ((∃ (k' : Nat) (ts' : List UInt8), k' ≤ s.length ∧ Value.int .i64 ((k : Int) + 1) = .int .i64 (k' : Int) ∧ ts' = (s.take k').map sw ++ s.drop k' ∧ (true = false → k' = 0) ∧ RdV (wr.setCell ⟨w.heap.size, k, none⟩ (B (sw (s.getD k 0)))) (some ⟨w.heap.size, 0, none⟩) c (ts'.map B) ∧ (∀ i, i < s.length → (wr.setCell ⟨w.heap.size, k, none⟩ (B (sw (s.getD k 0)))).frozen? ⟨w.heap.size, i, none⟩ = false) ∧ Below w.heap.size w (wr.setCell ⟨w.heap.size, k, none⟩ (B (sw (s.getD k 0))))) ∧ s.length - ((k : Int) + 1).toNat < s.length - k) :=
        ⟨⟨k + 1, _, by omega, by simp, rfl, (fun e => by cases e), hr2, fun q hq => by rw [World.frozen?_setCell]; exact hfz q hq, hbr.setCell (p := ⟨w.heap.size, k, none⟩) hg _⟩, by omega⟩
      have NO : Hid (sw (s.getD k 0) = s.getD k 0 → (∃ (k' : Nat) (ts' : List UInt8), k' ≤ s.length ∧ Value.int .i64 ((k : Int) + 1) = .int .i64 (k' : Int) ∧ ts' = (s.take k').map sw ++ s.drop k' ∧ (true = false → k' = 0) ∧ RdV wr (some ⟨w.heap.size, 0, none⟩) c (ts'.map B) ∧ (∀ i, i < s.length → wr.frozen? ⟨w.heap.size, i, none⟩ = false) ∧ Below w.heap.size w wr) ∧ s.length - ((k : Int) + 1).toNat < s.length - k) :=
        fun e => ⟨⟨k + 1, ts, by omega, by simp, hsame e, (fun e => by cases e), hr, hfz, hbr⟩, by omega⟩
      clear hr2 hc hr hfz hbr hset hsame hget hts
      generalize s.getD k 0 = x at *
      by_cases h92 : x = 92
      · subst h92
        have e : B (sw 92) = .int .u8 47 := rfl
        rw [e] at YES
        clear NO e
        go_wp2
        exact unhide YES
      · have NO2 := hide (unhide NO (by unfold sw; rw [if_neg h92]))
        have hne : (x.toNat : Int) ≠ 92 := fun e => h92 (UInt8.toNat_inj.1 (by show x.toNat = 92; omega))
        clear NO YES h92
        go_wp2
        exact unhide NO2
    · have e : ts = swp sp s := by
        cases sp with
        | false =>
          have := hsp rfl
          subst this
          simpa [swp] using hts
        | true =>
          have hk2 : k = s.length := by
            rcases Nat.lt_or_ge k s.length with hlt | hge
            · exact absurd ⟨hlt, rfl⟩ hkl
            · omega
          rw [hts, hk2, List.take_length, List.drop_length, List.append_nil]
          rfl
      -- REST
      clear hts hsp
      have hl : ts.length = s.length := by rw [e, swp_len]
      have hcv2 := oconv_str wr (some ⟨w.heap.size, 0, none⟩) s.length c ts hl hr
      have HPN : Hid (RR = way base (pcs 47 ts) ∧ (pcs 47 ts).length ≤ 1001 ∧ ∀ p ∈ pcs 47 ts, p.length ≤ 1000) := by
        refine ⟨by rw [e]; exact HL, ?_, fun p hp => ?_⟩
        · rw [pcs_count]
          have : Lib.countByte ts 47 ≤ ts.length := List.count_le_length
          omega
        · have := pcs_len 47 ts p hp
          omega
      have HCUT := hide (rcut_any ts 47 wr (by omega))
      have HRw : Hid (RdV wr ao cap (base.map S)) := (unhide HR).below hbr
      have HX0 : Hid (Ext w wr) := hbr
      have hcond : (¬ (k : Int) < (s.length : Int)) ∨ ((k : Int) < (s.length : Int) ∧ sp = false) := by
        by_cases hks : (k : Int) < (s.length : Int)
        · right
          refine ⟨hks, ?_⟩
          cases sp
          · rfl
          · exact absurd ⟨by omega, rfl⟩ hkl
        · exact .inl hks
      clear hr hfz hbr e hl hle hkl HL HR
      have h1p := List.length_pos_iff.2 (pcs_ne 47 ts)
      generalize pcs 47 ts = PS at *
      rcases hcond with hcond | ⟨hcond, rfl⟩
      all_goals
        go_wp2_with fail
        refine (unhide HCUT).mono ?_
        rintro e w5 ⟨v5, rfl, O5, B5⟩
        clear HCUT hcv2 hcond
        obtain ⟨g1, c1, rfl⟩ := owned_some O5 h1p
        have R5 := hide (RdV.of_owned_at O5)
        have hxw5 : Hid (Ext w w5) := (unhide HX0).trans B5
        have HRb := (unhide HRw).below B5
        obtain ⟨hway, hpn, hpl⟩ := unhide HPN
        clear O5 HPN HX0 HRw B5
        have om := empty_own w5 9
        have HR6 := HRb.below (Ext.alloc w5 (.cells #[] 9))
        have hbA : Below w5.heap.size w5 (w5.alloc (.cells #[] 9)) := Ext.alloc w5 _
        have hbs := hbA.size
        have hone : ∀ u ∈ base.map S, u.oneCell' = true := by intro u hu; obtain ⟨z, _, rfl⟩ := List.mem_map.1 hu; rfl
        clear HRb
        go_wp2_with (at_builtin; refine wpList_appS rfl (.tmp 35) (.tmp 36) rfl w5.heap.size _ _ _ _ rfl om _ _ _ (base.map S) rfl (List.length_map _) HR6 hone (by omega) hbs ?_)
        intro g4 c4 w4 o4 b4
        have ST2 : Hid (∃ (k g c : Nat) (qs : List (List UInt8)), Value.slice (some ⟨g4, 0, none⟩) base.length c4 = .slice (some ⟨g, 0, none⟩) qs.length c ∧ Value.int .i64 0 = .int .i64 (k : Int) ∧ k ≤ PS.length ∧ qs.length ≤ 1000 + k ∧ way qs (PS.drop k) = RR ∧ w4.ownsRow w5.heap.size 9 1 (.slice (some ⟨g, 0, none⟩) qs.length c) qs.length (qs.map S) ∧ Below w5.heap.size w5 w4) :=
          ⟨0, g4, c4, base, rfl, rfl, by omega, by omega, by rw [List.drop_zero]; exact hway.symm, o4, hbA.trans b4⟩
        have HPL := hide hpl
        clear om HR6 hone hbs hbA o4 b4 hway hpl
        go_wp2_with fail
        go_loopw [10, 11] (fun o i wr => ∃ (k g c : Nat) (qs : List (List UInt8)), o = .slice (some ⟨g, 0, none⟩) qs.length c ∧ i = .int .i64 (k : Int) ∧ k ≤ PS.length ∧ qs.length ≤ 1000 + k ∧ way qs (PS.drop k) = RR ∧ wr.ownsRow w5.heap.size 9 1 (.slice (some ⟨g, 0, none⟩) qs.length c) qs.length (qs.map S) ∧ Below w5.heap.size w5 wr) (fun _ i _ => PS.length - (intOf i).toNat)
        case atStart => exact unhide ST2
        case round =>
          clear ST2
          rename_i wz _
          obtain ⟨k, g, c, qs, rfl, rfl, hk, hqk, hw, own, hbr⟩ := hrel
          have hle := (RdV.of_owned_at own).le
          have hmx := (RdV.of_owned_at own).max
          simp only [List.length_map] at hle
          have hqk2 : qs.length ≤ 2001 := by omega
          by_cases hkl : k < PS.length
          · have hkl' : (k : Int) < (PS.length : Int) := by omega
            have c0 : wr.cell? ⟨g1, k, none⟩ = some (S (PS.getD k [])) := by
              obtain ⟨b', off', eb, hc⟩ := (unhide R5).cell k (by simpa using hkl)
              simp only [Option.some.injEq, Addr.mk.injEq] at eb
              obtain ⟨rfl, rfl, _⟩ := eb
              rw [show (PS.map S)[k]? = some (S (PS.getD k [])) by simp [List.getD, hkl], Nat.zero_add] at hc
              exact (hbr.cell (p := ⟨g1, k, none⟩) (cell_lt hc)).trans hc
            have hxl : (PS.getD k []).length ≤ 1000 := unhide HPL _ (by simp [List.getD, hkl])
            have hnx := way_drop qs PS RR k hkl hw
            have hsl := stp_len qs (PS.getD k []) (decide (k + 1 = PS.length))
            have KEY : Hid (∀ (q2 : List (List UInt8)) (g' c' : Nat) (w' : World), stp qs (PS.getD k []) (decide (k + 1 = PS.length)) = q2 → w'.ownsRow w5.heap.size 9 1 (.slice (some ⟨g', 0, none⟩) q2.length c') q2.length (q2.map S) → Below w5.heap.size w5 w' →
                (∃ (k' g c : Nat) (qs : List (List UInt8)), Value.slice (some ⟨g', 0, none⟩) q2.length c' = .slice (some ⟨g, 0, none⟩) qs.length c ∧ Value.int .i64 ((k : Int) + 1) = .int .i64 (k' : Int) ∧ k' ≤ PS.length ∧ qs.length ≤ 1000 + k' ∧ way qs (PS.drop k') = RR ∧ w'.ownsRow w5.heap.size 9 1 (.slice (some ⟨g, 0, none⟩) qs.length c) qs.length (qs.map S) ∧ Below w5.heap.size w5 w') ∧ PS.length - ((k : Int) + 1).toNat < PS.length - k) := by
              rintro q2 g' c' w' rfl o' b'
              exact ⟨⟨k + 1, g', c', _, rfl, by simp, by omega, by omega, hnx, o', b'⟩, by omega⟩
            have HD := hide (rdoub_any (PS.getD k []) wr hxl)
            have HSG := hide (fun v : World => rsing_any (PS.getD k []) v hxl)
            clear hnx hsl hw HPL R5 hxw5
            generalize PS.getD k [] = x at *
            by_cases hlast : k + 1 = PS.length
            · have E : stp qs x (decide (k + 1 = PS.length)) = stp qs x true := by rw [show decide (k + 1 = PS.length) = true by simp; omega]
              have el : ((k : Int) == (PS.length : Int) - 1) = true := by rw [beq_iff_eq]; omega
              rw [E] at KEY
              clear E hlast
              go_wp2_with fail
              refine (unhide HD).mono ?_
              rintro e w6 ⟨rfl, hx6⟩
              clear HD
              have c6 : w6.cell? ⟨g1, k, none⟩ = some (S x) := (hx6.cell (p := ⟨g1, k, none⟩) (cell_lt c0)).trans c0
              have own6 := owns_below own hx6
              have hb6 : Below w5.heap.size w5 w6 := hbr.trans (Below.mono hx6 hbr.size)
              clear own hbr hx6 c0
              have ES : ∀ b, doub x = b → stp qs x true = if b then (qs.dropLast ++ [[]]) else if sing x then (qs ++ [[]]) else qs ++ [enc x] := fun b hb => by
                rw [← hb]
                rfl
              generalize doub x = db at *
              cases db with
              | true =>
                have E := ES true rfl
                simp only [if_true] at E
                rw [E] at KEY
                clear E ES c6 HSG
                have hk0 : qs.dropLast = qs.take (qs.length - 1) := List.dropLast_eq_take
                have ownT := owned_take own6 (qs.length - 1) (by omega)
                rw [← List.map_take, ← hk0] at ownT
                have hk2 : qs.length - 1 = (max ((qs.length : Int) - 1) 0).toNat := by omega
                have HQL : (qs.dropLast.map S).length = (max ((qs.length : Int) - 1) 0).toNat := by rw [List.length_map, List.length_dropLast]; omega
                have HQ2 : qs.dropLast.length = (max ((qs.length : Int) - 1) 0).toNat := by rw [List.length_dropLast]; omega
                rw [hk2] at ownT
                have hqn : (max ((qs.length : Int) - 1) 0).toNat ≤ 3000 := by omega
                clear own6 hk0 hk2
                have RO := RdV.of_owned_at ownT
                have om := empty_own w6 9
                have hbB : Below w5.heap.size w5 (w6.alloc (.cells #[] 9)) := hb6.trans (Below.mono (Ext.alloc w6 _) hb6.size)
                have bsB := hbB.size
                have om2 := owns_mono om hb6.size
                have RO2 := RO.below (Ext.alloc w6 (.cells #[] 9))
                have honeB : ∀ u ∈ qs.dropLast.map S, u.oneCell' = true := by intro u hu; obtain ⟨z, _, rfl⟩ := List.mem_map.1 hu; rfl
                have bdB : (0 + (max ((qs.length : Int) - 1) 0).toNat) * 17 ≤ 140737488355328 := by omega
                have bdC : ((max ((qs.length : Int) - 1) 0).toNat + 1) * 17 ≤ 140737488355328 := by omega
                clear RO om ownT hb6
                go_wp2_with (at_builtin; refine wpList_appS rfl (.tmp 73) (.tmp 74) rfl w5.heap.size _ _ _ _ rfl om2 _ _ _ (qs.dropLast.map S) rfl HQL RO2 honeB bdB bsB ?_)
                intro g7 c7 w7 o7 b7
                have hb7 := hbB.trans b7
                clear om2 RO2 honeB hbB bsB b7
                have RL := RdV.lit w7 [S []] 9 (0, 0) (by simp)
                have o8 := owns_below o7 (Ext.alloc w7 (.cells #[S []] 9 (0, 0)))
                have hb8 : Below w5.heap.size w5 (w7.alloc (.cells #[S []] 9 (0, 0))) := hb7.trans (Below.mono (Ext.alloc w7 _) hb7.size)
                have bs8 := hb8.size
                have hone8 : ∀ u ∈ [S []], u.oneCell' = true := by simp [Value.oneCell']
                clear o7 hb7
                go_wp2_with (at_builtin; refine wpList_appS rfl (.tmp 75) (.tmp 76) rfl w5.heap.size _ _ _ _ rfl o8 _ _ _ [S []] rfl rfl RL hone8 bdC bs8 ?_)
                intro g9 c9 w9 o9 b9
                have hb9 := hb8.trans b9
                clear o8 hb8 bs8 RL hone8 b9
                have HLN : (qs.dropLast ++ [[]]).length = (max ((qs.length : Int) - 1) 0).toNat + 1 := by first | (rw [List.length_append, HQ2]; rfl) | (rw [List.length_append]; rfl)
                have kk := unhide KEY (qs.dropLast ++ [[]]) g9 c9 w9 rfl (by rw [HLN, List.map_append]; first | exact o9 | (rw [List.map_dropLast]; exact o9)) hb9
                rw [HLN] at kk
                have kk := hide kk
                clear o9 hb9 KEY
                go_wp2
                exact unhide kk
              | false =>
                have E := ES false rfl
                simp only [Bool.false_eq_true, if_false] at E
                rw [E] at KEY
                clear E ES
                have HS2 := hide (unhide HSG w6)
                clear HSG
                go_wp2_with fail
                refine (unhide HS2).mono ?_
                rintro e w8 ⟨rfl, hx8⟩
                clear HS2
                have c8 : w8.cell? ⟨g1, k, none⟩ = some (S x) := (hx8.cell (p := ⟨g1, k, none⟩) (cell_lt c6)).trans c6
                have own8 := owns_below own6 hx8
                have hb8 : Below w5.heap.size w5 w8 := hb6.trans (Below.mono hx8 hb6.size)
                clear own6 hb6 hx8 c6
                generalize sing x = sb at *
                cases sb with
                | true =>
                  simp only [if_true] at KEY
                  clear c8
                  have HQL : (qs.map S).length = qs.length := List.length_map _
                  have HQ2 : qs.length + 0 = qs.length := rfl
                  have RO := RdV.of_owned_at own8
                  have om := empty_own w8 9
                  have hbB : Below w5.heap.size w5 (w8.alloc (.cells #[] 9)) := hb8.trans (Below.mono (Ext.alloc w8 _) hb8.size)
                  have bsB := hbB.size
                  have om2 := owns_mono om hb8.size
                  have RO2 := RO.below (Ext.alloc w8 (.cells #[] 9))
                  have honeB : ∀ u ∈ qs.map S, u.oneCell' = true := by intro u hu; obtain ⟨z, _, rfl⟩ := List.mem_map.1 hu; rfl
                  have bdB : (0 + qs.length) * 17 ≤ 140737488355328 := by omega
                  have bdC : (qs.length + 1) * 17 ≤ 140737488355328 := by omega
                  clear RO om own8 hb8
                  go_wp2_with (at_builtin; refine wpList_appS rfl (.tmp 85) (.tmp 86) rfl w5.heap.size _ _ _ _ rfl om2 _ _ _ (qs.map S) rfl HQL RO2 honeB bdB bsB ?_)
                  intro g7 c7 w7 o7 b7
                  have hb7 := hbB.trans b7
                  clear om2 RO2 honeB hbB bsB b7
                  have RL := RdV.lit w7 [S []] 9 (0, 0) (by simp)
                  have o8 := owns_below o7 (Ext.alloc w7 (.cells #[S []] 9 (0, 0)))
                  have hb8 : Below w5.heap.size w5 (w7.alloc (.cells #[S []] 9 (0, 0))) := hb7.trans (Below.mono (Ext.alloc w7 _) hb7.size)
                  have bs8 := hb8.size
                  have hone8 : ∀ u ∈ [S []], u.oneCell' = true := by simp [Value.oneCell']
                  clear o7 hb7
                  go_wp2_with (at_builtin; refine wpList_appS rfl (.tmp 87) (.tmp 88) rfl w5.heap.size _ _ _ _ rfl o8 _ _ _ [S []] rfl rfl RL hone8 bdC bs8 ?_)
                  intro g9 c9 w9 o9 b9
                  have hb9 := hb8.trans b9
                  clear o8 hb8 bs8 RL hone8 b9
                  have HLN : (qs ++ [[]]).length = qs.length + 1 := by first | (rw [List.length_append, HQ2]; rfl) | (rw [List.length_append]; rfl)
                  have kk := unhide KEY (qs ++ [[]]) g9 c9 w9 rfl (by rw [HLN, List.map_append]; first | exact o9 | (rw [List.map_dropLast]; exact o9)) hb9
                  rw [HLN] at kk
                  have kk := hide kk
                  clear o9 hb9 KEY
                  go_wp2
                  exact unhide kk
                | false =>
                  simp only [Bool.false_eq_true, if_false] at KEY
                  have RO := RdV.of_owned_at own8
                  have hqone : ∀ u ∈ qs.map S, u.oneCell' = true := by intro u hu; obtain ⟨z, _, rfl⟩ := List.mem_map.1 hu; rfl
                  have HB8 : Hid (Below w5.heap.size w5 w8) := hb8
                  have bs8 := hb8.size
                  clear own8 hb8
                  go_wp2_with fail
                  refine wp_region_tail (A := knows [(49, emptyF w5.heap.size), (50, cellsF (qs.map S)), (51, ownF w5.heap.size (qs.map S)), (52, isF (.slice (some ⟨g1, 0, none⟩) PS.length c1)), (53, isF (.int .i64 (k : Int))), (54, isF (.pointer (some ⟨g1, k, none⟩))), (55, isF (S x)), (56, cellsF (x.map B)), (57, isF (S (Pct.encd 4 x))), (58, cellsF [S (Pct.encd 4 x)])]) 10 [49, 50, 51, 52, 53, 54, 55, 56, 57, 58] (by kernel_rfl) (by kernel_rfl) (by kernel_rfl) (by kernel_rfl) (knows_mono _) (steps_at ?_) ?_
                  · skip
                    refine allAt_cons (StepOk.three _ (ok_emptyS (.inl rfl) rfl rfl w5.heap.size bs8 (fun _ _ h => h))) ?_
                    refine allAt_cons (ok_still 1 rfl rfl 10 (.slice (some ⟨g, 0, none⟩) qs.length c) rfl (by kernel_rfl) rfl (fun wx hx => ⟨some ⟨g, 0, none⟩, c, by rw [List.length_map], RO.below hx⟩)) ?_
                    refine allAt_cons (StepOk.three _ (ok_appE (.inl rfl) rfl 49 50 rfl (by kernel_rfl) (by kernel_rfl) w5.heap.size bs8 (qs.map S) (by rw [List.length_map]; omega) hqone (fun _ _ h => h) (fun _ _ h => h) (fun _ _ h => h))) ?_
                    refine allAt_cons (StepOk.three _ (ok_fixed (.inl rfl) rfl 9 (.slice (some ⟨g1, 0, none⟩) PS.length c1) (.inl rfl) (by kernel_rfl) rfl (fun _ _ => rfl))) ?_
                    refine allAt_cons (StepOk.three _ (ok_fixed (.inl rfl) rfl 11 (.int .i64 (k : Int)) (.inl rfl) (by kernel_rfl) rfl (fun _ _ => rfl))) ?_
                    refine allAt_cons (StepOk.three _ (ok_addrS (.inl rfl) rfl 52 53 _ rfl (by kernel_rfl) (by kernel_rfl) _ _ _ (fun _ _ h => h) (fun _ _ h => h) (fun u => addr_S u g1 0 PS.length c1 k hkl) (fun _ => by rw [Nat.zero_add]; rfl))) ?_
                    refine allAt_cons (StepOk.three _ (ok_loadS (.inl rfl) rfl 54 _ rfl (by kernel_rfl) _ (S x) (fun _ _ h => h) (fun u hx => load_S ((hx.cell (p := ⟨g1, k, none⟩) (cell_lt c8)).trans c8)) (fun _ => rfl))) ?_
                    refine allAt_cons (StepOk.three _ (ok_convB (.inl rfl) rfl 55 rfl (by kernel_rfl) x (by omega) (fun _ _ h => h) (fun _ _ h => h))) ?_
                    refine allAt_cons (StepOk.three _ (ok_is (.inl rfl) rfl 25 _ _ (fun args v => run_enter 25 Tryd.f25 Tryd.func25 (by kernel_rfl) (by kernel_rfl) args v) rfl (S (Pct.encd 4 x)) (fun a v hx hf hd => by
                      obtain ⟨ao, cc, e2, hr2⟩ := hd 56 (by kernel_rfl)
                      have e3 : (#[Operand.const (.int .i64 4), Operand.tmp 56] : Array Operand).map a.eval = #[.int .i64 4, .slice ao x.length cc] := by
                        rw [List.length_map] at e2
                        simp [Act.eval, e2]
                      rw [e3]
                      exact Pct.percent_own 4 ao x.length cc x v rfl (by omega) hr2) (fun _ => rfl))) ?_
                    refine allAt_cons (StepOk.three _ (ok_oneS (.inl rfl) rfl 57 rfl (by kernel_rfl) (Pct.encd 4 x) (fun _ _ h => h) (fun _ _ h => h))) ?_
                    exact allAt_nil
                  · intro vs wy hx hkn
                    have h51 : wy.ownsRow w5.heap.size 9 1 (vs 51) (qs.map S).length (qs.map S) := hkn 51 (by kernel_rfl)
                    obtain ⟨ao8, c58, e58, r58⟩ : (cellsF [S (Pct.encd 4 x)]).holds (vs 58) wy := hkn 58 (by kernel_rfl)
                    have hby : Below w5.heap.size w5 wy := (unhide HB8).trans (Below.mono hx bs8)
                    have bsy := hby.size
                    have honeY : ∀ u ∈ [S (Pct.encd 4 x)], u.oneCell' = true := by simp [Value.oneCell']
                    rw [List.length_map] at h51
                    have e58' : vs 58 = .slice ao8 1 c58 := e58
                    have bdY : (qs.length + 1) * (16 + 1) ≤ 140737488355328 := by omega
                    simp only [putAll, e58', Act.put, List.setIfInBounds_toArray, List.set_cons_succ, List.set_cons_zero]
                    clear hkn hx e58 e58' RO hqone c8 HB8
                    generalize vs 49 = y49
                    generalize vs 50 = y50
                    generalize vs 52 = y52
                    generalize vs 53 = y53
                    generalize vs 54 = y54
                    generalize vs 55 = y55
                    generalize vs 56 = y56
                    generalize vs 57 = y57
                    generalize hv51 : vs 51 = y51 at *
                    generalize vs 58 = y58 at *
                    change wpList _ _ _ [_, _] _ _
                    go_wp2_with (at_builtin; refine wpList_app rfl (.tmp 51) (.tmp 58) 22 9 (.string ⟨#[]⟩) 16 Tryd.underlying22 infoSt rfl rfl w5.heap.size _ _ _ rfl h51 _ _ _ [S (Pct.encd 4 x)] rfl rfl r58 honeY bdY bsy ?_)
                    intro v9 w9 o9 b9
                    obtain ⟨g9, c9, rfl⟩ := owned_some o9 (by omega)
                    have hb9 := hby.trans b9
                    have HLN : (qs ++ [enc x]).length = qs.length + 1 := by rw [List.length_append]; rfl
                    have kk := unhide KEY (qs ++ [enc x]) g9 c9 w9 rfl (by rw [HLN, List.map_append]; exact o9) hb9
                    rw [HLN] at kk
                    have kk := hide kk
                    clear o9 hb9 b9 KEY h51 r58 hby bsy honeY
                    go_wp2
                    exact unhide kk

            · have E : stp qs x (decide (k + 1 = PS.length)) = stp qs x false := by rw [show decide (k + 1 = PS.length) = false by simp; omega]
              have el : ((k : Int) == (PS.length : Int) - 1) = false := by rw [beq_eq_false_iff_ne]; omega
              rw [E] at KEY
              clear E hlast
              go_wp2_with fail
              refine (unhide HD).mono ?_
              rintro e w6 ⟨rfl, hx6⟩
              clear HD
              have c6 : w6.cell? ⟨g1, k, none⟩ = some (S x) := (hx6.cell (p := ⟨g1, k, none⟩) (cell_lt c0)).trans c0
              have own6 := owns_below own hx6
              have hb6 : Below w5.heap.size w5 w6 := hbr.trans (Below.mono hx6 hbr.size)
              clear own hbr hx6 c0
              have ES : ∀ b, doub x = b → stp qs x false = if b then (qs.dropLast) else if sing x then (qs) else qs ++ [enc x] := fun b hb => by
                rw [← hb]
                simp [stp]
              generalize doub x = db at *
              cases db with
              | true =>
                have E := ES true rfl
                simp only [if_true] at E
                rw [E] at KEY
                clear E ES c6 HSG
                have hk0 : qs.dropLast = qs.take (qs.length - 1) := List.dropLast_eq_take
                have ownT := owned_take own6 (qs.length - 1) (by omega)
                rw [← List.map_take, ← hk0] at ownT
                have hk2 : qs.length - 1 = (max ((qs.length : Int) - 1) 0).toNat := by omega
                have HQL : (qs.dropLast.map S).length = (max ((qs.length : Int) - 1) 0).toNat := by rw [List.length_map, List.length_dropLast]; omega
                have HQ2 : qs.dropLast.length = (max ((qs.length : Int) - 1) 0).toNat := by rw [List.length_dropLast]; omega
                rw [hk2] at ownT
                have hqn : (max ((qs.length : Int) - 1) 0).toNat ≤ 3000 := by omega
                clear own6 hk0 hk2
                have kk := unhide KEY _ g c w6 rfl (by rw [HQ2]; exact ownT) hb6
                rw [HQ2] at kk
                have kk := hide kk
                clear ownT hb6 KEY HQL HQ2
                go_wp2
                exact unhide kk
              | false =>
                have E := ES false rfl
                simp only [Bool.false_eq_true, if_false] at E
                rw [E] at KEY
                clear E ES
                have HS2 := hide (unhide HSG w6)
                clear HSG
                go_wp2_with fail
                refine (unhide HS2).mono ?_
                rintro e w8 ⟨rfl, hx8⟩
                clear HS2
                have c8 : w8.cell? ⟨g1, k, none⟩ = some (S x) := (hx8.cell (p := ⟨g1, k, none⟩) (cell_lt c6)).trans c6
                have own8 := owns_below own6 hx8
                have hb8 : Below w5.heap.size w5 w8 := hb6.trans (Below.mono hx8 hb6.size)
                clear own6 hb6 hx8 c6
                generalize sing x = sb at *
                cases sb with
                | true =>
                  simp only [if_true] at KEY
                  clear c8
                  have kk := hide (unhide KEY _ g c w8 rfl own8 hb8)
                  clear own8 hb8 KEY
                  go_wp2
                  exact unhide kk
                | false =>
                  simp only [Bool.false_eq_true, if_false] at KEY
                  have RO := RdV.of_owned_at own8
                  have hqone : ∀ u ∈ qs.map S, u.oneCell' = true := by intro u hu; obtain ⟨z, _, rfl⟩ := List.mem_map.1 hu; rfl
                  have HB8 : Hid (Below w5.heap.size w5 w8) := hb8
                  have bs8 := hb8.size
                  clear own8 hb8
                  go_wp2_with fail
                  refine wp_region_tail (A := knows [(49, emptyF w5.heap.size), (50, cellsF (qs.map S)), (51, ownF w5.heap.size (qs.map S)), (52, isF (.slice (some ⟨g1, 0, none⟩) PS.length c1)), (53, isF (.int .i64 (k : Int))), (54, isF (.pointer (some ⟨g1, k, none⟩))), (55, isF (S x)), (56, cellsF (x.map B)), (57, isF (S (Pct.encd 4 x))), (58, cellsF [S (Pct.encd 4 x)])]) 10 [49, 50, 51, 52, 53, 54, 55, 56, 57, 58] (by kernel_rfl) (by kernel_rfl) (by kernel_rfl) (by kernel_rfl) (knows_mono _) (steps_at ?_) ?_
                  · skip
                    refine allAt_cons (StepOk.three _ (ok_emptyS (.inl rfl) rfl rfl w5.heap.size bs8 (fun _ _ h => h))) ?_
                    refine allAt_cons (ok_still 1 rfl rfl 10 (.slice (some ⟨g, 0, none⟩) qs.length c) rfl (by kernel_rfl) rfl (fun wx hx => ⟨some ⟨g, 0, none⟩, c, by rw [List.length_map], RO.below hx⟩)) ?_
                    refine allAt_cons (StepOk.three _ (ok_appE (.inl rfl) rfl 49 50 rfl (by kernel_rfl) (by kernel_rfl) w5.heap.size bs8 (qs.map S) (by rw [List.length_map]; omega) hqone (fun _ _ h => h) (fun _ _ h => h) (fun _ _ h => h))) ?_
                    refine allAt_cons (StepOk.three _ (ok_fixed (.inl rfl) rfl 9 (.slice (some ⟨g1, 0, none⟩) PS.length c1) (.inl rfl) (by kernel_rfl) rfl (fun _ _ => rfl))) ?_
                    refine allAt_cons (StepOk.three _ (ok_fixed (.inl rfl) rfl 11 (.int .i64 (k : Int)) (.inl rfl) (by kernel_rfl) rfl (fun _ _ => rfl))) ?_
                    refine allAt_cons (StepOk.three _ (ok_addrS (.inl rfl) rfl 52 53 _ rfl (by kernel_rfl) (by kernel_rfl) _ _ _ (fun _ _ h => h) (fun _ _ h => h) (fun u => addr_S u g1 0 PS.length c1 k hkl) (fun _ => by rw [Nat.zero_add]; rfl))) ?_
                    refine allAt_cons (StepOk.three _ (ok_loadS (.inl rfl) rfl 54 _ rfl (by kernel_rfl) _ (S x) (fun _ _ h => h) (fun u hx => load_S ((hx.cell (p := ⟨g1, k, none⟩) (cell_lt c8)).trans c8)) (fun _ => rfl))) ?_
                    refine allAt_cons (StepOk.three _ (ok_convB (.inl rfl) rfl 55 rfl (by kernel_rfl) x (by omega) (fun _ _ h => h) (fun _ _ h => h))) ?_
                    refine allAt_cons (StepOk.three _ (ok_is (.inl rfl) rfl 25 _ _ (fun args v => run_enter 25 Tryd.f25 Tryd.func25 (by kernel_rfl) (by kernel_rfl) args v) rfl (S (Pct.encd 4 x)) (fun a v hx hf hd => by
                      obtain ⟨ao, cc, e2, hr2⟩ := hd 56 (by kernel_rfl)
                      have e3 : (#[Operand.const (.int .i64 4), Operand.tmp 56] : Array Operand).map a.eval = #[.int .i64 4, .slice ao x.length cc] := by
                        rw [List.length_map] at e2
                        simp [Act.eval, e2]
                      rw [e3]
                      exact Pct.percent_own 4 ao x.length cc x v rfl (by omega) hr2) (fun _ => rfl))) ?_
                    refine allAt_cons (StepOk.three _ (ok_oneS (.inl rfl) rfl 57 rfl (by kernel_rfl) (Pct.encd 4 x) (fun _ _ h => h) (fun _ _ h => h))) ?_
                    exact allAt_nil
                  · intro vs wy hx hkn
                    have h51 : wy.ownsRow w5.heap.size 9 1 (vs 51) (qs.map S).length (qs.map S) := hkn 51 (by kernel_rfl)
                    obtain ⟨ao8, c58, e58, r58⟩ : (cellsF [S (Pct.encd 4 x)]).holds (vs 58) wy := hkn 58 (by kernel_rfl)
                    have hby : Below w5.heap.size w5 wy := (unhide HB8).trans (Below.mono hx bs8)
                    have bsy := hby.size
                    have honeY : ∀ u ∈ [S (Pct.encd 4 x)], u.oneCell' = true := by simp [Value.oneCell']
                    rw [List.length_map] at h51
                    have e58' : vs 58 = .slice ao8 1 c58 := e58
                    have bdY : (qs.length + 1) * (16 + 1) ≤ 140737488355328 := by omega
                    simp only [putAll, e58', Act.put, List.setIfInBounds_toArray, List.set_cons_succ, List.set_cons_zero]
                    clear hkn hx e58 e58' RO hqone c8 HB8
                    generalize vs 49 = y49
                    generalize vs 50 = y50
                    generalize vs 52 = y52
                    generalize vs 53 = y53
                    generalize vs 54 = y54
                    generalize vs 55 = y55
                    generalize vs 56 = y56
                    generalize vs 57 = y57
                    generalize hv51 : vs 51 = y51 at *
                    generalize vs 58 = y58 at *
                    change wpList _ _ _ [_, _] _ _
                    go_wp2_with (at_builtin; refine wpList_app rfl (.tmp 51) (.tmp 58) 22 9 (.string ⟨#[]⟩) 16 Tryd.underlying22 infoSt rfl rfl w5.heap.size _ _ _ rfl h51 _ _ _ [S (Pct.encd 4 x)] rfl rfl r58 honeY bdY bsy ?_)
                    intro v9 w9 o9 b9
                    obtain ⟨g9, c9, rfl⟩ := owned_some o9 (by omega)
                    have hb9 := hby.trans b9
                    have HLN : (qs ++ [enc x]).length = qs.length + 1 := by rw [List.length_append]; rfl
                    have kk := unhide KEY (qs ++ [enc x]) g9 c9 w9 rfl (by rw [HLN, List.map_append]; exact o9) hb9
                    rw [HLN] at kk
                    have kk := hide kk
                    clear o9 hb9 b9 KEY h51 r58 hby bsy honeY
                    go_wp2
                    exact unhide kk
          · have hk2 : k = PS.length := by omega
            have eq : qs = RR := by
              rw [hk2, List.drop_length] at hw
              exact hw
            have FF : Hid (∃ g' c', Ending.returned (.slice (some ⟨g, 0, none⟩) qs.length c) = .returned (.slice (some ⟨g', 0, none⟩) RR.length c') ∧ wr.ownsRow w.heap.size 9 1 (.slice (some ⟨g', 0, none⟩) RR.length c') RR.length (RR.map S) ∧ Ext w wr) := by
              rw [← eq]
              exact ⟨g, c, rfl, owns_mono own (unhide hxw5).size, (unhide hxw5).then hbr (unhide hxw5).size⟩
            clear own hbr hxw5 R5 HPL hw eq hle hmx
            go_wp2
            go_ret
            rw [hRR] at FF
            exact unhide FF
end Go.Proofs.YtbmikdocjnpidaaDoor
