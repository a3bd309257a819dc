/-
  The document's own functions: small letters, dots, ways' text, and two rows that are the same.
-/
import Derived.Test.YtbmikdocjnpidaaDoorPthD
import Derived.BigQuiet
namespace Go.Proofs.YtbmikdocjnpidaaDoor
set_option linter.unusedVariables false
open Go.RowKit

theorem S_inj {x y : List UInt8} : ((⟨x.toArray⟩ : ByteArray) = ⟨y.toArray⟩) ↔ x = y := by
  constructor
  · intro h
    have := congrArg (fun b : ByteArray => b.data.toList) h
    simpa using this
  · rintro rfl
    rfl

/-- SameTexts of two rows of the same texts. -/
theorem sameT_some (g off cap g2 off2 cap2 : Nat) (ps : List (List UInt8)) (w : World) (hm : ps.length ≤ 1000000) (h : RdV w (some ⟨g, off, none⟩) cap (ps.map S)) (h2 : RdV w (some ⟨g2, off2, none⟩) cap2 (ps.map S)) :
    Calls Tryd.prog 14 #[.slice (some ⟨g, off, none⟩) ps.length cap, .slice (some ⟨g2, off2, none⟩) ps.length cap2] w fun e w' => e = .returned (.bool true) ∧ Ext w w' := by
  have hle := h.le
  have hmx := h.max
  have hle2 := h2.le
  have hmx2 := h2.max
  simp only [List.length_map] at hle hle2
  have hc : ∀ i, i < ps.length → w.cell? ⟨g, off + i, none⟩ = some (S (ps.getD i [])) := fun i hi => by
    obtain ⟨b', off', eb, hc⟩ := h.cell i (by simpa using hi)
    simp only [Option.some.injEq, Addr.mk.injEq] at eb
    obtain ⟨rfl, rfl, _⟩ := eb
    rw [hc]
    simp [List.getD, hi]
  have hc2 : ∀ i, i < ps.length → w.cell? ⟨g2, off2 + i, none⟩ = some (S (ps.getD i [])) := fun i hi => by
    obtain ⟨b', off', eb, hc⟩ := h2.cell i (by simpa using hi)
    simp only [Option.some.injEq, Addr.mk.injEq] at eb
    obtain ⟨rfl, rfl, _⟩ := eb
    rw [hc]
    simp [List.getD, hi]
  clear h h2
  go_enter Tryd.func14, Tryd.ntmps14
  go_wp2
  go_loopw [5] (fun i wr => ∃ k : Nat, k ≤ ps.length ∧ i = .int .i64 k ∧ ∃ n, wr = w.drewN n) (fun i _ => ps.length - (intOf i).toNat)
  case atStart => exact ⟨0, Nat.zero_le _, rfl, 0, rfl⟩
  case round =>
    obtain ⟨k, hk, rfl, n, rfl⟩ := hrel
    by_cases hkl : k < ps.length
    · have c1 := hc k hkl
      have c2 := hc2 k hkl
      have i1 : (0 : Int) ≤ (k : Int) := by omega
      have i2 : (k : Int) < (ps.length : Int) := by omega
      clear hc hc2
      generalize ps.getD k [] = p at *
      go_wp2_with fail
      go_quiet (fail)
      go_wp2
      go_roundw
      case rel => exact ⟨k + 1, by omega, by go_num, n + nq, rfl⟩
      case measure => simp [intOf]; omega
    · go_wp2
      go_ret
      exact ⟨rfl, Ext.drewN _ _⟩

/-- One place after another is made anew. -/
theorem step_map (f : UInt8 → UInt8) (t ts : List UInt8) (k : Nat) (hk : k < t.length) (h : ts = (t.take k).map f ++ t.drop k) : ts.length = t.length ∧ ts.getD k 0 = t.getD k 0 ∧ ts.set k (f (t.getD k 0)) = (t.take (k + 1)).map f ++ t.drop (k + 1) ∧
    (f (t.getD k 0) = t.getD k 0 → ts = (t.take (k + 1)).map f ++ t.drop (k + 1)) := by
  have hT := take_snoc t k 0 hk
  have hD : t.drop k = t.getD k 0 :: t.drop (k + 1) := by
    rw [List.drop_eq_getElem_cons hk]
    simp [List.getD, hk]
  have hl : ((t.take k).map f).length = k := by simp; omega
  subst h
  refine ⟨by simp; omega, ?_, ?_, fun e => ?_⟩
  · rw [List.getD, List.getElem?_append_right (by omega), hl, hD]
    simp
  · rw [List.set_append, if_neg (by omega), hl, hD, hT]
    simp
  · rw [hT, List.map_append, hD]
    simpa [List.getD] using e.symm

/-- A small letter. -/
def lo (x : UInt8) : UInt8 := if (65 ≤ x.toNat ∧ x.toNat ≤ 90) then UInt8.ofNat (x.toNat + 32) else x
abbrev low (s : List UInt8) : List UInt8 := s.map lo

set_option maxHeartbeats 1000000 in
theorem rlow_any (s : List UInt8) (w : World) (hs : s.length ≤ 1000) : Calls Tryd.prog 23 #[S s] w fun e w' => e = .returned (S (low s)) ∧ Ext w w' := by
  obtain ⟨c, w1, hcv, hr1, hx1, hfz1⟩ := conv_bytes w s (by omega)
  have ST : Hid (∃ (k : Nat) (ts : List UInt8), k ≤ s.length ∧ Value.int .i64 0 = .int .i64 (k : Int) ∧ ts = (s.take k).map lo ++ s.drop k ∧ RdV w1 (some ⟨w.heap.size, 0, none⟩) c (ts.map B) ∧ (∀ i, i < s.length → w1.frozen? ⟨w.heap.size, i, none⟩ = false) ∧ Below w.heap.size w w1) := ⟨0, s, by omega, rfl, by simp, hr1, hfz1, hx1⟩
  clear hr1 hx1 hfz1
  go_enter Tryd.func23, Tryd.ntmps23
  go_wp2
  clear hcv
  go_loopw [4] (fun i wr => ∃ (k : Nat) (ts : List UInt8), k ≤ s.length ∧ i = .int .i64 (k : Int) ∧ ts = (s.take k).map lo ++ s.drop k ∧ RdV wr (some ⟨w.heap.size, 0, none⟩) c (ts.map B) ∧ (∀ i, i < s.length → wr.frozen? ⟨w.heap.size, i, none⟩ = false) ∧ Below w.heap.size w wr) (fun i _ => s.length - (intOf i).toNat)
  case atStart => exact unhide ST
  case round =>
    clear ST
    obtain ⟨k, ts, hk, rfl, hts, hr, hfz, hbr⟩ := hrel
    have hle := hr.le
    have hmx := hr.max
    by_cases hkl : k < s.length
    · obtain ⟨hlen, hget, hset, hsame⟩ := step_map lo s ts k hkl hts
      rw [List.length_map, hlen] at hle
      obtain ⟨b', off', e', hc⟩ := hr.cells (by simp; omega)
      simp only [Option.some.injEq, Addr.mk.injEq] at e'
      obtain ⟨rfl, rfl, _⟩ := e'
      have c0 : wr.cell? ⟨w.heap.size, k, none⟩ = some (B (s.getD k 0)) := by
        have := hc k (by simp; omega)
        rw [getB ts k (by omega), Nat.zero_add, hget] at this
        exact this
      have f0 := hfz k hkl
      have hkl' : (k : Int) < (s.length : Int) := by omega
      have hr2 := hr.put k (by omega) (lo (s.getD k 0))
      rw [hset] at hr2
      have hg : w.heap.size ≤ w.heap.size := Nat.le_refl _
      have YES : Hid ((∃ (k' : Nat) (ts' : List UInt8), k' ≤ s.length ∧ Value.int .i64 ((k : Int) + 1) = .int .i64 (k' : Int) ∧ ts' = (s.take k').map lo ++ s.drop k' ∧ RdV (wr.setCell ⟨w.heap.size, k, none⟩ (B (lo (s.getD k 0)))) (some ⟨w.heap.size, 0, none⟩) c (ts'.map B) ∧ (∀ i, i < s.length → (wr.setCell ⟨w.heap.size, k, none⟩ (B (lo (s.getD k 0)))).frozen? ⟨w.heap.size, i, none⟩ = false) ∧ Below w.heap.size w (wr.setCell ⟨w.heap.size, k, none⟩ (B (lo (s.getD k 0))))) ∧ s.length - ((k : Int) + 1).toNat < s.length - k) :=
        ⟨⟨k + 1, _, by omega, by simp, rfl, hr2, fun q hq => by rw [World.frozen?_setCell]; exact hfz q hq, hbr.setCell (p := ⟨w.heap.size, k, none⟩) hg _⟩, by omega⟩
      have NO : Hid (lo (s.getD k 0) = s.getD k 0 → (∃ (k' : Nat) (ts' : List UInt8), k' ≤ s.length ∧ Value.int .i64 ((k : Int) + 1) = .int .i64 (k' : Int) ∧ ts' = (s.take k').map lo ++ s.drop k' ∧ RdV wr (some ⟨w.heap.size, 0, none⟩) c (ts'.map B) ∧ (∀ i, i < s.length → wr.frozen? ⟨w.heap.size, i, none⟩ = false) ∧ Below w.heap.size w wr) ∧ s.length - ((k : Int) + 1).toNat < s.length - k) :=
        fun e => ⟨⟨k + 1, ts, by omega, by simp, hsame e, hr, hfz, hbr⟩, by omega⟩
      clear hr2 hc hr hfz hbr hset hsame hget hts
      generalize s.getD k 0 = x at *
      have hx := UInt8.toNat_lt x
      by_cases h65 : (65 : Int) ≤ (x.toNat : Int)
      · by_cases h90 : (x.toNat : Int) ≤ 90
        · have e : B (lo x) = .int .u8 ((x.toNat : Int) + 32) := by
            unfold lo
            rw [if_pos (by omega)]
            show Value.int .u8 ((UInt8.ofNat (x.toNat + 32)).toNat : Int) = _
            rw [UInt8.toNat_ofNat', Nat.mod_eq_of_lt (by omega)]
            simp
          rw [e] at YES
          have rw1 : IntKind.u8.wrap ((x.toNat : Int) + 32) = (x.toNat : Int) + 32 := by rw [IntKind.wrap_u8]; omega
          clear NO e
          go_wp2
          exact unhide YES
        · have NO2 := hide (unhide NO (by unfold lo; rw [if_neg (by omega)]))
          clear NO YES
          go_wp2
          exact unhide NO2
      · have NO2 := hide (unhide NO (by unfold lo; rw [if_neg (by omega)]))
        clear NO YES
        go_wp2
        exact unhide NO2
    · have hk2 : k = s.length := by omega
      have e : ts = low s := by
        rw [hts, hk2, List.take_length, List.drop_length, List.append_nil]
      clear hts
      subst e
      have hl : (low s).length = s.length := List.length_map _
      have hcv2 := oconv_str wr (some ⟨w.heap.size, 0, none⟩) s.length c (low s) hl hr
      have FF : Hid (Ext w wr) := hbr
      obtain ⟨L, hL⟩ : ∃ L, L = low s := ⟨_, rfl⟩
      rw [← hL] at hcv2
      clear hr hfz hbr hl hle
      go_wp2
      go_ret
      exact ⟨by rw [← hL]; rfl, unhide FF⟩

theorem lo_at (c : UInt8) (hc : (65 ≤ c.toNat ∧ c.toNat ≤ 90) = False) (hc2 : ¬ (97 ≤ c.toNat ∧ c.toNat ≤ 122)) (x : UInt8) : lo x = c ↔ x = c := by
  have hc' : ¬ (65 ≤ c.toNat ∧ c.toNat ≤ 90) := by rw [hc]; exact id
  have hx := UInt8.toNat_lt x
  unfold lo
  split
  · rename_i h
    constructor
    · intro e
      have := congrArg UInt8.toNat e
      rw [UInt8.toNat_ofNat', Nat.mod_eq_of_lt (by omega)] at this
      omega
    · rintro rfl
      exact absurd h hc'
  · exact Iff.rfl
theorem lo_46 (x : UInt8) : lo x = 46 ↔ x = 46 := lo_at 46 (by decide) (by decide) x
theorem lo_37 (x : UInt8) : lo x = 37 ↔ x = 37 := lo_at 37 (by decide) (by decide) x
theorem lo_50 (x : UInt8) : lo x = 50 ↔ x = 50 := lo_at 50 (by decide) (by decide) x
theorem lo_e (x : UInt8) : lo x = 101 ↔ x = 101 ∨ x = 69 := by
  have hx := UInt8.toNat_lt x
  unfold lo
  split
  · rename_i h
    constructor
    · intro e
      have := congrArg UInt8.toNat e
      rw [UInt8.toNat_ofNat', Nat.mod_eq_of_lt (by omega)] at this
      have e2 : (101 : UInt8).toNat = 101 := rfl
      exact .inr (UInt8.toNat_inj.1 (by show x.toNat = 69; omega))
    · rintro (rfl | rfl)
      · exact absurd h (by decide)
      · rfl
  · rename_i h
    constructor
    · exact .inl
    · rintro (rfl | rfl)
      · rfl
      · exact absurd h (by decide)

/-- The document's words for dots. -/
theorem rsing_eq (s : List UInt8) : (s == [46] || low s == [37, 50, 101]) = sing s := by
  rw [Bool.eq_iff_iff, sing_iff, Bool.or_eq_true, beq_iff_eq, beq_iff_eq]
  simp only [low, List.map_eq_cons_iff, List.map_eq_nil_iff, lo_37, lo_50, lo_e, ones, List.mem_cons, List.not_mem_nil, or_false]
  constructor
  · rintro (h | ⟨a, l, rfl, rfl, b, m, rfl, rfl, c, n, rfl, (rfl | rfl), rfl⟩)
    · exact .inl h
    · exact .inr (.inl rfl)
    · exact .inr (.inr rfl)
  · rintro (h | rfl | rfl)
    · exact .inl h
    · exact .inr ⟨_, _, rfl, rfl, _, _, rfl, rfl, _, _, rfl, .inl rfl, rfl⟩
    · exact .inr ⟨_, _, rfl, rfl, _, _, rfl, rfl, _, _, rfl, .inr rfl, rfl⟩
theorem low_app (a b : List UInt8) : low (a ++ b) = low a ++ low b := List.map_append ..
theorem low_ones {o : List UInt8} (h : o ∈ ones) : low o = [46] ∨ low o = [37, 50, 101] := by
  simp only [ones, List.mem_cons, List.not_mem_nil, or_false] at h
  rcases h with rfl | rfl | rfl
  · exact .inl (by decide)
  · exact .inr (by decide)
  · exact .inr (by decide)
theorem ones_low {s : List UInt8} (h : low s = [46] ∨ low s = [37, 50, 101]) : s ∈ ones := by
  simp only [low, List.map_eq_cons_iff, List.map_eq_nil_iff, lo_37, lo_46, lo_50, lo_e] at h
  rcases h with ⟨a, l, rfl, rfl, rfl⟩ | ⟨a, l, rfl, rfl, b, m, rfl, rfl, c, n, rfl, (rfl | rfl), rfl⟩ <;> simp [ones]
theorem rdoub_eq (s : List UInt8) : (low s == [46, 46] || low s == [46, 37, 50, 101] || low s == [37, 50, 101, 46] || low s == [37, 50, 101, 37, 50, 101]) = doub s := by
  rw [Bool.eq_iff_iff, doub_iff]
  simp only [Bool.or_eq_true, beq_iff_eq]
  have two : ∀ p q : List UInt8, low s = p ++ q → (p = [46] ∨ p = [37, 50, 101]) → (q = [46] ∨ q = [37, 50, 101]) → ∃ o ∈ ones, ∃ p ∈ ones, s = o ++ p := by
    intro p q h hp hq
    obtain ⟨a, b, rfl, ha, hb⟩ := List.map_eq_append_iff.1 h
    exact ⟨a, ones_low (by show low a = _ ∨ low a = _; rw [show low a = p from ha]; exact hp), b, ones_low (by rw [show low b = q from hb]; exact hq), rfl⟩
  constructor
  · rintro (((h | h) | h) | h)
    · exact two [46] [46] h (.inl rfl) (.inl rfl)
    · exact two [46] [37, 50, 101] h (.inl rfl) (.inr rfl)
    · exact two [37, 50, 101] [46] h (.inr rfl) (.inl rfl)
    · exact two [37, 50, 101] [37, 50, 101] h (.inr rfl) (.inr rfl)
  · rintro ⟨o, ho, p, hp, rfl⟩
    rw [low_app]
    rcases low_ones ho with e | e <;> rcases low_ones hp with e2 | e2 <;> rw [e, e2] <;> simp

set_option maxHeartbeats 1000000 in
theorem rsing_any (s : List UInt8) (w : World) (hs : s.length ≤ 1000) : Calls Tryd.prog 11 #[S s] w fun e w' => e = .returned (.bool (sing s)) ∧ Ext w w' := by
  have HLW := hide (fun v => rlow_any s v hs)
  have e1 := rsing_eq s
  generalize sing s = q at *
  by_cases h : s = [46]
  · subst h
    have e2 : q = true := by rw [← e1]; rfl
    clear HLW e1
    go_enter Tryd.func11, Tryd.ntmps11
    go_wp2
    go_ret
    exact ⟨by rw [e2]; rfl, Ext.refl _⟩
  · have hb : (s == [46]) = false := by simpa using h
    rw [hb, Bool.false_or] at e1
    have HL := hide (unhide HLW w)
    clear HLW h
    generalize low s = L at *
    go_enter Tryd.func11, Tryd.ntmps11
    go_wp2_with fail
    refine (unhide HL).mono ?_
    rintro e w2 ⟨rfl, hx⟩
    clear HL
    go_wp2
    go_ret
    refine ⟨?_, hx⟩
    rw [← e1]
    rfl

set_option maxHeartbeats 1000000 in
theorem rdoub_any (s : List UInt8) (w : World) (hs : s.length ≤ 1000) : Calls Tryd.prog 13 #[S s] w fun e w' => e = .returned (.bool (doub s)) ∧ Ext w w' := by
  have HL := hide (rlow_any s w hs)
  have e1 := rdoub_eq s
  generalize doub s = q at *
  generalize low s = L at *
  go_enter Tryd.func13, Tryd.ntmps13
  go_wp2_with fail
  refine (unhide HL).mono ?_
  rintro e w2 ⟨rfl, hx⟩
  clear HL
  by_cases h1 : (L == [46, 46]) = true
  · have e2 : q = true := by rw [← e1, h1]; rfl
    clear e1
    go_wp2
    go_ret
    exact ⟨by rw [e2]; rfl, hx⟩
  · have h1' : (L == [46, 46]) = false := by simpa using h1
    rw [h1', Bool.false_or] at e1
    clear h1
    by_cases h2 : (L == [46, 37, 50, 101]) = true
    · have e2 : q = true := by rw [← e1, h2]; rfl
      clear e1
      go_wp2
      go_ret
      exact ⟨by rw [e2]; rfl, hx⟩
    · have h2' : (L == [46, 37, 50, 101]) = false := by simpa using h2
      rw [h2', Bool.false_or] at e1
      clear h2
      by_cases h3 : (L == [37, 50, 101, 46]) = true
      · have e2 : q = true := by rw [← e1, h3]; rfl
        clear e1
        go_wp2
        go_ret
        exact ⟨by rw [e2]; rfl, hx⟩
      · have h3' : (L == [37, 50, 101, 46]) = false := by simpa using h3
        rw [h3', Bool.false_or] at e1
        clear h3
        go_wp2
        go_ret
        refine ⟨?_, hx⟩
        rw [← e1]
        rfl

set_option maxHeartbeats 1000000 in
theorem rshow_any (ao : Option Addr) (cap : Nat) (ps : List (List UInt8)) (w : World) (hs : (shw ps).length ≤ 100000000) (h : RdV w ao cap (ps.map S)) :
    Calls Tryd.prog 17 #[.slice ao ps.length cap] w fun e w' => e = .returned (S (shw ps)) ∧ Ext w w' := by
  have hle := h.le
  have hmx := h.max
  simp only [List.length_map] at hle
  have HR := hide h
  clear h
  go_enter Tryd.func17, Tryd.ntmps17
  go_wp2
  go_loopw [3, 4] (fun v i wr => ∃ k : Nat, k ≤ ps.length ∧ i = .int .i64 (k : Int) ∧ v = S (shw (ps.take k)) ∧ ∃ n, wr = w.drewN n) (fun _ i _ => ps.length - (intOf i).toNat)
  case atStart => exact ⟨0, by omega, rfl, rfl, 0, rfl⟩
  case round =>
    obtain ⟨k, hk, rfl, rfl, n, rfl⟩ := hrel
    by_cases hkl : k < ps.length
    · obtain ⟨b, off, rfl, hc⟩ := (unhide HR).cells (by simp; omega)
      have c0 : w.cell? ⟨b, off + k, none⟩ = some (S (ps.getD k [])) := by
        have := hc k (by simpa using hkl)
        rw [show (ps.map S)[k]? = some (S (ps.getD k [])) by simp [List.getD, hkl]] at this
        exact this
      have hkl' : (k : Int) < (ps.length : Int) := by omega
      have HT : Hid (shw (ps.take (k + 1)) = shw (ps.take k) ++ 47 :: ps.getD k []) := by
        rw [take_snoc ps k [] hkl, shw_snoc]
        rfl
      have hL : (shw (ps.take (k + 1))).length ≤ 100000000 := Nat.le_trans (shw_le ps (k + 1)) hs
      rw [unhide HT, List.length_append, List.length_cons] at hL
      have KEY : Hid (∀ v m, v = S (shw (ps.take k) ++ 47 :: ps.getD k []) → ((∃ k' : Nat, k' ≤ ps.length ∧ Value.int .i64 ((k : Int) + 1) = .int .i64 (k' : Int) ∧ v = S (shw (ps.take k')) ∧ ∃ n', w.drewN m = w.drewN n') ∧ ps.length - ((k : Int) + 1).toNat < ps.length - k)) := by
        intro v m hv
        exact ⟨⟨k + 1, by omega, by simp, by rw [unhide HT]; exact hv, m, rfl⟩, by omega⟩
      have hc1 := cat_to (shw (ps.take k)) [47]
      have hc2 := cat_to (shw (ps.take k) ++ [47]) (ps.getD k [])
      have e3 : shw (ps.take k) ++ [47] ++ ps.getD k [] = shw (ps.take k) ++ 47 :: ps.getD k [] := by simp
      clear HT hc HR
      generalize ps.getD k [] = p at *
      generalize shw (ps.take k) = L at *
      go_wp2
      exact unhide KEY _ _ rfl
    · have hk2 : k = ps.length := by omega
      subst hk2
      have e : S (shw (ps.take ps.length)) = S (shw ps) := by rw [List.take_length]
      clear HR
      go_wp2
      go_ret
      exact ⟨by rw [← e]; rfl, Ext.drewN _ _⟩
end Go.Proofs.YtbmikdocjnpidaaDoor
