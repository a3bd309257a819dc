/-
  The document's plain, and texts as UTF-8.
-/
import Derived.Test.YtilmkmplaehcaaaDoorQryB
import Derived.Test.YtilmkmplaehcaaaDoorUtfD
import Derived.Test.YtilmkmplaehcaaaDoorPctL
import Derived.Test.YtilmkmplaehcaaaDoorPctQ
import Derived.Test.YtilmkmplaehcaaaDoorCut
import Derived.Laws.IdiomStrings
namespace Go.Proofs.YtilmkmplaehcaaaDoor
set_option linter.unusedVariables false
open Go.RowKit

/-- []byte(s). -/
theorem conv_bytes (w : World) (bs : List UInt8) (hm : bs.length ≤ 1000000) : ∃ c w', (convert 9 33 (S bs)).run Tryd.prog w = .ok (.slice (some ⟨w.heap.size, 0, none⟩) bs.length c) w' ∧ RdV w' (some ⟨w.heap.size, 0, none⟩) c (bs.map B) ∧ Ext w w' ∧ ∀ i, i < bs.length → w'.frozen? ⟨w.heap.size, i, none⟩ = false := by
  have hr := run_bytes_of_string (P := Tryd.prog) w 9 33 5 ⟨bs.toArray⟩ Tryd.underlying9 Tryd.underlying33 Tryd.underlying5
  have hsz : (⟨bs.toArray⟩ : ByteArray).size = bs.length := by simp [ByteArray.size]
  rw [hsz] at hr
  have hle := grownCap_ge w bs.length 0 5
  have hmx := grownCap_le_maxLen w bs.length 0 5 (by unfold maxLen; omega)
  refine ⟨_, _, hr, ⟨by simpa using hle, by unfold maxLen at hmx; omega, fun e => (by cases e), fun i hi => ⟨w.heap.size, 0, rfl, ?_⟩⟩, (Ext.drew w).trans (Ext.alloc w.drew _), fun i hi => ?_⟩
  · have hi' : i < bs.length := by simpa using hi
    rw [Nat.zero_add]
    have e : w.heap.size = w.drew.heap.size := rfl
    rw [e, World.cell?_alloc_mark]
    unfold bytesRow
    rw [Array.getElem?_append_left (by simp; omega)]
    simp [B, hi']
  · have e : w.heap.size = w.drew.heap.size := rfl
    rw [e, World.frozen?_alloc_mark]
    have hs : (bytesRow ⟨bs.toArray⟩ (grownCap w bs.length 0 5)).size = bs.length + (grownCap w bs.length 0 5 - bs.length) := by
      unfold bytesRow
      simp [ByteArray.size]
    rw [hs]
    have : ¬ bs.length + (grownCap w bs.length 0 5 - bs.length) ≤ i := by omega
    simp [this]

/-- One byte is written. -/
theorem RdV.put {w : World} {g c : Nat} {ts : List UInt8} (h : RdV w (some ⟨g, 0, none⟩) c (ts.map B)) (i : Nat) (hi : i < ts.length) (x : UInt8) : RdV (w.setCell ⟨g, i, none⟩ (B x)) (some ⟨g, 0, none⟩) c ((ts.set i x).map B) := by
  have hle := h.le
  rw [List.length_map] at hle
  refine ⟨by simpa using hle, h.max, fun e => (by cases e), fun j hj => ⟨g, 0, rfl, ?_⟩⟩
  have hj' : j < ts.length := by simpa using hj
  obtain ⟨b, off, e, hc⟩ := h.cell j (by simpa using hj')
  simp only [Option.some.injEq, Addr.mk.injEq] at e
  obtain ⟨rfl, rfl, _⟩ := e
  rw [Nat.zero_add] at *
  rw [List.map_set, List.getElem?_set]
  by_cases e : i = j
  · subst e
    rw [if_pos rfl]
    have := getB ts i hj'
    rw [this] at hc
    rw [World.cell?_setCell_same w _ _ hc]
    simp [hj']
  · rw [if_neg e, World.cell?_setCell_other w _ _ _ (by intro e2; simp only [Addr.mk.injEq] at e2; exact e e2.2.1), hc]

/-- One place after another is made anew. -/
theorem step_map (f : UInt8 → UInt8) (t ts : List UInt8) (k : Nat) (hk : k < t.length) (h : ts = (t.take k).map f ++ t.drop k) : ts.length = t.length ∧ ts.getD k 0 = t.getD k 0 ∧ ts.set k (f (t.getD k 0)) = (t.take (k + 1)).map f ++ t.drop (k + 1) ∧
    (f (t.getD k 0) = t.getD k 0 → ts = (t.take (k + 1)).map f ++ t.drop (k + 1)) := by
  have hT := take_snoc t k 0 hk
  have hD : t.drop k = t.getD k 0 :: t.drop (k + 1) := by
    rw [List.drop_eq_getElem_cons hk]
    simp [List.getD, hk]
  have hl : ((t.take k).map f).length = k := by simp; omega
  subst h
  refine ⟨by simp; omega, ?_, ?_, fun e => ?_⟩
  · rw [List.getD, List.getElem?_append_right (by omega), hl, hD]
    simp
  · rw [List.set_append, if_neg (by omega), hl, hD, hT]
    simp
  · rw [hT, List.map_append, hD]
    simpa [List.getD] using e.symm

theorem dec_code : ∀ (n : Nat) (bs : List UInt8), bs.length ≤ n → ∀ r ∈ dec bs, 0 ≤ r ∧ r ≤ 1114111 := by
  intro n
  induction n with
  | zero =>
    intro bs hb r hr
    have : bs = [] := List.eq_nil_of_length_eq_zero (by omega)
    subst this
    simp [dec_nil] at hr
  | succ n ih =>
    intro bs hb r hr
    by_cases h0 : bs = []
    · subst h0
      simp [dec_nil] at hr
    cases h : at1 bs with
    | some p =>
      obtain ⟨x, m⟩ := p
      obtain ⟨_, _, h1, _, h3, h4, _⟩ := at1_len h
      rw [dec_some h] at hr
      rcases List.mem_cons.1 hr with rfl | hr
      · have := sh_bound h4 (by omega)
        exact ⟨this.1, this.2.1⟩
      · exact ih _ (by rw [List.length_drop]; omega) r hr
    | none =>
      rw [dec_none h h0] at hr
      have hl := List.length_pos_iff.2 h0
      rcases List.mem_cons.1 hr with rfl | hr
      · omega
      · exact ih _ (by rw [List.length_drop]; omega) r hr

set_option maxHeartbeats 1000000 in
theorem rplain_any (s : List UInt8) (w : World) (hs : s.length ≤ 100000) : Calls Tryd.prog 19 #[S s] w fun e w' => e = .returned (S (plainB s)) ∧ Ext w w' := by
  obtain ⟨c, w1, hcv, hr1, hx1, hfz1⟩ := conv_bytes w s (by omega)
  have ST : Hid (∃ (k : Nat) (ts : List UInt8), k ≤ s.length ∧ Value.int .i64 0 = .int .i64 (k : Int) ∧ ts = (s.take k).map Pct.plus ++ s.drop k ∧ RdV w1 (some ⟨w.heap.size, 0, none⟩) c (ts.map B) ∧ (∀ i, i < s.length → w1.frozen? ⟨w.heap.size, i, none⟩ = false) ∧ Below w.heap.size w w1) := ⟨0, s, by omega, rfl, by simp, hr1, hfz1, hx1⟩
  clear hr1 hx1 hfz1
  obtain ⟨RR, hRR⟩ : ∃ RR, RR = plainB s := ⟨_, rfl⟩
  have HRR := hide hRR
  clear hRR
  go_enter Tryd.func19, Tryd.ntmps19
  go_wp2
  clear hcv
  go_loopw [4] (fun i wr => ∃ (k : Nat) (ts : List UInt8), k ≤ s.length ∧ i = .int .i64 (k : Int) ∧ ts = (s.take k).map Pct.plus ++ s.drop k ∧ RdV wr (some ⟨w.heap.size, 0, none⟩) c (ts.map B) ∧ (∀ i, i < s.length → wr.frozen? ⟨w.heap.size, i, none⟩ = false) ∧ Below w.heap.size w wr) (fun i _ => s.length - (intOf i).toNat)
  case atStart => exact unhide ST
  case round =>
    clear ST
    obtain ⟨k, ts, hk, rfl, hts, hr, hfz, hbr⟩ := hrel
    have hle := hr.le
    have hmx := hr.max
    by_cases hkl : k < s.length
    · obtain ⟨hlen, hget, hset, hsame⟩ := step_map Pct.plus s ts k hkl hts
      rw [List.length_map, hlen] at hle
      obtain ⟨b', off', e', hc⟩ := hr.cells (by simp; omega)
      simp only [Option.some.injEq, Addr.mk.injEq] at e'
      obtain ⟨rfl, rfl, _⟩ := e'
      have c0 : wr.cell? ⟨w.heap.size, k, none⟩ = some (B (s.getD k 0)) := by
        have := hc k (by simp; omega)
        rw [getB ts k (by omega), Nat.zero_add, hget] at this
        exact this
      have f0 := hfz k hkl
      have hkl' : (k : Int) < (s.length : Int) := by omega
      have hr2 := hr.put k (by omega) (Pct.plus (s.getD k 0))
      rw [hset] at hr2
      have hg : w.heap.size ≤ w.heap.size := Nat.le_refl _
      have YES : Hid ((∃ (k' : Nat) (ts' : List UInt8), k' ≤ s.length ∧ Value.int .i64 ((k : Int) + 1) = .int .i64 (k' : Int) ∧ ts' = (s.take k').map Pct.plus ++ s.drop k' ∧ RdV (wr.setCell ⟨w.heap.size, k, none⟩ (B (Pct.plus (s.getD k 0)))) (some ⟨w.heap.size, 0, none⟩) c (ts'.map B) ∧ (∀ i, i < s.length → (wr.setCell ⟨w.heap.size, k, none⟩ (B (Pct.plus (s.getD k 0)))).frozen? ⟨w.heap.size, i, none⟩ = false) ∧ Below w.heap.size w (wr.setCell ⟨w.heap.size, k, none⟩ (B (Pct.plus (s.getD k 0))))) ∧ s.length - ((k : Int) + 1).toNat < s.length - k) :=
        ⟨⟨k + 1, _, by omega, by simp, rfl, hr2, fun q hq => by rw [World.frozen?_setCell]; exact hfz q hq, hbr.setCell (p := ⟨w.heap.size, k, none⟩) hg _⟩, by omega⟩
      have NO : Hid (Pct.plus (s.getD k 0) = s.getD k 0 → (∃ (k' : Nat) (ts' : List UInt8), k' ≤ s.length ∧ Value.int .i64 ((k : Int) + 1) = .int .i64 (k' : Int) ∧ ts' = (s.take k').map Pct.plus ++ s.drop k' ∧ RdV wr (some ⟨w.heap.size, 0, none⟩) c (ts'.map B) ∧ (∀ i, i < s.length → wr.frozen? ⟨w.heap.size, i, none⟩ = false) ∧ Below w.heap.size w wr) ∧ s.length - ((k : Int) + 1).toNat < s.length - k) :=
        fun e => ⟨⟨k + 1, ts, by omega, by simp, hsame e, hr, hfz, hbr⟩, by omega⟩
      clear hr2 hc hr hfz hbr hset hsame hget hts
      generalize s.getD k 0 = x at *
      by_cases h43 : x = 43
      · subst h43
        have e : B (Pct.plus 43) = .int .u8 32 := rfl
        rw [e] at YES
        clear NO e
        go_wp2
        exact unhide YES
      · have NO2 := hide (unhide NO (by unfold Pct.plus; rw [if_neg h43]))
        have hne : (x.toNat : Int) ≠ 43 := fun e => h43 (UInt8.toNat_inj.1 (by show x.toNat = 43; omega))
        clear NO YES h43
        go_wp2
        exact unhide NO2
    · have hk2 : k = s.length := by omega
      have e : ts = s.map Pct.plus := by rw [hts, hk2, List.take_length, List.drop_length, List.append_nil]
      clear hts
      have hl : ts.length = s.length := by rw [e, List.length_map]
      have hcv2 := oconv_str wr (some ⟨w.heap.size, 0, none⟩) s.length c ts hl hr
      have hbr' := hide hbr
      have htl : ts.length ≤ 100000 := by omega
      have HP := hide (Pct.plain_own ts wr (by omega))
      have hPl := Pct.decd_len ts
      have hR2 : RR = rgt (Pct.decd ts) := by rw [unhide HRR, e]; rfl
      clear hr hfz hbr hl hle e
      go_wp2_with fail
      refine (unhide HP).mono ?_
      rintro e2 w2 ⟨v2, rfl, O2, B2⟩
      clear HP hcv2
      obtain ⟨ao2, c2, rfl, R2, _⟩ := RdV.of_owned O2
      have hx2 : Hid (Ext w w2) := (unhide hbr').trans (Below.mono B2 (unhide hbr').size)
      have hdl := dec_len (Pct.decd ts)
      have hdc := dec_code _ (Pct.decd ts) (Nat.le_refl _)
      have HD : Hid (Calls Tryd.prog 25 #[.slice ao2 (Pct.decd ts).length c2] w2 fun e w' => ∃ ao c, e = .returned (.slice ao (dec (Pct.decd ts)).length c) ∧ RdV w' ao c ((dec (Pct.decd ts)).map R) ∧ Ext w2 w') :=
        (rdecode_any ao2 _ c2 (Pct.decd ts) w2 rfl (by omega) R2).mono fun e w' ⟨ao, c, he, hr, hx⟩ => ⟨ao, c, by rw [he, List.length_map], hr, hx⟩
      have hR3 : RR = enc (dec (Pct.decd ts)) := hR2
      clear O2 B2 R2 hbr' hR2
      generalize Pct.decd ts = D at *
      go_wp2_with fail
      refine (unhide HD).mono ?_
      rintro e3 w3 ⟨ao3, c3, rfl, R3, hx3⟩
      clear HD
      have hx3' : Hid (Ext w w3) := (unhide hx2).trans hx3
      have HE : Hid (Calls Tryd.prog 24 #[.slice ao3 (dec D).length c3] w3 fun e w' => ∃ ao c, e = .returned (.slice ao RR.length c) ∧ RdV w' ao c (RR.map B) ∧ Ext w3 w') :=
        (rEncode_any ao3 (dec D).length c3 (dec D) w3 rfl (by omega) (fun r hr => by have := hdc r hr; omega) R3).mono fun e w' ⟨ao, c, he, hr, hx⟩ => ⟨ao, c, by rw [he, List.length_map, hR3], by rw [hR3]; exact hr, hx⟩
      clear hx2 hx3 R3 hdc hR3
      go_wp2_with fail
      refine (unhide HE).mono ?_
      rintro e4 w4 ⟨ao4, c4, rfl, R4, hx4⟩
      clear HE
      have hcv4 := oconv_str w4 ao4 RR.length c4 RR rfl R4
      have FF : Hid (Ext w w4) := (unhide hx3').trans hx4
      clear hx3' hx4 R4
      go_wp2
      go_ret
      exact ⟨by rw [← unhide HRR]; rfl, unhide FF⟩

set_option maxHeartbeats 1000000 in
theorem right_any (s : List UInt8) (w : World) (hs : s.length ≤ 100000) : Calls Tryd.prog 14 #[S s] w fun e w' => e = .returned (S (rgt s)) ∧ Ext w w' := by
  obtain ⟨c, w1, hcv, hr1, hx1, _⟩ := conv_bytes w s (by omega)
  obtain ⟨RR, hRR⟩ : ∃ RR, RR = rgt s := ⟨_, rfl⟩
  have hdl := dec_len s
  have hdc := dec_code _ s (Nat.le_refl _)
  have HD : Hid (Calls Tryd.prog 25 #[.slice (some ⟨w.heap.size, 0, none⟩) s.length c] w1 fun e w' => ∃ ao c, e = .returned (.slice ao (dec s).length c) ∧ RdV w' ao c ((dec s).map R) ∧ Ext w1 w') :=
    (rdecode_any _ _ c s w1 rfl (by omega) hr1).mono fun e w' ⟨ao, c, he, hr, hx⟩ => ⟨ao, c, by rw [he, List.length_map], hr, hx⟩
  have hR3 : RR = enc (dec s) := hRR
  have HRR := hide hRR
  clear hRR
  have X1 := hide hx1
  clear hr1 hx1
  go_enter Tryd.func14, Tryd.ntmps14
  go_wp2_with fail
  refine (unhide HD).mono ?_
  rintro e3 w3 ⟨ao3, c3, rfl, R3, hx3⟩
  clear HD hcv
  have hx3' : Hid (Ext w w3) := (unhide X1).trans hx3
  have HE : Hid (Calls Tryd.prog 24 #[.slice ao3 (dec s).length c3] w3 fun e w' => ∃ ao c, e = .returned (.slice ao RR.length c) ∧ RdV w' ao c (RR.map B) ∧ Ext w3 w') :=
    (rEncode_any ao3 (dec s).length c3 (dec s) w3 rfl (by omega) (fun r hr => by have := hdc r hr; omega) R3).mono fun e w' ⟨ao, c, he, hr, hx⟩ => ⟨ao, c, by rw [he, List.length_map, hR3], by rw [hR3]; exact hr, hx⟩
  clear X1 hx3 R3 hdc hR3
  go_wp2_with fail
  refine (unhide HE).mono ?_
  rintro e4 w4 ⟨ao4, c4, rfl, R4, hx4⟩
  clear HE
  have hcv4 := oconv_str w4 ao4 RR.length c4 RR rfl R4
  have FF : Hid (Ext w w4) := (unhide hx3').trans hx4
  clear hx3' hx4 R4
  go_wp2
  go_ret
  exact ⟨by rw [← unhide HRR]; rfl, unhide FF⟩
end Go.Proofs.YtilmkmplaehcaaaDoor
