/-
  I6D, I6E.
-/
import Derived.Test.YtenlampiiodkhaaGreatDoorBOc
namespace Go.Proofs.YtenlampiiodkhaaGreatDoor
set_option linter.unusedVariables false
open Go.RowKit
def rwO (t : List UInt8) : Option (List Nat) := if (46 : UInt8) ∈ wdO t then (if t.drop (wdO t).length = [] then fourW (wdO t) else none) else (hexW (wdO t)).map fun v => [v]
theorem rwO_end {t : List UInt8} (h : t.drop (wdO t).length = []) : rwO t = wordV (wdO t) := by
  unfold rwO wordV; rw [if_pos h]
theorem rwO_more {t r : List UInt8} (h : t.drop (wdO t).length = 58 :: r) : rwO t = (hexW (wdO t)).map fun v => [v] := by
  unfold rwO; by_cases h46 : (46 : UInt8) ∈ wdO t
  · rw [if_pos h46, if_neg (by rw [h]; simp), hexW_dot h46]; rfl
  · rw [if_neg h46]
theorem wd_split (t : List UInt8) : t = wdO t ++ t.drop (wdO t).length := (wd_facts t).2.1
theorem wd_col (t : List UInt8) : noCol (wdO t) := (wd_facts t).1
def calm (t : List UInt8) (g : Option Nat) : Prop := g = none → ∀ r, t ≠ 58 :: 58 :: r
theorem fin_1 {t : List UInt8} {ps : List Nat} {g : Option Nat} (ht : t ≠ []) (hg : ∀ k, g = some k → k ≤ ps.length) (h : t.drop (wdO t).length = []) : finO t ps g = (rwO t).bind fun v => finO [] (ps ++ v) g := by
  rw [rwO_end h]; have e := wd_split t; rw [h, List.append_nil] at e
  conv => lhs; rw [e]
  exact fin_last (wd_col t) (by rw [← e]; exact ht) ps g hg
theorem fin_2 {t r : List UInt8} {ps : List Nat} (hc : calm t none) (h : t.drop (wdO t).length = 58 :: 58 :: r) : finO t ps none = (rwO t).bind fun v => finO r (ps ++ v) (some (ps ++ v).length) := by
  rw [rwO_more h]; have e := wd_split t; rw [h] at e; have hw : wdO t ≠ [] := fun e2 => by
    rw [e2, List.nil_append] at e; exact hc rfl r e
  conv => lhs; rw [e]
  rw [fin_gap (wd_col t) hw]
  cases hexW (wdO t) with
  | none => rfl
  | some v =>
    show finO r (ps ++ [v]) (some (ps.length + 1)) = finO r (ps ++ [v]) (some (ps ++ [v]).length); rw [List.length_append]; rfl
theorem fin_2s {t r : List UInt8} {ps : List Nat} {q : Nat} (h : t.drop (wdO t).length = 58 :: 58 :: r) : finO t ps (some q) = none := by
  have e := wd_split t; rw [h] at e
  conv => lhs; rw [e]
  exact fin_gap_two (wd_col t) r ps q
theorem fin_3 {t r : List UInt8} {ps : List Nat} {g : Option Nat} (hg : ∀ k, g = some k → k ≤ ps.length) (h : t.drop (wdO t).length = 58 :: r) (hr : r ≠ []) (hr2 : r.head? ≠ some 58) : finO t ps g = (rwO t).bind fun v => finO r (ps ++ v) g := by
  rw [rwO_more h]; have e := wd_split t; rw [h] at e
  conv => lhs; rw [e]
  rw [fin_colon (wd_col t) r hr hr2 ps g hg]
  cases hexW (wdO t) <;> rfl
theorem fin_3e {t : List UInt8} {ps : List Nat} {g : Option Nat} (h : t.drop (wdO t).length = [58]) : finO t ps g = none := by
  have e := wd_split t; rw [h] at e
  conv => lhs; rw [e]
  exact fin_end (wd_col t) ps g
theorem rest_cases (t : List UInt8) : t.drop (wdO t).length = [] ∨ (∃ r, t.drop (wdO t).length = 58 :: 58 :: r) ∨ t.drop (wdO t).length = [58] ∨ (∃ r, t.drop (wdO t).length = 58 :: r ∧ r ≠ [] ∧ r.head? ≠ some 58) := by
  rcases (wd_facts t).2.2 with h | ⟨r, h⟩
  · exact .inl h
  · cases r with
    | nil => exact .inr (.inr (.inl h))
    | cons x l =>
      by_cases hx : x = 58
      · rw [hx] at h; exact .inr (.inl ⟨l, h⟩)
      · exact .inr (.inr (.inr ⟨x :: l, h, by simp, by simpa using hx⟩))
theorem fin_bad {t : List UInt8} {ps : List Nat} {g : Option Nat} (ht : t ≠ []) (hc : calm t g) (hg : ∀ k, g = some k → k ≤ ps.length) (h : rwO t = none ∨ ∃ vs, rwO t = some vs ∧ 8 < ps.length + vs.length) : finO t ps g = none := by
  have key : ∀ (r : List UInt8) (g' : List Nat → Option Nat), (∀ v k, g' v = some k → k ≤ (ps ++ v).length) → ((rwO t).bind fun v => finO r (ps ++ v) (g' v)) = none := by
    intro r g' hg'; rcases h with h | ⟨vs, h, h8⟩
    · rw [h]; rfl
    · rw [h]; exact fin_many r (ps ++ vs) (g' vs) (hg' vs) (by rw [List.length_append]; exact h8)
  have hgv : ∀ (v : List Nat) k, g = some k → k ≤ (ps ++ v).length := fun v k hk => by
    have := hg k hk; rw [List.length_append]; omega
  rcases rest_cases t with h1 | ⟨r, h1⟩ | h1 | ⟨r, h1, h2, h3⟩
  · rw [fin_1 ht hg h1]; exact key [] (fun _ => g) hgv
  · cases g with
    | none =>
      rw [fin_2 hc h1]; exact key r (fun v => some (ps ++ v).length) fun v k hk => by
        simp only [Option.some.injEq] at hk; omega
    | some q => exact fin_2s h1
  · exact fin_3e h1
  · rw [fin_3 hg h1 h2 h3]; exact key r (fun _ => g) hgv
set_option maxHeartbeats 2000000 in
set_option maxRecDepth 100000 in
theorem readWord_any (b : Nat) (s : List UInt8) (k : Nat) (ps : List Nat) (g : Int) (W : World) (h : Rd W b s k ps g) (hk : k ≤ s.length) (hs : s.length ≤ 100000) (h8 : ps.length ≤ 8) (tb : TbF b W) :
    Calls Tryz.prog 162 #[.pointer (some ⟨b, 0, none⟩)] W fun e w' => addO (rwO (s.drop k)) b s (k + (wdO (s.drop k)).length) ps g e w' ∧ Below b W w' := by
  have HW := hide (word_any b s k ps g W h hk hs tb); have hwl := wd_len (s.drop k); rw [List.length_drop] at hwl; have hdd : s.drop (k + (wdO (s.drop k)).length) = (s.drop k).drop (wdO (s.drop k)).length := by rw [List.drop_drop]
  have HC : Hid (∀ w, Calls Tryz.prog 192 #[S (wdO (s.drop k)), .string ⟨#[46]⟩] w fun e w' => e = .returned (.bool (decide ((46 : UInt8) ∈ wdO (s.drop k)))) ∧ w' = w) := fun w => by
    rw [← has_46]; exact Tryz.strings_Contains_one ⟨(wdO (s.drop k)).toArray⟩ 46 w
  have HO : Hid (rwO (s.drop k) = if (46 : UInt8) ∈ wdO (s.drop k) then (if s.drop (k + (wdO (s.drop k)).length) = [] then fourW (wdO (s.drop k)) else none) else (hexW (wdO (s.drop k))).map fun v => [v]) := by
    show _ = _; rw [hdd]; rfl
  clear h hdd; generalize rwO (s.drop k) = o at *; generalize wdO (s.drop k) = p at *; have hpl : p.length ≤ 100000 := by omega
  generalize hk2 : k + p.length = k2 at *; have hk2l : k2 ≤ s.length := by omega
  clear hk2; have HT := hide tb; clear tb; go_enter Tryz.func162, Tryz.ntmps162; go_wp2_with fail
  refine (unhide HW).mono ?_; rintro e w2 ⟨rfl, hr2, hb2⟩; clear HW; have HT2 := (unhide HT).on hb2; have HEN := hide (ended_any b s k2 ps g w2 hr2 hk2l hs); have HAP := hide (addPiece_any b s k2 ps g p w2 hr2 h8 hpl HT2); have HAN := hide (fun w3 (hr3 : Rd w3 b s k2 ps g) (hb3 : Below b w2 w3) => addNumbers_any b s k2 ps g p w3 hr3 h8 hpl (HT2.on hb3)); clear HT hr2; go_wp2_with fail
  refine (unhide HC _).mono ?_; rintro e w3 ⟨rfl, rfl⟩; clear HC; by_cases h46 : (46 : UInt8) ∈ p
  · have HO2 := unhide HO; rw [if_pos h46] at HO2; rw [decide_eq_true h46]; clear HAP HO; go_wp2_with fail
    refine (unhide HEN).mono ?_; rintro e w4 ⟨rfl, hr4, hb4⟩; clear HEN; by_cases hz : s.drop k2 = []
    · rw [if_pos hz] at HO2; have HQ := hide HO2; rw [decide_eq_true hz]; have HAN2 := hide (unhide HAN w4 hr4 hb4); clear HAN HO2 hr4; go_wp2_with fail
      refine (unhide HAN2).mono ?_; rintro e w5 ⟨he, hb5⟩; clear HAN2; rw [← unhide HQ] at he; clear HQ
      cases o with
      | none =>
        obtain rfl : e = .returned (.bool false) := he; go_wp2; go_ret; exact ⟨addO_no rfl, hb2.trans (hb4.trans hb5)⟩
      | some vs =>
        by_cases hc : ps.length + vs.length ≤ 8
        · have he2 : e = .returned (.bool true) ∧ Rd w5 b s k2 (ps ++ vs) g := by
            have he3 : (if ps.length + vs.length ≤ 8 then _ else _) := he; rw [if_pos hc] at he3; exact he3
          obtain ⟨rfl, hr5⟩ := he2; have HR5 := hide hr5; clear hr5 he; go_wp2; go_ret; exact ⟨addO_yes rfl hc (unhide HR5), hb2.trans (hb4.trans hb5)⟩
        · have he2 : e = .returned (.bool false) := by
            have he3 : (if ps.length + vs.length ≤ 8 then _ else _) := he; rw [if_neg hc] at he3; exact he3
          subst he2; clear he; go_wp2; go_ret; exact ⟨addO_bad rfl hc, hb2.trans (hb4.trans hb5)⟩
    · rw [if_neg hz] at HO2; subst HO2; rw [decide_eq_false hz]; clear HAN hr4; go_wp2; go_ret; exact ⟨addO_no rfl, hb2.trans hb4⟩
  · have HO2 := unhide HO; rw [if_neg h46] at HO2; have HQ := hide HO2; rw [decide_eq_false h46]; clear HAN HO HEN HO2; go_wp2_with fail
    refine (unhide HAP).mono ?_; rintro e w5 ⟨he, hb5⟩; clear HAP; rw [← unhide HQ] at he; clear HQ
    cases o with
    | none =>
      obtain rfl : e = .returned (.bool false) := he; go_wp2; go_ret; exact ⟨addO_no rfl, hb2.trans hb5⟩
    | some vs =>
      by_cases hc : ps.length + vs.length ≤ 8
      · have he2 : e = .returned (.bool true) ∧ Rd w5 b s k2 (ps ++ vs) g := by
          have he3 : (if ps.length + vs.length ≤ 8 then _ else _) := he; rw [if_pos hc] at he3; exact he3
        obtain ⟨rfl, hr5⟩ := he2; have HR5 := hide hr5; clear hr5 he; go_wp2; go_ret; exact ⟨addO_yes rfl hc (unhide HR5), hb2.trans hb5⟩
      · have he2 : e = .returned (.bool false) := by
          have he3 : (if ps.length + vs.length ≤ 8 then _ else _) := he; rw [if_neg hc] at he3; exact he3
        subst he2; clear he; go_wp2; go_ret; exact ⟨addO_bad rfl hc, hb2.trans hb5⟩
end Go.Proofs.YtenlampiiodkhaaGreatDoor
namespace Go.Proofs.YtenlampiiodkhaaGreatDoor
set_option linter.unusedVariables false
open Go.RowKit
set_option maxHeartbeats 2000000 in
set_option maxRecDepth 100000 in
theorem sign_end (b : Nat) (s : List UInt8) (k : Nat) (ps : List Nat) (g : Int) (W : World) (h : Rd W b s k ps g) (hk : k ≤ s.length) (hs : s.length ≤ 100000) (hz : s.drop k = []) :
    Calls Tryz.prog 163 #[.pointer (some ⟨b, 0, none⟩)] W fun e w' => e = .returned (.bool true) ∧ Rd w' b s k ps g ∧ Below b W w' := by
  have HE := hide (ended_any b s k ps g W h hk hs); rw [decide_eq_true hz] at HE; clear h; go_enter Tryz.func163, Tryz.ntmps163; go_wp2_with fail
  refine (unhide HE).mono ?_; rintro e w2 ⟨rfl, hr2, hb2⟩; clear HE; have HR := hide hr2; clear hr2; go_wp2; go_ret; exact ⟨rfl, unhide HR, hb2⟩
theorem Rd.setGapN {W : World} {b : Nat} {s : List UInt8} {k : Nat} {ps : List Nat} {g : Int} (h : Rd W b s k ps g) : Rd (W.setCell ⟨b, 11, none⟩ (.int .i64 (ps.length : Int))) b s k ps (ps.length : Int) := h.setGap _
set_option maxHeartbeats 4000000 in
set_option maxRecDepth 100000 in
theorem sign_gap (b : Nat) (s : List UInt8) (k : Nat) (ps : List Nat) (g : Int) (r : List UInt8) (W : World) (h : Rd W b s k ps g) (hk : k ≤ s.length) (hs : s.length ≤ 100000) (hz : s.drop k = 58 :: 58 :: r) :
    Calls Tryz.prog 163 #[.pointer (some ⟨b, 0, none⟩)] W fun e w' => e = .returned (.bool (g == -1)) ∧ Rd w' b s (k + 2) ps (ps.length : Int) ∧ Below b W w' := by
  have HE := hide (ended_any b s k ps g W h hk hs); rw [decide_eq_false (by rw [hz]; simp)] at HE; have HT := hide (fun w2 (h2 : Rd w2 b s k ps g) => take_any b s k ps g [58, 58] w2 h2 hk hs (by simp)); have hpre : ([58, 58] : List UInt8).isPrefixOf (s.drop k) = true := by rw [hz]; rfl
  rw [hpre] at HT; clear h; go_enter Tryz.func163, Tryz.ntmps163; go_wp2_with fail
  refine (unhide HE).mono ?_; rintro e w2 ⟨rfl, hr2, hb2⟩; clear HE; have HT2 := hide (unhide HT w2 hr2); clear HT hr2; go_wp2_with fail
  refine (unhide HT2).mono ?_; rintro e w3 ⟨rfl, hr3, hb3⟩; clear HT2; have hr3 : Rd w3 b s (k + 2) ps g := hr3; have c10 := hr3.count; have c11 := hr3.gap; have f11 := hr3.froz 11; have HR3 := hide hr3.setGapN; have HB3 := hide ((hb2.trans hb3).trans (below_set (i := 11) (v := .int .i64 (ps.length : Int)) (Nat.le_refl b))); clear hr3; go_wp2; go_ret; exact ⟨rfl, unhide HR3, unhide HB3⟩
set_option maxHeartbeats 4000000 in
set_option maxRecDepth 100000 in
theorem sign_one (b : Nat) (s : List UInt8) (k : Nat) (ps : List Nat) (g : Int) (r : List UInt8) (z : Bool) (W : World) (h : Rd W b s k ps g) (hk : k ≤ s.length) (hs : s.length ≤ 100000) (hz : s.drop k = 58 :: r) (hr : r.head? ≠ some 58) (hzz : decide (r = []) = z) :
    Calls Tryz.prog 163 #[.pointer (some ⟨b, 0, none⟩)] W fun e w' => e = .returned (.bool (!z)) ∧ Rd w' b s (k + 1) ps g ∧ Below b W w' := by
  have hkl : k < s.length := by
    rcases Nat.lt_or_ge k s.length with h1 | h1
    · exact h1
    · rw [List.drop_of_length_le h1] at hz
      cases hz
  have hdr : s.drop (k + 1) = r := by
    rw [← List.drop_drop, hz]; rfl
  have HE := hide (ended_any b s k ps g W h hk hs); rw [decide_eq_false (by rw [hz]; simp)] at HE; have HT := hide (fun w2 (h2 : Rd w2 b s k ps g) => take_any b s k ps g [58, 58] w2 h2 hk hs (by simp)); have hpre : ([58, 58] : List UInt8).isPrefixOf (s.drop k) = false := by
    rw [hz]
    cases r with
    | nil => rfl
    | cons x l =>
      have : x ≠ 58 := by simpa using hr
      simp [List.isPrefixOf]; exact fun e => this e.symm
  rw [hpre] at HT; have HU := hide (fun w2 (h2 : Rd w2 b s k ps g) => take_any b s k ps g [58] w2 h2 hk hs (by simp)); have hpre2 : ([58] : List UInt8).isPrefixOf (s.drop k) = true := by
    rw [hz]; simp [List.isPrefixOf]
  rw [hpre2] at HU; have HF := hide (fun w2 (h2 : Rd w2 b s (k + 1) ps g) => ended_any b s (k + 1) ps g w2 h2 (by omega) hs); rw [hdr, hzz] at HF; clear h; go_enter Tryz.func163, Tryz.ntmps163; go_wp2_with fail
  refine (unhide HE).mono ?_; rintro e w2 ⟨rfl, hr2, hb2⟩; clear HE; have HT2 := hide (unhide HT w2 hr2); clear HT hr2; go_wp2_with fail
  refine (unhide HT2).mono ?_; rintro e w3 ⟨rfl, hr3, hb3⟩; clear HT2; have HU2 := hide (unhide HU w3 hr3); clear HU hr3; go_wp2_with fail
  refine (unhide HU2).mono ?_; rintro e w4 ⟨rfl, hr4, hb4⟩; clear HU2; have HF2 := hide (unhide HF w4 hr4); clear HF hr4; go_wp2_with fail
  refine (unhide HF2).mono ?_; rintro e w5 ⟨rfl, hr5, hb5⟩; clear HF2; have HR := hide hr5; clear hr5
  cases z with
  | true =>
    go_wp2; go_ret; exact ⟨rfl, unhide HR, hb2.trans (hb3.trans (hb4.trans hb5))⟩
  | false =>
    go_wp2; go_ret; exact ⟨rfl, unhide HR, hb2.trans (hb3.trans (hb4.trans hb5))⟩
def gI (g : Option Nat) : Int := match g with | some q => (q : Int) | none => -1
def Dn (w : World) (b : Nat) (s : List UInt8) (a : List Nat) : Prop := ∃ k ps g, Rd w b s k ps (gI g) ∧ finO [] ps g = some a ∧ (∀ q, g = some q → q ≤ ps.length) ∧ ps.length ≤ 8
def atOf (w : World) (b : Nat) : Nat := match w.cell? ⟨b, 1, none⟩ with | some (.int _ n) => n.toNat | _ => 0
theorem Rd.atOf {W : World} {b : Nat} {s : List UInt8} {k : Nat} {ps : List Nat} {g : Int} (h : Rd W b s k ps g) : atOf W b = k := by
  unfold Proofs.YtenlampiiodkhaaGreatDoor.atOf; rw [h.at]; simp
def ReadP (b : Nat) (s : List UInt8) (W : World) (e : Ending) (w' : World) : Prop := e = .returned (.bool (par6 s).isSome) ∧ (∀ a, par6 s = some a → Dn w' b s a) ∧ Below b W w'
theorem readP_no {b : Nat} {s : List UInt8} {W w' : World} (h : par6 s = none) (hb : Below b W w') : ReadP b s W (.returned (.bool false)) w' := by
  unfold ReadP; rw [h]; exact ⟨rfl, fun a ha => (by cases ha), hb⟩
theorem readP_yes {b : Nat} {s : List UInt8} {W w' : World} {a : List Nat} (h : par6 s = some a) (hd : Dn w' b s a) (hb : Below b W w') : ReadP b s W (.returned (.bool true)) w' := by
  unfold ReadP; rw [h]; exact ⟨rfl, fun a' ha => by simp only [Option.some.injEq] at ha; rw [← ha]; exact hd, hb⟩
def RelP (b : Nat) (s : List UInt8) (W wr : World) : Prop := ∃ (k : Nat) (ps : List Nat) (g : Option Nat), Rd wr b s k ps (gI g) ∧ k ≤ s.length ∧ ps.length ≤ 8 ∧ (∀ q, g = some q → q ≤ ps.length) ∧ finO (s.drop k) ps g = par6 s ∧ calm (s.drop k) g ∧ Below b W wr
set_option maxHeartbeats 4000000 in
set_option maxRecDepth 100000 in
theorem read_any (b : Nat) (s : List UInt8) (W : World) (h : Rd W b s 0 [] (-1)) (hs : s.length ≤ 100000) (tb : TbF b W) :
    Calls Tryz.prog 126 #[.pointer (some ⟨b, 0, none⟩)] W fun e w' => ReadP b s W e w' := by
  have HT := hide (take_any b s 0 [] (-1) [58, 58] W h (Nat.zero_le _) hs (by simp)); rw [List.drop_zero] at HT; have HTB := hide tb; clear h tb; go_enter Tryz.func126, Tryz.ntmps126; go_wp2_with fail
  refine (unhide HT).mono ?_; rintro e w2 ⟨rfl, hr2, hb2⟩; clear HT
  cases hq : ([58, 58] : List UInt8).isPrefixOf s with
  | true =>
    rw [hq, if_pos rfl] at hr2; have f11 := hr2.froz 11; have c11 := hr2.gap; have ST : Hid (RelP b s W (w2.setCell ⟨b, 11, none⟩ (.int .i64 0))) := by
      obtain ⟨r, rfl⟩ := List.isPrefixOf_iff_prefix.1 hq; exact ⟨2, [], some 0, hr2.setGap 0, by simp, by simp, by simp, finO_colons r, (fun e => by cases e), hb2.trans (below_set (Nat.le_refl _))⟩
    clear hr2 hq; go_wp2_with fail
    go_loopw [2] (fun v wr => v = .bool false ∧ RelP b s W wr) (fun _ wr => s.length - atOf wr b)
    case atStart => exact ⟨rfl, unhide ST⟩
    case round =>
      clear ST; obtain ⟨rfl, k, ps, g, hr, hk, h8, hg, hf, hcm, hb⟩ := hrel; have hat := hr.atOf; have HEN := hide (ended_any b s k ps (gI g) wr hr hk hs); have HTB2 := (unhide HTB).on hb; by_cases hz : s.drop k = []
      · rw [decide_eq_true hz] at HEN; rw [hz] at hf; have HF := hide hf; have HG := hide hg; clear hr hcm hf hg; go_wp2_with fail
        refine (unhide HEN).mono ?_; rintro e w3 ⟨rfl, hr3, hb3⟩; clear HEN; have c11 := hr3.gap; have c10 := hr3.count; have hbb := hb.trans hb3; have HR3 := hide hr3; clear hr3
        cases g with
        | none =>
          have hf := unhide HF; rw [fin_nil] at hf; have hge : gI none = -1 := rfl; rw [hge] at c11; by_cases hl : ps.length = 8
          · rw [if_pos hl] at hf; have HY := hide (readP_yes hf.symm ⟨k, ps, none, unhide HR3, by rw [fin_nil, if_pos hl], fun q hq => (by cases hq), h8⟩ hbb); have hlb : ((ps.length : Int) == 8) = true := by rw [hl]; rfl
            clear HF HG hf HR3 hge; go_wp2; go_ret; exact unhide HY
          · rw [if_neg hl] at hf; have HY := hide (readP_no hf.symm hbb); have hlb : ((ps.length : Int) == 8) = false := by rw [beq_eq_false_iff_ne]; omega
            clear HF HG hf HR3 hge; go_wp2; go_ret; exact unhide HY
        | some q =>
          have hq := unhide HG q rfl; have hf := unhide HF; rw [fin_nil_gap ps q hq] at hf; have hge : gI (some q) = (q : Int) := rfl; rw [hge] at c11; have hqb : ((q : Int) == -1) = false := by rw [beq_eq_false_iff_ne]; omega
          by_cases hl : ps.length ≤ 7
          · rw [if_pos hl] at hf; have HY := hide (readP_yes hf.symm ⟨k, ps, some q, unhide HR3, by rw [fin_nil_gap ps q hq, if_pos hl], unhide HG, h8⟩ hbb); have hlb : (ps.length : Int) < 8 := by omega
            clear HF HG hf HR3 hge; go_wp2; go_ret; exact unhide HY
          · rw [if_neg hl] at hf; have HY := hide (readP_no hf.symm hbb); have hlb : decide ((ps.length : Int) < 8) = false := decide_eq_false (by omega); clear HF HG hf HR3 hge; go_wp2; go_ret; exact unhide HY
      · rw [decide_eq_false hz] at HEN; have HF := hide hf; have HBAD := hide (fun h => fin_bad (ps := ps) (g := g) hz hcm hg h); have HRW := hide (fun w3 (h3 : Rd w3 b s k ps (gI g)) (hb3 : Below b wr w3) => readWord_any b s k ps (gI g) w3 h3 hk hs h8 (HTB2.on hb3)); have hwl := wd_len (s.drop k); rw [List.length_drop] at hwl; have hdd : s.drop (k + (wdO (s.drop k)).length) = (s.drop k).drop (wdO (s.drop k)).length := by rw [List.drop_drop]
        clear hr hf; go_wp2_with fail
        refine (unhide HEN).mono ?_; rintro e w3 ⟨rfl, hr3, hb3⟩; clear HEN; have HRW2 := hide (unhide HRW w3 hr3 hb3); clear HRW hr3; go_wp2_with fail
        refine (unhide HRW2).mono ?_; rintro e w4 ⟨he, hb4⟩; clear HRW2; have hbb := hb.trans (hb3.trans hb4)
        cases ho : rwO (s.drop k) with
        | none =>
          rw [ho] at he; obtain rfl : e = .returned (.bool false) := he; have HY := hide (readP_no ((unhide HF).symm.trans (unhide HBAD (.inl ho))) hbb); clear HF HBAD ho; go_wp2; go_ret; exact unhide HY
        | some vs =>
          rw [ho] at he; by_cases hc : ps.length + vs.length ≤ 8
          · have he2 : e = .returned (.bool true) ∧ Rd w4 b s (k + (wdO (s.drop k)).length) (ps ++ vs) (gI g) := by
              have he3 : (if ps.length + vs.length ≤ 8 then _ else _) := he; rw [if_pos hc] at he3; exact he3
            obtain ⟨rfl, hr4⟩ := he2; clear he; have hl2 : (ps ++ vs).length ≤ 8 := by rw [List.length_append]; exact hc
            have hg2 : ∀ q, g = some q → q ≤ (ps ++ vs).length := fun q hq => by
              have := hg q hq; rw [List.length_append]; omega
            have hkl : k + (wdO (s.drop k)).length ≤ s.length := by omega
            rcases rest_cases (s.drop k) with h1 | ⟨r, h1⟩ | h1 | ⟨r, h1, h2, h3⟩
            · have hne : 0 < (wdO (s.drop k)).length := by
                rcases Nat.eq_zero_or_pos (wdO (s.drop k)).length with h0 | h0
                · rw [h0, List.drop_zero] at h1; exact absurd h1 hz
                · exact h0
              have e1 := fin_1 hz hg h1; rw [ho] at e1; have HS := hide (sign_end b s (k + (wdO (s.drop k)).length) (ps ++ vs) (gI g) w4 hr4 hkl hs (by rw [hdd]; exact h1)); have HREL : Hid (∀ w5, Rd w5 b s (k + (wdO (s.drop k)).length) (ps ++ vs) (gI g) → Below b w4 w5 → RelP b s W w5 ∧ s.length - atOf w5 b < s.length - atOf wr b) := fun w5 h5 hb5 =>
                ⟨⟨_, ps ++ vs, g, h5, hkl, hl2, hg2, by rw [hdd, h1]; exact e1.symm.trans (unhide HF), (fun _ r e => by rw [hdd, h1] at e; cases e), hbb.trans hb5⟩, by rw [h5.atOf, hat]; omega⟩
              clear HF HBAD hr4 hdd e1 h1 ho hwl; generalize k + (wdO (s.drop k)).length = k2 at *; go_wp2_with fail
              refine (unhide HS).mono ?_; rintro e w5 ⟨rfl, hr5, hb5⟩; clear HS; obtain ⟨q1, q2⟩ := unhide HREL w5 hr5 hb5; have Q1 := hide q1; clear HREL hr5 q1; go_wp2; exact ⟨⟨rfl, unhide Q1⟩, q2⟩
            · have HS := hide (sign_gap b s (k + (wdO (s.drop k)).length) (ps ++ vs) (gI g) r w4 hr4 hkl hs (by rw [hdd]; exact h1))
              cases g with
              | none =>
                have e1 := fin_2 (ps := ps) hcm h1; rw [ho] at e1; have hkl2 : k + (wdO (s.drop k)).length + 2 ≤ s.length := by
                  have := congrArg List.length h1; rw [List.length_drop, List.length_drop] at this; simp at this; omega
                have hd2 : s.drop (k + (wdO (s.drop k)).length + 2) = r := by rw [← List.drop_drop, hdd, h1]; rfl
                have HREL : Hid (∀ w5, Rd w5 b s (k + (wdO (s.drop k)).length + 2) (ps ++ vs) ((ps ++ vs).length : Int) → Below b w4 w5 → RelP b s W w5 ∧ s.length - atOf w5 b < s.length - atOf wr b) := fun w5 h5 hb5 =>
                  ⟨⟨_, ps ++ vs, some (ps ++ vs).length, h5, hkl2, hl2, (fun q hq => by simp only [Option.some.injEq] at hq; omega), by rw [hd2]; exact e1.symm.trans (unhide HF), (fun e => by cases e), hbb.trans hb5⟩, by rw [h5.atOf, hat]; omega⟩
                have hge : (gI none == -1) = true := rfl; rw [hge] at HS; clear HF HBAD hr4 hdd e1 h1 ho hwl hd2 hge; generalize k + (wdO (s.drop k)).length = k2 at *; generalize ps ++ vs = ps2 at *; go_wp2_with fail
                refine (unhide HS).mono ?_; rintro e w5 ⟨rfl, hr5, hb5⟩; clear HS; obtain ⟨q1, q2⟩ := unhide HREL w5 hr5 hb5; have Q1 := hide q1; clear HREL hr5 q1; go_wp2; exact ⟨⟨rfl, unhide Q1⟩, q2⟩
              | some q =>
                have HY := hide (fun w5 (hb5 : Below b w4 w5) => readP_no ((unhide HF).symm.trans (fin_2s h1)) (hbb.trans hb5)); have hge : (gI (some q) == -1) = false := by
                  show ((q : Int) == -1) = false; rw [beq_eq_false_iff_ne]; omega
                rw [hge] at HS; clear HF HBAD hr4 hdd h1 ho hwl hge; generalize k + (wdO (s.drop k)).length = k2 at *; go_wp2_with fail
                refine (unhide HS).mono ?_; rintro e w5 ⟨rfl, hr5, hb5⟩; clear HS hr5; have HY2 := hide (unhide HY w5 hb5); clear HY; go_wp2; go_ret; exact unhide HY2
            · have HS := hide (sign_one b s (k + (wdO (s.drop k)).length) (ps ++ vs) (gI g) [] true w4 hr4 hkl hs (by rw [hdd]; exact h1) (by simp) rfl); have HY := hide (fun w5 (hb5 : Below b w4 w5) => readP_no ((unhide HF).symm.trans (fin_3e h1)) (hbb.trans hb5)); clear HF HBAD hr4 hdd h1 ho hwl; generalize k + (wdO (s.drop k)).length = k2 at *; go_wp2_with fail
              refine (unhide HS).mono ?_; rintro e w5 ⟨rfl, hr5, hb5⟩; clear HS hr5; have HY2 := hide (unhide HY w5 hb5); clear HY; go_wp2; go_ret; exact unhide HY2
            · have HS := hide (sign_one b s (k + (wdO (s.drop k)).length) (ps ++ vs) (gI g) r false w4 hr4 hkl hs (by rw [hdd]; exact h1) h3 (decide_eq_false h2)); have e1 := fin_3 (ps := ps) hg h1 h2 h3; rw [ho] at e1; have hkl2 : k + (wdO (s.drop k)).length + 1 ≤ s.length := by
                have := congrArg List.length h1; rw [List.length_drop, List.length_drop] at this; simp at this; omega
              have hd2 : s.drop (k + (wdO (s.drop k)).length + 1) = r := by rw [← List.drop_drop, hdd, h1]; rfl
              have HREL : Hid (∀ w5, Rd w5 b s (k + (wdO (s.drop k)).length + 1) (ps ++ vs) (gI g) → Below b w4 w5 → RelP b s W w5 ∧ s.length - atOf w5 b < s.length - atOf wr b) := fun w5 h5 hb5 =>
                ⟨⟨_, ps ++ vs, g, h5, hkl2, hl2, hg2, by rw [hd2]; exact e1.symm.trans (unhide HF), (fun _ r2 e => by rw [hd2] at e; rw [e] at h3; simp at h3), hbb.trans hb5⟩, by rw [h5.atOf, hat]; omega⟩
              clear HF HBAD hr4 hdd e1 h1 ho hwl hd2; generalize k + (wdO (s.drop k)).length = k2 at *; go_wp2_with fail
              refine (unhide HS).mono ?_; rintro e w5 ⟨rfl, hr5, hb5⟩; clear HS; obtain ⟨q1, q2⟩ := unhide HREL w5 hr5 hb5; have Q1 := hide q1; clear HREL hr5 q1; go_wp2; exact ⟨⟨rfl, unhide Q1⟩, q2⟩
          · have he2 : e = .returned (.bool false) := by
              have he3 : (if ps.length + vs.length ≤ 8 then _ else _) := he; rw [if_neg hc] at he3; exact he3
            subst he2; clear he; have HY := hide (readP_no ((unhide HF).symm.trans (unhide HBAD (.inr ⟨vs, ho, by omega⟩))) hbb); clear HF HBAD ho; go_wp2; go_ret; exact unhide HY
  | false =>
    rw [hq, if_neg (by simp)] at hr2; have ST : Hid (RelP b s W w2) := ⟨0, [], none, hr2, by simp, by simp, by simp, finO_start s, (fun _ r e => by rw [List.drop_zero] at e; rw [e] at hq; simp [List.isPrefixOf] at hq), hb2⟩; clear hr2 hq; go_wp2_with fail
    go_loopw [2] (fun v wr => v = .bool false ∧ RelP b s W wr) (fun _ wr => s.length - atOf wr b)
    case atStart => exact ⟨rfl, unhide ST⟩
    case round =>
      clear ST; obtain ⟨rfl, k, ps, g, hr, hk, h8, hg, hf, hcm, hb⟩ := hrel; have hat := hr.atOf; have HEN := hide (ended_any b s k ps (gI g) wr hr hk hs); have HTB2 := (unhide HTB).on hb; by_cases hz : s.drop k = []
      · rw [decide_eq_true hz] at HEN; rw [hz] at hf; have HF := hide hf; have HG := hide hg; clear hr hcm hf hg; go_wp2_with fail
        refine (unhide HEN).mono ?_; rintro e w3 ⟨rfl, hr3, hb3⟩; clear HEN; have c11 := hr3.gap; have c10 := hr3.count; have hbb := hb.trans hb3; have HR3 := hide hr3; clear hr3
        cases g with
        | none =>
          have hf := unhide HF; rw [fin_nil] at hf; have hge : gI none = -1 := rfl; rw [hge] at c11; by_cases hl : ps.length = 8
          · rw [if_pos hl] at hf; have HY := hide (readP_yes hf.symm ⟨k, ps, none, unhide HR3, by rw [fin_nil, if_pos hl], fun q hq => (by cases hq), h8⟩ hbb); have hlb : ((ps.length : Int) == 8) = true := by rw [hl]; rfl
            clear HF HG hf HR3 hge; go_wp2; go_ret; exact unhide HY
          · rw [if_neg hl] at hf; have HY := hide (readP_no hf.symm hbb); have hlb : ((ps.length : Int) == 8) = false := by rw [beq_eq_false_iff_ne]; omega
            clear HF HG hf HR3 hge; go_wp2; go_ret; exact unhide HY
        | some q =>
          have hq := unhide HG q rfl; have hf := unhide HF; rw [fin_nil_gap ps q hq] at hf; have hge : gI (some q) = (q : Int) := rfl; rw [hge] at c11; have hqb : ((q : Int) == -1) = false := by rw [beq_eq_false_iff_ne]; omega
          by_cases hl : ps.length ≤ 7
          · rw [if_pos hl] at hf; have HY := hide (readP_yes hf.symm ⟨k, ps, some q, unhide HR3, by rw [fin_nil_gap ps q hq, if_pos hl], unhide HG, h8⟩ hbb); have hlb : (ps.length : Int) < 8 := by omega
            clear HF HG hf HR3 hge; go_wp2; go_ret; exact unhide HY
          · rw [if_neg hl] at hf; have HY := hide (readP_no hf.symm hbb); have hlb : decide ((ps.length : Int) < 8) = false := decide_eq_false (by omega); clear HF HG hf HR3 hge; go_wp2; go_ret; exact unhide HY
      · rw [decide_eq_false hz] at HEN; have HF := hide hf; have HBAD := hide (fun h => fin_bad (ps := ps) (g := g) hz hcm hg h); have HRW := hide (fun w3 (h3 : Rd w3 b s k ps (gI g)) (hb3 : Below b wr w3) => readWord_any b s k ps (gI g) w3 h3 hk hs h8 (HTB2.on hb3)); have hwl := wd_len (s.drop k); rw [List.length_drop] at hwl; have hdd : s.drop (k + (wdO (s.drop k)).length) = (s.drop k).drop (wdO (s.drop k)).length := by rw [List.drop_drop]
        clear hr hf; go_wp2_with fail
        refine (unhide HEN).mono ?_; rintro e w3 ⟨rfl, hr3, hb3⟩; clear HEN; have HRW2 := hide (unhide HRW w3 hr3 hb3); clear HRW hr3; go_wp2_with fail
        refine (unhide HRW2).mono ?_; rintro e w4 ⟨he, hb4⟩; clear HRW2; have hbb := hb.trans (hb3.trans hb4)
        cases ho : rwO (s.drop k) with
        | none =>
          rw [ho] at he; obtain rfl : e = .returned (.bool false) := he; have HY := hide (readP_no ((unhide HF).symm.trans (unhide HBAD (.inl ho))) hbb); clear HF HBAD ho; go_wp2; go_ret; exact unhide HY
        | some vs =>
          rw [ho] at he; by_cases hc : ps.length + vs.length ≤ 8
          · have he2 : e = .returned (.bool true) ∧ Rd w4 b s (k + (wdO (s.drop k)).length) (ps ++ vs) (gI g) := by
              have he3 : (if ps.length + vs.length ≤ 8 then _ else _) := he; rw [if_pos hc] at he3; exact he3
            obtain ⟨rfl, hr4⟩ := he2; clear he; have hl2 : (ps ++ vs).length ≤ 8 := by rw [List.length_append]; exact hc
            have hg2 : ∀ q, g = some q → q ≤ (ps ++ vs).length := fun q hq => by
              have := hg q hq; rw [List.length_append]; omega
            have hkl : k + (wdO (s.drop k)).length ≤ s.length := by omega
            rcases rest_cases (s.drop k) with h1 | ⟨r, h1⟩ | h1 | ⟨r, h1, h2, h3⟩
            · have hne : 0 < (wdO (s.drop k)).length := by
                rcases Nat.eq_zero_or_pos (wdO (s.drop k)).length with h0 | h0
                · rw [h0, List.drop_zero] at h1; exact absurd h1 hz
                · exact h0
              have e1 := fin_1 hz hg h1; rw [ho] at e1; have HS := hide (sign_end b s (k + (wdO (s.drop k)).length) (ps ++ vs) (gI g) w4 hr4 hkl hs (by rw [hdd]; exact h1)); have HREL : Hid (∀ w5, Rd w5 b s (k + (wdO (s.drop k)).length) (ps ++ vs) (gI g) → Below b w4 w5 → RelP b s W w5 ∧ s.length - atOf w5 b < s.length - atOf wr b) := fun w5 h5 hb5 =>
                ⟨⟨_, ps ++ vs, g, h5, hkl, hl2, hg2, by rw [hdd, h1]; exact e1.symm.trans (unhide HF), (fun _ r e => by rw [hdd, h1] at e; cases e), hbb.trans hb5⟩, by rw [h5.atOf, hat]; omega⟩
              clear HF HBAD hr4 hdd e1 h1 ho hwl; generalize k + (wdO (s.drop k)).length = k2 at *; go_wp2_with fail
              refine (unhide HS).mono ?_; rintro e w5 ⟨rfl, hr5, hb5⟩; clear HS; obtain ⟨q1, q2⟩ := unhide HREL w5 hr5 hb5; have Q1 := hide q1; clear HREL hr5 q1; go_wp2; exact ⟨⟨rfl, unhide Q1⟩, q2⟩
            · have HS := hide (sign_gap b s (k + (wdO (s.drop k)).length) (ps ++ vs) (gI g) r w4 hr4 hkl hs (by rw [hdd]; exact h1))
              cases g with
              | none =>
                have e1 := fin_2 (ps := ps) hcm h1; rw [ho] at e1; have hkl2 : k + (wdO (s.drop k)).length + 2 ≤ s.length := by
                  have := congrArg List.length h1; rw [List.length_drop, List.length_drop] at this; simp at this; omega
                have hd2 : s.drop (k + (wdO (s.drop k)).length + 2) = r := by rw [← List.drop_drop, hdd, h1]; rfl
                have HREL : Hid (∀ w5, Rd w5 b s (k + (wdO (s.drop k)).length + 2) (ps ++ vs) ((ps ++ vs).length : Int) → Below b w4 w5 → RelP b s W w5 ∧ s.length - atOf w5 b < s.length - atOf wr b) := fun w5 h5 hb5 =>
                  ⟨⟨_, ps ++ vs, some (ps ++ vs).length, h5, hkl2, hl2, (fun q hq => by simp only [Option.some.injEq] at hq; omega), by rw [hd2]; exact e1.symm.trans (unhide HF), (fun e => by cases e), hbb.trans hb5⟩, by rw [h5.atOf, hat]; omega⟩
                have hge : (gI none == -1) = true := rfl; rw [hge] at HS; clear HF HBAD hr4 hdd e1 h1 ho hwl hd2 hge; generalize k + (wdO (s.drop k)).length = k2 at *; generalize ps ++ vs = ps2 at *; go_wp2_with fail
                refine (unhide HS).mono ?_; rintro e w5 ⟨rfl, hr5, hb5⟩; clear HS; obtain ⟨q1, q2⟩ := unhide HREL w5 hr5 hb5; have Q1 := hide q1; clear HREL hr5 q1; go_wp2; exact ⟨⟨rfl, unhide Q1⟩, q2⟩
              | some q =>
                have HY := hide (fun w5 (hb5 : Below b w4 w5) => readP_no ((unhide HF).symm.trans (fin_2s h1)) (hbb.trans hb5)); have hge : (gI (some q) == -1) = false := by
                  show ((q : Int) == -1) = false; rw [beq_eq_false_iff_ne]; omega
                rw [hge] at HS; clear HF HBAD hr4 hdd h1 ho hwl hge; generalize k + (wdO (s.drop k)).length = k2 at *; go_wp2_with fail
                refine (unhide HS).mono ?_; rintro e w5 ⟨rfl, hr5, hb5⟩; clear HS hr5; have HY2 := hide (unhide HY w5 hb5); clear HY; go_wp2; go_ret; exact unhide HY2
            · have HS := hide (sign_one b s (k + (wdO (s.drop k)).length) (ps ++ vs) (gI g) [] true w4 hr4 hkl hs (by rw [hdd]; exact h1) (by simp) rfl); have HY := hide (fun w5 (hb5 : Below b w4 w5) => readP_no ((unhide HF).symm.trans (fin_3e h1)) (hbb.trans hb5)); clear HF HBAD hr4 hdd h1 ho hwl; generalize k + (wdO (s.drop k)).length = k2 at *; go_wp2_with fail
              refine (unhide HS).mono ?_; rintro e w5 ⟨rfl, hr5, hb5⟩; clear HS hr5; have HY2 := hide (unhide HY w5 hb5); clear HY; go_wp2; go_ret; exact unhide HY2
            · have HS := hide (sign_one b s (k + (wdO (s.drop k)).length) (ps ++ vs) (gI g) r false w4 hr4 hkl hs (by rw [hdd]; exact h1) h3 (decide_eq_false h2)); have e1 := fin_3 (ps := ps) hg h1 h2 h3; rw [ho] at e1; have hkl2 : k + (wdO (s.drop k)).length + 1 ≤ s.length := by
                have := congrArg List.length h1; rw [List.length_drop, List.length_drop] at this; simp at this; omega
              have hd2 : s.drop (k + (wdO (s.drop k)).length + 1) = r := by rw [← List.drop_drop, hdd, h1]; rfl
              have HREL : Hid (∀ w5, Rd w5 b s (k + (wdO (s.drop k)).length + 1) (ps ++ vs) (gI g) → Below b w4 w5 → RelP b s W w5 ∧ s.length - atOf w5 b < s.length - atOf wr b) := fun w5 h5 hb5 =>
                ⟨⟨_, ps ++ vs, g, h5, hkl2, hl2, hg2, by rw [hd2]; exact e1.symm.trans (unhide HF), (fun _ r2 e => by rw [hd2] at e; rw [e] at h3; simp at h3), hbb.trans hb5⟩, by rw [h5.atOf, hat]; omega⟩
              clear HF HBAD hr4 hdd e1 h1 ho hwl hd2; generalize k + (wdO (s.drop k)).length = k2 at *; go_wp2_with fail
              refine (unhide HS).mono ?_; rintro e w5 ⟨rfl, hr5, hb5⟩; clear HS; obtain ⟨q1, q2⟩ := unhide HREL w5 hr5 hb5; have Q1 := hide q1; clear HREL hr5 q1; go_wp2; exact ⟨⟨rfl, unhide Q1⟩, q2⟩
          · have he2 : e = .returned (.bool false) := by
              have he3 : (if ps.length + vs.length ≤ 8 then _ else _) := he; rw [if_neg hc] at he3; exact he3
            subst he2; clear he; have HY := hide (readP_no ((unhide HF).symm.trans (unhide HBAD (.inr ⟨vs, ho, by omega⟩))) hbb); clear HF HBAD ho; go_wp2; go_ret; exact unhide HY
end Go.Proofs.YtenlampiiodkhaaGreatDoor
