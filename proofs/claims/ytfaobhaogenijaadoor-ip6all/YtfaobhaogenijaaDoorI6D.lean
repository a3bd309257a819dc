/-
  The reader's words and signs.
-/
import Derived.Test.YtfaobhaogenijaaDoorI6C
namespace Go.Proofs.YtfaobhaogenijaaDoor
set_option linter.unusedVariables false
open Go.RowKit

/-- What the next word adds; none: it is none. -/
def rwO (t : List UInt8) : Option (List Nat) := if (46 : UInt8) ∈ wdO t then (if t.drop (wdO t).length = [] then fourW (wdO t) else none) else (hexW (wdO t)).map fun v => [v]
theorem rwO_end {t : List UInt8} (h : t.drop (wdO t).length = []) : rwO t = wordV (wdO t) := by
  unfold rwO wordV
  rw [if_pos h]
theorem rwO_more {t r : List UInt8} (h : t.drop (wdO t).length = 58 :: r) : rwO t = (hexW (wdO t)).map fun v => [v] := by
  unfold rwO
  by_cases h46 : (46 : UInt8) ∈ wdO t
  · rw [if_pos h46, if_neg (by rw [h]; simp), hexW_dot h46]
    rfl
  · rw [if_neg h46]
theorem wd_split (t : List UInt8) : t = wdO t ++ t.drop (wdO t).length := (wd_facts t).2.1
theorem wd_col (t : List UInt8) : noCol (wdO t) := (wd_facts t).1
/-- No gap has been, and none stands next. -/
def calm (t : List UInt8) (g : Option Nat) : Prop := g = none → ∀ r, t ≠ 58 :: 58 :: r
theorem fin_1 {t : List UInt8} {ps : List Nat} {g : Option Nat} (ht : t ≠ []) (hg : ∀ k, g = some k → k ≤ ps.length) (h : t.drop (wdO t).length = []) : finO t ps g = (rwO t).bind fun v => finO [] (ps ++ v) g := by
  rw [rwO_end h]
  have e := wd_split t
  rw [h, List.append_nil] at e
  conv => lhs; rw [e]
  exact fin_last (wd_col t) (by rw [← e]; exact ht) ps g hg
theorem fin_2 {t r : List UInt8} {ps : List Nat} (hc : calm t none) (h : t.drop (wdO t).length = 58 :: 58 :: r) : finO t ps none = (rwO t).bind fun v => finO r (ps ++ v) (some (ps ++ v).length) := by
  rw [rwO_more h]
  have e := wd_split t
  rw [h] at e
  have hw : wdO t ≠ [] := fun e2 => by
    rw [e2, List.nil_append] at e
    exact hc rfl r e
  conv => lhs; rw [e]
  rw [fin_gap (wd_col t) hw]
  cases hexW (wdO t) with
  | none => rfl
  | some v =>
    show finO r (ps ++ [v]) (some (ps.length + 1)) = finO r (ps ++ [v]) (some (ps ++ [v]).length)
    rw [List.length_append]
    rfl
theorem fin_2s {t r : List UInt8} {ps : List Nat} {q : Nat} (h : t.drop (wdO t).length = 58 :: 58 :: r) : finO t ps (some q) = none := by
  have e := wd_split t
  rw [h] at e
  conv => lhs; rw [e]
  exact fin_gap_two (wd_col t) r ps q
theorem fin_3 {t r : List UInt8} {ps : List Nat} {g : Option Nat} (hg : ∀ k, g = some k → k ≤ ps.length) (h : t.drop (wdO t).length = 58 :: r) (hr : r ≠ []) (hr2 : r.head? ≠ some 58) : finO t ps g = (rwO t).bind fun v => finO r (ps ++ v) g := by
  rw [rwO_more h]
  have e := wd_split t
  rw [h] at e
  conv => lhs; rw [e]
  rw [fin_colon (wd_col t) r hr hr2 ps g hg]
  cases hexW (wdO t) <;> rfl
theorem fin_3e {t : List UInt8} {ps : List Nat} {g : Option Nat} (h : t.drop (wdO t).length = [58]) : finO t ps g = none := by
  have e := wd_split t
  rw [h] at e
  conv => lhs; rw [e]
  exact fin_end (wd_col t) ps g
theorem rest_cases (t : List UInt8) : t.drop (wdO t).length = [] ∨ (∃ r, t.drop (wdO t).length = 58 :: 58 :: r) ∨ t.drop (wdO t).length = [58] ∨ (∃ r, t.drop (wdO t).length = 58 :: r ∧ r ≠ [] ∧ r.head? ≠ some 58) := by
  rcases (wd_facts t).2.2 with h | ⟨r, h⟩
  · exact .inl h
  · cases r with
    | nil => exact .inr (.inr (.inl h))
    | cons x l =>
      by_cases hx : x = 58
      · rw [hx] at h
        exact .inr (.inl ⟨l, h⟩)
      · exact .inr (.inr (.inr ⟨x :: l, h, by simp, by simpa using hx⟩))
theorem fin_bad {t : List UInt8} {ps : List Nat} {g : Option Nat} (ht : t ≠ []) (hc : calm t g) (hg : ∀ k, g = some k → k ≤ ps.length) (h : rwO t = none ∨ ∃ vs, rwO t = some vs ∧ 8 < ps.length + vs.length) : finO t ps g = none := by
  have key : ∀ (r : List UInt8) (g' : List Nat → Option Nat), (∀ v k, g' v = some k → k ≤ (ps ++ v).length) → ((rwO t).bind fun v => finO r (ps ++ v) (g' v)) = none := by
    intro r g' hg'
    rcases h with h | ⟨vs, h, h8⟩
    · rw [h]
      rfl
    · rw [h]
      exact fin_many r (ps ++ vs) (g' vs) (hg' vs) (by rw [List.length_append]; exact h8)
  have hgv : ∀ (v : List Nat) k, g = some k → k ≤ (ps ++ v).length := fun v k hk => by
    have := hg k hk
    rw [List.length_append]
    omega
  rcases rest_cases t with h1 | ⟨r, h1⟩ | h1 | ⟨r, h1, h2, h3⟩
  · rw [fin_1 ht hg h1]
    exact key [] (fun _ => g) hgv
  · cases g with
    | none =>
      rw [fin_2 hc h1]
      exact key r (fun v => some (ps ++ v).length) fun v k hk => by
        simp only [Option.some.injEq] at hk
        omega
    | some q => exact fin_2s h1
  · exact fin_3e h1
  · rw [fin_3 hg h1 h2 h3]
    exact key r (fun _ => g) hgv

set_option maxHeartbeats 2000000 in
set_option maxRecDepth 100000 in
theorem readWord_any (b : Nat) (s : List UInt8) (k : Nat) (ps : List Nat) (g : Int) (W : World) (h : Rd W b s k ps g) (hk : k ≤ s.length) (hs : s.length ≤ 100000) (h8 : ps.length ≤ 8) (tb : TbF b W) :
    Calls Tryd.prog 17 #[.pointer (some ⟨b, 0, none⟩)] W fun e w' => addO (rwO (s.drop k)) b s (k + (wdO (s.drop k)).length) ps g e w' ∧ Below b W w' := by
  have HW := hide (word_any b s k ps g W h hk hs tb)
  have hwl := wd_len (s.drop k)
  rw [List.length_drop] at hwl
  have hdd : s.drop (k + (wdO (s.drop k)).length) = (s.drop k).drop (wdO (s.drop k)).length := by rw [List.drop_drop]
  have HC : Hid (∀ w, Calls Tryd.prog 26 #[S (wdO (s.drop k)), .string ⟨#[46]⟩] w fun e w' => e = .returned (.bool (decide ((46 : UInt8) ∈ wdO (s.drop k)))) ∧ w' = w) := fun w => by
    rw [← has_46]
    exact Tryd.strings_Contains_one ⟨(wdO (s.drop k)).toArray⟩ 46 w
  have HO : Hid (rwO (s.drop k) = if (46 : UInt8) ∈ wdO (s.drop k) then (if s.drop (k + (wdO (s.drop k)).length) = [] then fourW (wdO (s.drop k)) else none) else (hexW (wdO (s.drop k))).map fun v => [v]) := by
    show _ = _
    rw [hdd]
    rfl
  clear h hdd
  generalize rwO (s.drop k) = o at *
  generalize wdO (s.drop k) = p at *
  have hpl : p.length ≤ 100000 := by omega
  generalize hk2 : k + p.length = k2 at *
  have hk2l : k2 ≤ s.length := by omega
  clear hk2
  have HT := hide tb
  clear tb
  go_enter Tryd.func17, Tryd.ntmps17
  go_wp2_with fail
  refine (unhide HW).mono ?_
  rintro e w2 ⟨rfl, hr2, hb2⟩
  clear HW
  have HT2 := (unhide HT).on hb2
  have HEN := hide (ended_any b s k2 ps g w2 hr2 hk2l hs)
  have HAP := hide (addPiece_any b s k2 ps g p w2 hr2 h8 hpl HT2)
  have HAN := hide (fun w3 (hr3 : Rd w3 b s k2 ps g) (hb3 : Below b w2 w3) => addNumbers_any b s k2 ps g p w3 hr3 h8 hpl (HT2.on hb3))
  clear HT hr2
  go_wp2_with fail
  refine (unhide HC _).mono ?_
  rintro e w3 ⟨rfl, rfl⟩
  clear HC
  by_cases h46 : (46 : UInt8) ∈ p
  · have HO2 := unhide HO
    rw [if_pos h46] at HO2
    rw [decide_eq_true h46]
    clear HAP HO
    go_wp2_with fail
    refine (unhide HEN).mono ?_
    rintro e w4 ⟨rfl, hr4, hb4⟩
    clear HEN
    by_cases hz : s.drop k2 = []
    · rw [if_pos hz] at HO2
      have HQ := hide HO2
      rw [decide_eq_true hz]
      have HAN2 := hide (unhide HAN w4 hr4 hb4)
      clear HAN HO2 hr4
      go_wp2_with fail
      refine (unhide HAN2).mono ?_
      rintro e w5 ⟨he, hb5⟩
      clear HAN2
      rw [← unhide HQ] at he
      clear HQ
      cases o with
      | none =>
        obtain rfl : e = .returned (.bool false) := he
        go_wp2
        go_ret
        exact ⟨addO_no rfl, hb2.trans (hb4.trans hb5)⟩
      | some vs =>
        by_cases hc : ps.length + vs.length ≤ 8
        · have he2 : e = .returned (.bool true) ∧ Rd w5 b s k2 (ps ++ vs) g := by
            have he3 : (if ps.length + vs.length ≤ 8 then _ else _) := he
            rw [if_pos hc] at he3
            exact he3
          obtain ⟨rfl, hr5⟩ := he2
          have HR5 := hide hr5
          clear hr5 he
          go_wp2
          go_ret
          exact ⟨addO_yes rfl hc (unhide HR5), hb2.trans (hb4.trans hb5)⟩
        · have he2 : e = .returned (.bool false) := by
            have he3 : (if ps.length + vs.length ≤ 8 then _ else _) := he
            rw [if_neg hc] at he3
            exact he3
          subst he2
          clear he
          go_wp2
          go_ret
          exact ⟨addO_bad rfl hc, hb2.trans (hb4.trans hb5)⟩
    · rw [if_neg hz] at HO2
      subst HO2
      rw [decide_eq_false hz]
      clear HAN hr4
      go_wp2
      go_ret
      exact ⟨addO_no rfl, hb2.trans hb4⟩
  · have HO2 := unhide HO
    rw [if_neg h46] at HO2
    have HQ := hide HO2
    rw [decide_eq_false h46]
    clear HAN HO HEN HO2
    go_wp2_with fail
    refine (unhide HAP).mono ?_
    rintro e w5 ⟨he, hb5⟩
    clear HAP
    rw [← unhide HQ] at he
    clear HQ
    cases o with
    | none =>
      obtain rfl : e = .returned (.bool false) := he
      go_wp2
      go_ret
      exact ⟨addO_no rfl, hb2.trans hb5⟩
    | some vs =>
      by_cases hc : ps.length + vs.length ≤ 8
      · have he2 : e = .returned (.bool true) ∧ Rd w5 b s k2 (ps ++ vs) g := by
          have he3 : (if ps.length + vs.length ≤ 8 then _ else _) := he
          rw [if_pos hc] at he3
          exact he3
        obtain ⟨rfl, hr5⟩ := he2
        have HR5 := hide hr5
        clear hr5 he
        go_wp2
        go_ret
        exact ⟨addO_yes rfl hc (unhide HR5), hb2.trans hb5⟩
      · have he2 : e = .returned (.bool false) := by
          have he3 : (if ps.length + vs.length ≤ 8 then _ else _) := he
          rw [if_neg hc] at he3
          exact he3
        subst he2
        clear he
        go_wp2
        go_ret
        exact ⟨addO_bad rfl hc, hb2.trans hb5⟩
end Go.Proofs.YtfaobhaogenijaaDoor
