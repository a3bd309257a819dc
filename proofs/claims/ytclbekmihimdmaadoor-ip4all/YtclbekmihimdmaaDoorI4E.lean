/-
  Ends and Show of package ip4.
-/
import Derived.Test.YtclbekmihimdmaaDoorI4D
import Derived.Test.YtclbekmihimdmaaDoorOps
import Derived.Lib.AppendStr
namespace Go.Proofs.YtclbekmihimdmaaDoor
set_option linter.unusedVariables false
open Go.RowKit

theorem lastIx_any (s : List UInt8) (w : World) (hs : s.length ≤ 1000000) : Calls Tryd.prog 25 #[S s, .string ⟨#[46]⟩] w fun e w' => e = .returned (.int .i64 (Lib.lastIndexByte ⟨s.toArray⟩ 46)) ∧ w' = w :=
  Tryd.strings_LastIndex_one ⟨s.toArray⟩ ⟨#[46]⟩ rfl (by rw [size_S]; omega) w

set_option maxHeartbeats 1000000 in
theorem ends_any (s : List UInt8) (w : World) (hs : s.length ≤ 100000) : Calls Tryd.prog 11 #[S s] w fun e w' => e = .returned (.bool (ends s)) ∧ w' = w := by
  have fin : ∀ b : Bool, b = ends s → Ending.returned (.bool b) = .returned (.bool (ends s)) := fun b h => by rw [h]
  unfold ends at fin ⊢
  have HT := hide (trim_any s w (by omega))
  have htl := trim_len 46 s
  generalize Lib.trimSuffix s [46] = t at *
  have HL := hide (lastIx_any t w (by omega))
  obtain ⟨k, hk, hkl, hkd⟩ := last_S 46 t
  rw [← hkd] at fin ⊢
  have hdr := run_drop w t k hk
  have hlen : (t.drop k).length ≤ 1000000 := by simp; omega
  generalize t.drop k = x at *
  have e46 : (((46 : UInt8).toNat : Nat) : Int) = 46 := rfl
  rw [e46] at hkl
  have hiw : -1 ≤ Lib.lastIndexByte ⟨t.toArray⟩ 46 := by omega
  have hiw2 : Lib.lastIndexByte ⟨t.toArray⟩ 46 < 1000000 := by omega
  generalize Lib.lastIndexByte ⟨t.toArray⟩ 46 = z at *
  obtain rfl : z = (k : Int) - 1 := by omega
  have ek : ((k : Int) - 1 + 1) = (k : Int) := by omega
  clear hkd e46 hkl
  have HM := hide (marked_any x w hlen)
  have hsz := size_S x
  have FIN := hide fin
  clear fin
  cases hm : mrk x with
  | true =>
    rw [hm] at HM
    have HD := hide (digitsOf_any x w hlen)
    have e1 : digs x = x.drop 2 := by unfold digs; rw [hm]; rfl
    have e2 : (bas x : Int) = 16 := by unfold bas; rw [hm]; rfl
    rw [e1, e2] at HD
    have HA := hide (areDigits_any (x.drop 2) 16 w (by simp; omega) (by decide))
    have HE : Hid (okD 16 (x.drop 2) = endB x) := by show _ = endB x; unfold endB; rw [hm]; rfl
    clear e1 e2 hm
    generalize x.drop 2 = y at *
    go_enter Tryd.func11, Tryd.ntmps11
    go_wp2_with fail
    refine (unhide HT).mono ?_
    rintro e w2 ⟨rfl, hw⟩
    subst hw
    clear HT
    go_wp2_with fail
    refine (unhide HL).mono ?_
    rintro e w2 ⟨rfl, hw⟩
    subst hw
    clear HL
    go_wp2_with fail
    refine (unhide HM).mono ?_
    rintro e w2 ⟨rfl, hw⟩
    subst hw
    clear HM
    go_wp2_with fail
    refine (unhide HD).mono ?_
    rintro e w2 ⟨rfl, hw⟩
    subst hw
    clear HD
    go_wp2_with fail
    refine (unhide HA).mono ?_
    rintro e w2 ⟨rfl, hw⟩
    subst hw
    clear HA
    go_wp2
    go_ret
    exact ⟨unhide FIN _ (unhide HE), rfl⟩
  | false =>
    rw [hm] at HM
    have HA := hide (areDigits_any x 10 w hlen (by decide))
    by_cases hx : x = []
    · have HE : Hid (false = endB x) := by show _ = endB x; unfold endB; rw [hm, hx]; rfl
      have hie : x.isEmpty = true := by rw [hx]; rfl
      clear hm HA
      have HX := hide hx
      clear hx
      go_enter Tryd.func11, Tryd.ntmps11
      go_wp2_with fail
      refine (unhide HT).mono ?_
      rintro e w2 ⟨rfl, hw⟩
      subst hw
      clear HT
      go_wp2_with fail
      refine (unhide HL).mono ?_
      rintro e w2 ⟨rfl, hw⟩
      subst hw
      clear HL
      go_wp2_with fail
      refine (unhide HM).mono ?_
      rintro e w2 ⟨rfl, hw⟩
      subst hw
      clear HM
      go_wp2
      go_ret
      exact ⟨unhide FIN _ (unhide HE), rfl⟩
    · have hie : x.isEmpty = false := by simpa using hx
      have HE : Hid (okD 10 x = endB x) := by show _ = endB x; unfold endB; rw [hm, hie]; simp
      have hne : ¬ ((⟨x.toArray⟩ : ByteArray) = ⟨#[]⟩) := fun e => hx (by
        have := congrArg (fun b : ByteArray => b.data.toList) e
        simpa using this)
      clear hm
      go_enter Tryd.func11, Tryd.ntmps11
      go_wp2_with fail
      refine (unhide HT).mono ?_
      rintro e w2 ⟨rfl, hw⟩
      subst hw
      clear HT
      go_wp2_with fail
      refine (unhide HL).mono ?_
      rintro e w2 ⟨rfl, hw⟩
      subst hw
      clear HL
      go_wp2_with fail
      refine (unhide HM).mono ?_
      rintro e w2 ⟨rfl, hw⟩
      subst hw
      clear HM
      go_wp2_with fail
      refine (unhide HA).mono ?_
      rintro e w2 ⟨rfl, hw⟩
      subst hw
      clear HA
      go_wp2
      go_ret
      exact ⟨unhide FIN _ (unhide HE), rfl⟩

/-- What Show has written behind so many numbers. -/
def shwK (a : Nat) : Nat → List UInt8
  | 0 => []
  | k + 1 => (shwK a k ++ if 0 < k then [46] else []) ++ Lib.decDigits (a / 256 ^ (3 - k) % 256)
theorem shwK_len (a : Nat) : ∀ k, k ≤ 4 → (shwK a k).length ≤ 4 * k := by
  have hd : ∀ u : Nat, u < 256 → (Lib.decDigits u).length ≤ 3 := by
    intro u hu
    rw [dec_bdg]
    by_cases h1 : u < 10
    · rw [bdg_small h1 (by decide)]
      simp
    · rw [bdg_great h1 (by decide)]
      by_cases h2 : u / 10 < 10
      · rw [bdg_small h2 (by decide)]
        simp
      · rw [bdg_great h2 (by decide), bdg_small (by omega) (by decide)]
        simp
  intro k
  induction k with
  | zero => intro _; simp [shwK]
  | succ k ih =>
    intro hk
    have := ih (by omega)
    have h3 := hd (a / 256 ^ (3 - k) % 256) (Nat.mod_lt _ (by decide))
    rw [shwK, List.length_append, List.length_append]
    split <;> simp <;> omega
theorem shwK_4 (a : Nat) (h : a < 4294967296) : shwK a 4 = shw a := by
  unfold shw
  simp only [shwK]
  have e : a / 256 ^ (3 - 0) % 256 = a / 16777216 := by
    show a / 16777216 % 256 = _
    omega
  rw [e]
  simp

theorem appU_any (B0 n u : Nat) (hu : u < 256) (sv : Value) (xs : List Value) (w : World) (hown : w.ownsRow B0 5 1 sv n xs) (hBw : B0 ≤ w.heap.size) (hlim : n ≤ 1000) (tb : Tb4 w) :
    Calls Tryd.prog 41 #[sv, .int .u64 (u : Int), .int .i64 10] w fun e w' => ∃ v', e = .returned v' ∧ w'.ownsRow B0 5 1 v' (n + (Lib.decDigits u).length) (xs ++ (Lib.decDigits u).map B) ∧ Below B0 w w' := by
  by_cases h : u < 100
  · refine (Tryd.internal_strconv_AppendUint_10_small B0 n u h sv xs w hown hBw (by omega)).mono ?_
    rintro e w' ⟨v', rfl, h1, h2, _⟩
    exact ⟨v', rfl, h1, h2⟩
  · refine (Tryd.internal_strconv_AppendUint_10_big B0 n u (by omega) (by omega) sv xs w hown hBw (by omega) tb.pow).mono ?_
    rintro e w' ⟨v', rfl, h1, h2, _⟩
    exact ⟨v', rfl, h1, h2⟩
theorem appUint_any (B0 n u : Nat) (hu : u < 256) (sv : Value) (xs : List Value) (w : World) (hown : w.ownsRow B0 5 1 sv n xs) (hBw : B0 ≤ w.heap.size) (hlim : n ≤ 1000) (tb : Tb4 w) :
    Calls Tryd.prog 29 #[sv, .int .u64 (u : Int), .int .i64 10] w fun e w' => ∃ v', e = .returned v' ∧ w'.ownsRow B0 5 1 v' (n + (Lib.decDigits u).length) (xs ++ (Lib.decDigits u).map B) ∧ Below B0 w w' := by
  have HC := hide (appU_any B0 n u hu sv xs w hown hBw hlim tb)
  generalize (Lib.decDigits u).map B = ds at *
  generalize (Lib.decDigits u).length = dl at *
  clear hown
  go_enter Tryd.func29, Tryd.ntmps29
  go_wp2_with fail
  refine (unhide HC).mono ?_
  rintro e w2 ⟨v', rfl, h1, h2⟩
  clear HC
  have H1 := hide h1
  have H2 := hide h2
  clear h1 h2
  go_wp2
  go_ret
  exact ⟨v', rfl, unhide H1, unhide H2⟩
end Go.Proofs.YtclbekmihimdmaaDoor
