/-
  The library's stable sort, of at most 63 places: blocks of twenty, then merges.
-/
import Derived.Test.YtgnkhfmpooomkaaDoorSrtD
namespace Go.Proofs.YtgnkhfmpooomkaaDoor
set_option linter.unusedVariables false
open Go.RowKit

/-- Each block of so many is sorted, below lim. -/
def Blk (k g : Nat → Nat) (bs lim : Nat) : Prop := ∀ x y, x < y → y < lim → x / bs = y / bs → k (g x) ≤ k (g y)
theorem Blk.grow {k g g' : Nat → Nat} {bs a b : Nat} (hbs : bs = 20 ∨ bs = 40 ∨ bs = 80) (h : Blk k g bs a) (p : Pm a b g g') (hA : Asc k g' a b) (ha : a % bs = 0) : Blk k g' bs b := by
  intro x y h1 h2 h3
  by_cases hy : y < a
  · rw [p.out x (by omega), p.out y (by omega)]
    exact h x y h1 hy h3
  · refine hA x y ?_ h1 h2
    rcases hbs with rfl | rfl | rfl <;> omega
theorem Blk.asc {k g : Nat → Nat} {bs a b n : Nat} (hbs : bs = 20 ∨ bs = 40 ∨ bs = 80) (h : Blk k g bs n) (ha : a % bs = 0) (hb : b ≤ n) (hab : b ≤ a + bs) : Asc k g a b := by
  intro x y h1 h2 h3
  refine h x y h2 (by omega) ?_
  rcases hbs with rfl | rfl | rfl <;> omega
theorem Blk.keep {k g g' : Nat → Nat} {bs a b n : Nat} (hbs : bs = 20 ∨ bs = 40 ∨ bs = 80) (h : Blk k g bs n) (p : Pm a b g g') (hA : Asc k g' a b) (ha : a % bs = 0) (hb : b % bs = 0 ∨ n ≤ b) : Blk k g' bs n := by
  intro x y h1 h2 h3
  by_cases hy : y < a
  · rw [p.out x (by omega), p.out y (by omega)]
    exact h x y h1 h2 h3
  · by_cases hyb : y < b
    · refine hA x y ?_ h1 hyb
      rcases hbs with rfl | rfl | rfl <;> omega
    · have hx : b ≤ x := by rcases hbs with rfl | rfl | rfl <;> omega
      rw [p.out x (by omega), p.out y (by omega)]
      exact h x y h1 h2 h3
theorem Blk.all {k g : Nat → Nat} {n : Nat} (h : Blk k g 80 n) (hn : n ≤ 63) : Asc k g 0 n := h.asc (.inr (.inr rfl)) (by omega) (Nat.le_refl _) (by omega)
theorem Blk.next {k g : Nat → Nat} {bs a n : Nat} (hbs : bs = 20 ∨ bs = 40) (h1 : Blk k g (2 * bs) a) (h2 : Blk k g bs n) (ha : a % (2 * bs) = 0) (hn : n ≤ a + bs) : Blk k g (2 * bs) n := by
  intro x y c1 c2 c3
  by_cases hy : y < a
  · exact h1 x y c1 hy c3
  · refine h2 x y c1 c2 ?_
    rcases hbs with rfl | rfl <;> omega
theorem Ord.more {w0 W W' : World} {blk off n L : Nat} {k : Nat → Nat} {a b : Nat} {f g g' : Nat → Nat} (h : Ord w0 blk off n L k 0 n f g W) (h' : Ord w0 blk off n L k a b g g' W') (hb : b ≤ n) : Ord w0 blk off n L k 0 n f g' W' :=
  ⟨h'.1, h.2.1.trans (h'.2.1.mono (Nat.zero_le _) hb), h'.2.2⟩

set_option maxHeartbeats 2000000 in
set_option maxRecDepth 100000 in
theorem stable_any (w0 : World) (blk off n cap L : Nat) (k f : Nat → Nat) (bx : Value) (w : World) (hc : CmpOK w0 blk L k bx) (hr : SRow w0 blk off n L f w) (hst : St k f n) (hn : n ≤ 63) :
    Calls Tryd.prog 93 #[.slice (some ⟨blk, off, none⟩) n cap, .int .i64 (n : Int), .func (.func 84) #[] #[bx]] w fun e w' =>
      e = .returned (.tuple #[]) ∧ ∃ g, Ord w0 blk off n L k 0 n f g w' ∧ Asc k g 0 n := by
  go_enter Tryd.func93, Tryd.ntmps93
  have HR : Hid (Ord w0 blk off n L k 0 n f f w) := ⟨hr, Pm.refl _ _ _, hst⟩
  have HC := hide hc
  clear hr hst hc
  go_wp2_with fail
  go_loopw [7, 8] (fun va vb wr => ∃ (a : Nat) (g : Nat → Nat), a % 20 = 0 ∧ a ≤ n ∧ va = .int .i64 a ∧ vb = .int .i64 ((a : Int) + 20) ∧ Hid (Ord w0 blk off n L k 0 n f g wr) ∧ Hid (Blk k g 20 a)) (fun va _ _ => n - (intOf va).toNat)
  case atStart => exact ⟨0, f, rfl, Nat.zero_le _, rfl, rfl, HR, fun x y h1 h2 h3 => by omega⟩
  case round =>
    clear HR
    obtain ⟨a, g, ha, han, rfl, rfl, S, B⟩ := hrel
    by_cases hlt : a + 20 ≤ n
    · have hlt' : (a : Int) + 20 ≤ (n : Int) := by omega
      have CC := hide (insertion_any w0 blk off n cap L k g bx a (a + 20) wr (unhide HC) (unhide S).1 (unhide S).2.2 (by omega) (by omega) hlt)
      rw [show ((a + 20 : Nat) : Int) = (a : Int) + 20 by omega] at CC
      go_wp2_with fail
      refine (unhide CC).mono ?_
      rintro e w2 ⟨rfl, g2, O2, A2⟩
      have S2 := hide ((unhide S).more O2 hlt)
      have B2 := hide ((unhide B).grow (.inl rfl) O2.2.1 A2 ha)
      clear CC O2 A2 S B
      go_wp2
      exact ⟨⟨a + 20, g2, by omega, hlt, by simp, by first | rfl | (congr 1; done) | (congr 1; omega), S2, B2⟩, (show n - ((a : Int) + 20).toNat < n - ((a : Int)).toNat by omega)⟩
    · have hlt' : ¬ (a : Int) + 20 ≤ (n : Int) := by omega
      have CC := hide (insertion_any w0 blk off n cap L k g bx a n wr (unhide HC) (unhide S).1 (unhide S).2.2 (by omega) han (Nat.le_refl _))
      go_wp2_with fail
      refine (unhide CC).mono ?_
      rintro e w2 ⟨rfl, g2, O2, A2⟩
      have S2 := hide ((unhide S).more O2 (Nat.le_refl _))
      have B2 := hide ((unhide B).grow (.inl rfl) O2.2.1 A2 ha)
      clear CC O2 A2 S B ha han hlt hlt'
      go_wp2_with fail
      go_loopw [6, 7, 8] (fun vs va vb wr => ∃ (bs : Nat) (g : Nat → Nat), (bs = 20 ∨ bs = 40 ∨ bs = 80) ∧ vs = .int .i64 bs ∧ Hid (Ord w0 blk off n L k 0 n f g wr) ∧ Hid (Blk k g bs n)) (fun vs _ _ _ => 100 - (intOf vs).toNat)
      case atStart => exact ⟨20, g2, .inl rfl, rfl, S2, B2⟩
      case round =>
        clear S2 B2
        obtain ⟨bs, g3, hbs, rfl, S, B⟩ := hrel
        by_cases hgo : bs < n
        · have hbs2 : bs = 20 ∨ bs = 40 := by omega
          have hgo' : (bs : Int) < (n : Int) := by omega
          clear hbs
          go_wp2_with fail
          go_loopw [7, 8] (fun va vb wr => ∃ (a : Nat) (g : Nat → Nat), a % (2 * bs) = 0 ∧ a ≤ n ∧ va = .int .i64 a ∧ vb = .int .i64 ((a : Int) + 2 * (bs : Int)) ∧ Hid (Ord w0 blk off n L k 0 n f g wr) ∧ Hid (Blk k g bs n) ∧ Hid (Blk k g (2 * bs) a)) (fun va _ _ => n - (intOf va).toNat)
          case atStart => exact ⟨0, g3, by simp, Nat.zero_le _, rfl, by simp, S, B, fun x y h1 h2 h3 => by omega⟩
          case round =>
            clear S B
            obtain ⟨a, g4, ha, han, rfl, rfl, S, B, D⟩ := hrel
            have ha1 : a % bs = 0 := by rcases hbs2 with rfl | rfl <;> omega
            have ha2 : (a + bs) % bs = 0 := by rcases hbs2 with rfl | rfl <;> omega
            have ha3 : (a + 2 * bs) % bs = 0 := by rcases hbs2 with rfl | rfl <;> omega
            have ha4 : (a + 2 * bs) % (2 * bs) = 0 := by rcases hbs2 with rfl | rfl <;> omega
            have hb3 : bs = 20 ∨ bs = 40 ∨ bs = 80 := by omega
            have hb4 : 2 * bs = 20 ∨ 2 * bs = 40 ∨ 2 * bs = 80 := by omega
            by_cases hlt : a + 2 * bs ≤ n
            · have hlt' : (a : Int) + 2 * (bs : Int) ≤ (n : Int) := by omega
              have CC := hide (merge_any w0 blk off n cap L k bx (unhide HC) (by omega) 1000 a (a + bs) (a + 2 * bs) (by omega) (by omega) (by omega) hlt g4 wr (unhide S).1 (unhide S).2.2 ((unhide B).asc hb3 ha1 (by omega) (Nat.le_refl _)) ((unhide B).asc hb3 ha2 hlt (by omega)))
              rw [show ((a + bs : Nat) : Int) = (a : Int) + (bs : Int) by omega, show ((a + 2 * bs : Nat) : Int) = (a : Int) + 2 * (bs : Int) by omega] at CC
              go_wp2_with fail
              refine (unhide CC).mono ?_
              rintro e w3 ⟨rfl, g5, O2, A2⟩
              have S2 := hide ((unhide S).more O2 hlt)
              have B2 := hide ((unhide B).keep hb3 O2.2.1 A2 ha1 (.inl ha3))
              have D2 := hide ((unhide D).grow hb4 O2.2.1 A2 ha)
              clear CC O2 A2 S B D
              go_wp2
              exact ⟨⟨a + 2 * bs, g5, ha4, hlt, by first | rfl | (congr 1; done) | (congr 1; omega), by first | rfl | (congr 1; done) | (congr 1; omega), S2, B2, D2⟩, (show n - ((a : Int) + 2 * (bs : Int)).toNat < n - ((a : Int)).toNat by omega)⟩
            · have hlt' : ¬ (a : Int) + 2 * (bs : Int) ≤ (n : Int) := by omega
              by_cases hm : a + bs < n
              · have hm' : (a : Int) + (bs : Int) < (n : Int) := by omega
                have CC := hide (merge_any w0 blk off n cap L k bx (unhide HC) (by omega) 1000 a (a + bs) n (by omega) (by omega) hm (Nat.le_refl _) g4 wr (unhide S).1 (unhide S).2.2 ((unhide B).asc hb3 ha1 (by omega) (Nat.le_refl _)) ((unhide B).asc hb3 ha2 (Nat.le_refl _) (by omega)))
                rw [show ((a + bs : Nat) : Int) = (a : Int) + (bs : Int) by omega] at CC
                go_wp2_with fail
                refine (unhide CC).mono ?_
                rintro e w3 ⟨rfl, g5, O2, A2⟩
                have S2 := hide ((unhide S).more O2 (Nat.le_refl _))
                have D2 := hide ((unhide D).grow hb4 O2.2.1 A2 ha)
                clear CC O2 A2 S B D
                go_wp2
                exact ⟨⟨2 * bs, g5, hb4, by first | rfl | (congr 1; done) | (congr 1; omega), S2, D2⟩, (show 100 - ((bs : Int) * 2).toNat < 100 - ((bs : Int)).toNat by omega)⟩
              · have hm' : ¬ (a : Int) + (bs : Int) < (n : Int) := by omega
                have D2 := hide (Blk.next hbs2 (unhide D) (unhide B) ha (by omega))
                clear B D
                go_wp2
                exact ⟨⟨2 * bs, g4, hb4, by first | rfl | (congr 1; done) | (congr 1; omega), S, D2⟩, (show 100 - ((bs : Int) * 2).toNat < 100 - ((bs : Int)).toNat by omega)⟩
        · have hgo' : ¬ (bs : Int) < (n : Int) := by omega
          have A2 : Hid (Asc k g3 0 n) := (unhide B).asc hbs (Nat.zero_mod _) (Nat.le_refl _) (by omega)
          clear B
          go_wp2
          go_end0
          exact ⟨rfl, g3, unhide S, unhide A2⟩

set_option maxHeartbeats 1000000 in
set_option maxRecDepth 100000 in
theorem sort_any (w0 : World) (blk off n cap L : Nat) (k f : Nat → Nat) (bx : Value) (w : World) (hc : CmpOK w0 blk L k bx) (hr : SRow w0 blk off n L f w) (hst : St k f n) (hn : n ≤ 63) :
    Calls Tryd.prog 83 #[.slice (some ⟨blk, off, none⟩) n cap, .func (.func 84) #[] #[bx]] w fun e w' =>
      e = .returned (.tuple #[]) ∧ ∃ g, Ord w0 blk off n L k 0 n f g w' ∧ Asc k g 0 n := by
  have CC := hide (stable_any w0 blk off n cap L k f bx w hc hr hst hn)
  clear hc hr hst
  go_enter Tryd.func83, Tryd.ntmps83
  go_wp2_with fail
  refine (unhide CC).mono ?_
  rintro e w2 ⟨rfl, h2⟩
  have H2 := hide h2
  clear h2 CC
  go_wp2
  go_end0
  exact ⟨rfl, unhide H2⟩

set_option maxHeartbeats 1000000 in
set_option maxRecDepth 100000 in
theorem sort_nil (bx : Value) (w : World) :
    Calls Tryd.prog 83 #[.slice none 0 0, .func (.func 84) #[] #[bx]] w fun e w' => e = .returned (.tuple #[]) ∧ w' = w := by
  have C1 : Hid (Calls Tryd.prog 97 #[.slice none 0 0, .int .i64 0, .int .i64 0, .func (.func 84) #[] #[bx]] w fun e w' => e = .returned (.tuple #[]) ∧ w' = w) := by
    show Calls _ _ _ _ _
    go_enter Tryd.func97, Tryd.ntmps97
    go_wp2_with fail
    go_loopw [8] (fun vi wr => vi = .int .i64 1 ∧ wr = w) (fun _ _ => 0)
    case atStart => exact ⟨rfl, rfl⟩
    case round =>
      obtain ⟨rfl, hw⟩ := hrel
      subst hw
      go_wp2
      go_end0
      exact ⟨rfl, rfl⟩
  have C2 : Hid (Calls Tryd.prog 93 #[.slice none 0 0, .int .i64 0, .func (.func 84) #[] #[bx]] w fun e w' => e = .returned (.tuple #[]) ∧ w' = w) := by
    show Calls _ _ _ _ _
    go_enter Tryd.func93, Tryd.ntmps93
    go_wp2_with fail
    go_loopw [7, 8] (fun va vb wr => va = .int .i64 0 ∧ vb = .int .i64 20 ∧ wr = w) (fun _ _ _ => 0)
    case atStart => exact ⟨rfl, rfl, rfl⟩
    case round =>
      obtain ⟨rfl, rfl, hw⟩ := hrel
      subst hw
      go_wp2_with fail
      refine (unhide C1).mono ?_
      rintro e w2 ⟨rfl, hw⟩
      subst hw
      clear C1
      go_wp2_with fail
      go_loopw [6, 7, 8] (fun vs va vb wr' => vs = .int .i64 20 ∧ wr' = w2) (fun _ _ _ _ => 0)
      case atStart => exact ⟨rfl, rfl⟩
      case round =>
        obtain ⟨rfl, hw⟩ := hrel
        subst hw
        go_wp2
        go_end0
        exact ⟨rfl, rfl⟩
  clear C1
  go_enter Tryd.func83, Tryd.ntmps83
  go_wp2_with fail
  refine (unhide C2).mono ?_
  rintro e w2 ⟨rfl, hw⟩
  subst hw
  clear C2
  go_wp2
  go_end0
  exact ⟨rfl, rfl⟩
end Go.Proofs.YtgnkhfmpooomkaaDoor
