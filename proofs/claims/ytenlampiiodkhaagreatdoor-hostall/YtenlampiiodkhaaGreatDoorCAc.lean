/-
  HoP, HoQ.
-/
import Derived.Test.YtenlampiiodkhaaGreatDoorBGc
import Derived.Test.YtenlampiiodkhaaGreatDoorBKc
import Derived.Test.YtenlampiiodkhaaGreatDoorBOc
import Derived.Test.YtenlampiiodkhaaGreatDoorBZc
import Derived.Test.YtenlampiiodkhaaGreatDoorCEc
import Derived.Test.YtenlampiiodkhaaGreatDoorBDc
import Derived.Test.YtenlampiiodkhaaGreatDoorBNc
import Derived.Test.YtenlampiiodkhaaGreatDoorBXc
namespace Go.Proofs.YtenlampiiodkhaaGreatDoor
set_option linter.unusedVariables false
open Go.RowKit
def inB (s : List UInt8) : List UInt8 := (s.drop 1).dropLast
def longO (s : List UInt8) : Option (List Nat) := if s.head? = some 91 ∧ 2 ≤ s.length ∧ s.getLast? = some 93 then par6 (inB s) else none
def shL (a : List Nat) : List UInt8 := 91 :: (shw6 a ++ [93])
def nameO (s : List UInt8) : Option (List UInt8) := (nam (Pct.decd s)).bind fun n => if ends n = true then (prs n).map shw else some n
def otherO (s : List UInt8) : Option (List UInt8) := if s.any noH.contains = true then none else some (Pct.encd 0 s)
def hostO (sp : Bool) (s : List UInt8) : Option (List UInt8) := if s.head? = some 91 then (longO s).map shL else if sp = true then nameO s else otherO s
theorem inB_sh (x : List UInt8) : inB (91 :: (x ++ [93])) = x := by
  unfold inB; simp
/-! Pieces are small, and eight. -/
theorem hexW_small {p : List UInt8} {v : Nat} (h : hexW p = some v) : v < 65536 := by
  obtain ⟨_, h2, h3, h4⟩ := hexW_parts h; have h5 := val_lt16 p (fun x hx => by simpa using List.all_eq_true.1 h3 x hx); have h6 : 16 ^ p.length ≤ 16 ^ 4 := Nat.pow_le_pow_right (by decide) h2; omega
theorem fourW_small {p : List UInt8} {l : List Nat} (h : fourW p = some l) : i6small l := by
  obtain ⟨a, b, c, d, ha, hb, hc, hd, _, rfl⟩ := fourL_is h; intro v hv; rcases List.mem_cons.1 hv with rfl | hv
  · omega
  · rw [List.mem_singleton] at hv; omega
theorem pcsG_small (tail : Bool) : ∀ (ps : List (List UInt8)) (l : List Nat), pcsG tail ps = some l → i6small l
  | [], l, h => by
    simp only [pcsG, Option.some.injEq] at h; subst h; intro v hv
    cases hv
  | p :: ps, l, h => by
    rw [pcsG] at h
    split at h
    · exact fourW_small h
    · obtain ⟨v, hv, h2⟩ := Option.bind_eq_some_iff.1 h; obtain ⟨t, ht, rfl⟩ := Option.map_eq_some_iff.1 h2; intro x hx; rcases List.mem_cons.1 hx with rfl | hx
      · exact hexW_small hv
      · exact pcsG_small tail ps t ht x hx
theorem piecesO_small {tail : Bool} {s : List UInt8} {l : List Nat} (h : piecesO tail s = some l) : i6small l := by
  unfold piecesO at h
  split at h
  · simp only [Option.some.injEq] at h; subst h; intro v hv
    cases hv
  · exact pcsG_small tail _ l h
theorem par6_good {s : List UInt8} {a : List Nat} (h : par6 s = some a) : a.length = 8 ∧ i6small a := by
  unfold par6 at h
  split at h
  · obtain ⟨x, hx, h2⟩ := Option.bind_eq_some_iff.1 h; obtain ⟨y, hy, h3⟩ := Option.bind_eq_some_iff.1 h2; unfold lay8 at h3
    split at h3
    · simp only [Option.some.injEq] at h3; subst h3; refine ⟨by simp; omega, fun v hv => ?_⟩; rcases List.mem_append.1 hv with hv | hv
      · rcases List.mem_append.1 hv with hv | hv
        · exact piecesO_small hx v hv
        · rw [(List.mem_replicate.1 hv).2]; decide
      · exact piecesO_small hy v hv
    · cases h3
  · obtain ⟨x, hx, h2⟩ := Option.bind_eq_some_iff.1 h
    split at h2
    · rename_i h8; simp only [Option.some.injEq] at h2; subst h2; exact ⟨h8, piecesO_small hx⟩
    · cases h2
theorem longO_good {s : List UInt8} {a : List Nat} (h : longO s = some a) : a.length = 8 ∧ i6small a := by
  unfold longO at h
  split at h
  · exact par6_good h
  · cases h
theorem longO_sh {a : List Nat} (h : a.length = 8) (hs : i6small a) : longO (shL a) = some a := by
  have e2 : 2 ≤ (shL a).length := by
    unfold shL; rw [List.length_cons, List.length_append, List.length_singleton]; omega
  have e3 : (shL a).getLast? = some 93 := by
    unfold shL; rw [← List.cons_append, List.getLast?_append]; rfl
  unfold longO; rw [if_pos ⟨rfl, e2, e3⟩]; unfold shL; rw [inB_sh]; exact shw6_back a h hs
/-! Names: no per cent sign, no bracket; numbers are names. -/
theorem badB_91 : badB 91 = true ∧ badB 37 = true := by decide
theorem nam_no {b n : List UInt8} (h : nam b = some n) : ∀ x ∈ n, badB x = false := by
  unfold nam at h
  split at h
  · obtain ⟨ls, _, h2⟩ := Option.bind_eq_some_iff.1 h
    split at h2
    · rename_i ho; simp only [Option.some.injEq] at h2; subst h2; unfold outOk at ho; rw [Bool.and_eq_true] at ho; intro x hx; simpa using List.all_eq_true.1 ho.1 x hx
    · cases h2
  · cases h
theorem decd_no37 : ∀ l : List UInt8, (∀ y ∈ l, y ≠ 37) → Pct.decd l = l
  | [], _ => Pct.decd_nil
  | x :: r, h => by
    rw [Pct.decd_other x r (h x (by simp)), decd_no37 r fun y hy => h y (List.mem_cons_of_mem _ hy)]
def dgB (x : UInt8) : Prop := 48 ≤ x.toNat ∧ x.toNat ≤ 57
theorem dg_good : ∀ x : Fin 128, 48 ≤ x.val ∧ x.val ≤ 57 → badB (UInt8.ofNat x.val) = false ∧ UInt8.ofNat x.val ≠ 46 ∧ UInt8.ofNat x.val ≠ 120 := by decide +kernel
theorem dgB_good {x : UInt8} (h : dgB x) : badB x = false ∧ x ≠ 46 ∧ x ≠ 120 := by
  have := dg_good ⟨x.toNat, by have := h.2; omega⟩ h; simpa using this
theorem nam_digits {p : List UInt8} (h0 : p ≠ []) (hl : p.length ≤ 63) (h : ∀ x ∈ p, dgB x) : nam p = some p := by
  have hd : dec p = asI p := dec_ascii _ fun x hx => by have := (h x hx).2; omega
  have ht : txt (asI p) = asI p := txt_of_fixed fun r hr => by
    obtain ⟨x, hx, rfl⟩ := List.mem_map.1 hr; exact small_fixed ⟨x.toNat, by have := (h x hx).2; omega⟩ (by have := h x hx; unfold dgB at this; simp only; omega)
  have hr : rows (asI p) = [asI p] := rows_one _ fun r hr => by
    obtain ⟨x, hx, rfl⟩ := List.mem_map.1 hr; intro e; have := (h x hx).1; omega
  have hno : ¬ (65533 : Int) ∈ asI p := fun hm => by
    obtain ⟨x, hx, e⟩ := List.mem_map.1 hm; have := (h x hx).2; omega
  have hall : (asI p).all (fun r => decide (r ≤ 127)) = true := by
    rw [List.all_eq_true]; intro r hr; obtain ⟨x, hx, rfl⟩ := List.mem_map.1 hr; have := (h x hx).2; simp only [decide_eq_true_eq]; omega
  have hxn : ¬ p.take 4 = xn := fun e => by
    match p, h0, e with
    | x :: t, _, e =>
      have h1 : x = 120 := by
        simp [xn] at e; exact e.1
      exact (dgB_good (h x (by simp))).2.2 h1
  have hlab : labOf (asI p) = some p := by
    unfold labOf; rw [if_pos hall, lowB_asI, if_neg (fun e => hxn e.1)]
  have hout : outOk p = true := by
    unfold outOk; rw [Bool.and_eq_true]; refine ⟨?_, ?_⟩
    · rw [List.all_eq_true]; intro x hx; rw [(dgB_good (h x hx)).1]; rfl
    · have : p.getLast? ≠ some 46 := fun e => by
        have hm : (46 : UInt8) ∈ p := List.mem_of_getLast? e; exact (dgB_good (h 46 hm)).2.1 rfl
      rw [if_neg this]; simp only [decide_eq_true_eq]; omega
  unfold nam; rw [hd, ht, if_pos ⟨by omega, hno⟩, hr]; have hlabs : labs true [asI p] = some [p] := by
    rw [labs, hlab]; simp only; rw [if_pos ⟨hl, .inl h0⟩]; rfl
  rw [hlabs]; show (if outOk p = true then some p else none) = _; rw [if_pos hout]
theorem dg_dgV : ∀ x : Fin 256, dgV (UInt8.ofNat x.val) < 10 → 48 ≤ x.val ∧ x.val ≤ 57 := by decide +kernel
theorem bdg_dgB (v : Nat) : ∀ x ∈ bdg 10 v, dgB x := by
  intro x hx; have h := (bdg_mem 10 (by decide) (by decide) v x hx).1; have := dg_dgV ⟨x.toNat, x.toNat_lt⟩; simp only [UInt8.ofNat_toNat] at this; exact this h
end Go.Proofs.YtenlampiiodkhaaGreatDoor
namespace Go.Proofs.YtenlampiiodkhaaGreatDoor
set_option linter.unusedVariables false
open Go.RowKit
theorem bdg_end (n : Nat) : (bdg 10 n).getLast? ≠ some 46 := fun e => (dgB_good (bdg_dgB n 46 (List.mem_of_getLast? e))).2.1 rfl
theorem nam_ten (n : Nat) (h : n ≤ 255) : nam (bdg 10 n) = some (bdg 10 n) := nam_digits (bdg_ne _ _) (by have := ten_len n h; omega) (bdg_dgB n)
theorem nam_shw (v : Nat) (h : v < 4294967296) : nam (shw v) = some (shw v) := by
  unfold shw; simp only [dec_bdg]; have la := ten_len (v / 16777216) (by omega); have lb := ten_len (v / 65536 % 256) (by omega); have lc := ten_len (v / 256 % 256) (by omega); have ld := ten_len (v % 256) (by omega); have h1 := nam_parts (nam_ten (v / 256 % 256) (by omega)) (nam_ten (v % 256) (by omega)) (bdg_ne _ _) (bdg_end _) (by omega) (by omega); have h2 := nam_parts (nam_ten (v / 65536 % 256) (by omega)) h1 (bdg_ne _ _) (bdg_end _) (by simp; omega) (by simp; omega); exact nam_parts (nam_ten (v / 16777216) (by omega)) h2 (bdg_ne _ _) (bdg_end _) (by simp; omega) (by simp; omega)
theorem nam_decd {b n : List UInt8} (h : nam b = some n) : Pct.decd n = n := decd_no37 n fun y hy e => by
  have := nam_no h y hy; rw [e, badB_91.2] at this
  cases this
theorem nam_head {b n : List UInt8} (h : nam b = some n) : n.head? ≠ some 91 := fun e => by
  have hm : (91 : UInt8) ∈ n := List.mem_of_mem_head? e; have := nam_no h 91 hm; rw [badB_91.1] at this
  cases this
theorem name_shw (v : Nat) (h : v < 4294967296) : nameO (shw v) = some (shw v) := by
  have hn := nam_shw v h; obtain ⟨h1, _, h3, _⟩ := show_back v h; unfold nameO; rw [nam_decd hn, hn]; show (if ends (shw v) = true then (prs (shw v)).map shw else some (shw v)) = _; rw [if_pos h3, h1]; rfl
theorem name_stays {s t : List UInt8} (h : nameO s = some t) : t.head? ≠ some 91 ∧ nameO t = some t := by
  unfold nameO at h; obtain ⟨n, hn, h2⟩ := Option.bind_eq_some_iff.1 h
  split at h2
  · obtain ⟨v, hv, rfl⟩ := Option.map_eq_some_iff.1 h2; have hlt := prs_lt hv; exact ⟨nam_head (nam_shw v hlt), name_shw v hlt⟩
  · rename_i he; simp only [Option.some.injEq] at h2; subst h2; have hs := (nam_stays hn).1; refine ⟨nam_head hn, ?_⟩; unfold nameO; rw [nam_decd hn, hs]; show (if ends n = true then (prs n).map shw else some n) = _; rw [if_neg he]
theorem noH_dig : ∀ n : Fin 16, noH.contains (Pct.dig n.val) = false := by decide +kernel
theorem other_no {s : List UInt8} (h : ¬ s.any noH.contains = true) : (Pct.encd 0 s).any noH.contains = false := by
  rw [Bool.eq_false_iff]; intro ha; obtain ⟨x, hx, hc⟩ := List.any_eq_true.1 ha; unfold Pct.encd at hx; obtain ⟨y, hy, hp⟩ := List.mem_flatMap.1 hx; have hy2 : noH.contains y = false := by
    rw [Bool.eq_false_iff]; intro hyc; exact h (List.any_eq_true.2 ⟨y, hy, hyc⟩)
  unfold Pct.piece at hp; rw [if_neg (by simp)] at hp
  split at hp
  · simp only [List.mem_cons, List.not_mem_nil, or_false] at hp; rcases hp with rfl | rfl | rfl
    · revert hc; decide
    · have := noH_dig ⟨y.toNat / 16, by have := y.toNat_lt; omega⟩; simp only at this; rw [this] at hc
      cases hc
    · have := noH_dig ⟨y.toNat % 16, by omega⟩; simp only at this; rw [this] at hc
      cases hc
  · rw [List.mem_singleton] at hp; rw [hp, hy2] at hc
    cases hc
theorem other_stays {s t : List UInt8} (h : otherO s = some t) : t.head? ≠ some 91 ∧ otherO t = some t := by
  unfold otherO at h
  split at h
  · cases h
  · rename_i hn; simp only [Option.some.injEq] at h; subst h; have h1 := other_no hn; refine ⟨fun e => ?_, ?_⟩
    · have hm : (91 : UInt8) ∈ Pct.encd 0 s := List.mem_of_mem_head? e; rw [Bool.eq_false_iff] at h1; exact h1 (List.any_eq_true.2 ⟨91, hm, by decide⟩)
    · unfold otherO; rw [h1, if_neg (by simp)]; have := Pct.encd_same 0 (by decide) (Pct.encd 0 s) (Pct.encd_out 0 (by decide) s); exact congrArg some this
/-! What IP4 and IP6 tell of a text. -/
def ip4O (t : List UInt8) : Option Nat := (prs t).bind fun n => if shw n = t then some n else none
def ip6O (t : List UInt8) : Option (List Nat) := (longO t).bind fun a => if shL a = t then some a else none
theorem ip4_shw (a : Nat) (h : a < 4294967296) : ip4O (shw a) = some a := by
  unfold ip4O; rw [(show_back a h).1]; show (if shw a = shw a then some a else none) = _; rw [if_pos rfl]
theorem ip6_sh {a : List Nat} (h : a.length = 8) (hs : i6small a) : ip6O (shL a) = some a := by
  unfold ip6O; rw [longO_sh h hs]; show (if shL a = shL a then some a else none) = _; rw [if_pos rfl]
/-! A form of the host that can be reckoned. -/
def bd10 (v : Nat) : List UInt8 := if v < 10 then [hexd v] else if v < 100 then [hexd (v / 10), hexd (v % 10)] else [hexd (v / 100), hexd (v / 10 % 10), hexd (v % 10)]
theorem bd10_eq (v : Nat) (h : v ≤ 255) : bdg 10 v = bd10 v := by
  unfold bd10; by_cases a : v < 10
  · rw [if_pos a, bdg_small a (by decide)]
  · rw [if_neg a, bdg_great a (by decide)]; by_cases b : v < 100
    · rw [if_pos b, bdg_small (by omega) (by decide)]; rfl
    · rw [if_neg b, bdg_great (by omega) (by decide), bdg_small (by omega) (by decide), show v / 10 / 10 = v / 100 by omega]; rfl
def shwF (v : Nat) : List UInt8 := bd10 (v / 16777216) ++ 46 :: (bd10 (v / 65536 % 256) ++ 46 :: (bd10 (v / 256 % 256) ++ 46 :: bd10 (v % 256)))
theorem shwF_eq (v : Nat) (h : v < 4294967296) : shw v = shwF v := by
  unfold shw shwF; simp only [dec_bdg]; rw [bd10_eq _ (by omega), bd10_eq _ (by omega), bd10_eq _ (by omega), bd10_eq _ (by omega)]
def hostF (sp : Bool) (s : List UInt8) : Option (List UInt8) :=
  if s.head? = some 91 then (longO s).map (fun a => 91 :: (shF a ++ [93])) else if sp = true then ((nam (Pct.decd s)).bind fun n => if ends n = true then (prs n).map shwF else some n) else otherO s
theorem hostF_eq (sp : Bool) (s : List UInt8) : hostO sp s = hostF sp s := by
  unfold hostO hostF
  split
  · cases hl : longO s with
    | none => rfl
    | some a =>
      show some (shL a) = _; unfold shL; rw [shF_eq a (longO_good hl).2]; rfl
  · split
    · unfold nameO
      cases nam (Pct.decd s) with
      | none => rfl
      | some n =>
        show (if ends n = true then (prs n).map shw else some n) = (if ends n = true then (prs n).map shwF else some n)
        split
        · cases hp : prs n with
          | none => rfl
          | some v => exact congrArg some (shwF_eq v (prs_lt hp))
        · rfl
    · rfl
/-! How long they are. -/
theorem shw6_len (a : List Nat) (h : a.length = 8) (hs : i6small a) : (shw6 a).length ≤ 100 := by
  unfold shw6; have h1 := jp_len (a.take (rowOf (zb a)).1) (small_take hs _); have h2 := jp_len (a.drop (rowOf (zb a)).2) (small_drop hs _); rw [List.length_take] at h1; rw [List.length_drop] at h2; rw [List.length_append]
  split
  · simp only [List.length_cons]; omega
  · simp only [List.length_nil]; omega
theorem shw_small (v : Nat) (h : v < 4294967296) : (shw v).length ≤ 254 := (nam_stays (nam_shw v h)).2.2
theorem host_len {sp : Bool} {s t : List UInt8} (h : hostO sp s = some t) (hs : s.length ≤ 100) : t.length ≤ 100000 := by
  unfold hostO at h
  split at h
  · obtain ⟨a, ha, rfl⟩ := Option.map_eq_some_iff.1 h; obtain ⟨h8, hsm⟩ := longO_good ha; have := shw6_len a h8 hsm; unfold shL; simp; omega
  · split at h
    · unfold nameO at h; obtain ⟨n, hn, h2⟩ := Option.bind_eq_some_iff.1 h
      split at h2
      · obtain ⟨v, hv, rfl⟩ := Option.map_eq_some_iff.1 h2; have := shw_small v (prs_lt hv); omega
      · simp only [Option.some.injEq] at h2; subst h2; have := (nam_stays hn).2.2; omega
    · unfold otherO at h
      split at h
      · cases h
      · simp only [Option.some.injEq] at h; subst h; have := Pct.encd_len 0 s; omega
end Go.Proofs.YtenlampiiodkhaaGreatDoor
