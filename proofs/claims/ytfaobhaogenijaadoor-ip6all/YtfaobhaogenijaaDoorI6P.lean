/-
  Plain facts of long numbers of hosts: words, pieces, addresses. Nothing is proved of the program here.
-/
import Derived.Test.YtfaobhaogenijaaDoorI4P
namespace Go.Proofs.YtfaobhaogenijaaDoor
set_option linter.unusedVariables false
open Go.RowKit

/-- A word of one to four digits; a number from 0 to 255 in tens, without a leading nought. -/
def hexW (p : List UInt8) : Option Nat := if p ≠ [] ∧ p.length ≤ 4 ∧ okD 16 p = true then some (val 16 p) else none
def tenW (p : List UInt8) : Option Nat := if p ≠ [] ∧ p.length ≤ 3 ∧ ¬ (1 < p.length ∧ p.getD 0 0 = 48) ∧ okD 10 p = true ∧ val 10 p ≤ 255 then some (val 10 p) else none
def fourL : List (List UInt8) → Option (List Nat)
  | [a, b, c, d] => (tenW a).bind fun a => (tenW b).bind fun b => (tenW c).bind fun c => (tenW d).bind fun d => some [a * 256 + b, c * 256 + d]
  | _ => none
/-- Four numbers as two pieces: as the document reads them; by way of package ip4. -/
def fourW (p : List UInt8) : Option (List Nat) := fourL (pcs 46 p)
def fourP (p : List UInt8) : Option (List Nat) := (prs p).bind fun n => if shw n = p then some [n / 65536, n % 65536] else none

/-- Texts side by side, with a sign between. -/
def jb (c : UInt8) : List (List UInt8) → List UInt8
  | [] => []
  | [p] => p
  | p :: q :: t => p ++ c :: jb c (q :: t)
theorem jb_cons (c : UInt8) (p : List UInt8) (t : List (List UInt8)) (h : t ≠ []) : jb c (p :: t) = p ++ c :: jb c t := by
  cases t with
  | nil => exact absurd rfl h
  | cons q t => rfl
theorem jb_pcs (c : UInt8) : ∀ s : List UInt8, jb c (pcs c s) = s
  | [] => rfl
  | x :: l => by
    have ih := jb_pcs c l
    have hne := pcs_ne c l
    rw [pcs]
    by_cases h : x = c
    · rw [if_pos h, jb_cons c _ _ hne, ih, h]
      rfl
    · rw [if_neg h]
      cases hp : pcs c l with
      | nil => exact absurd hp hne
      | cons y t =>
        rw [hp] at ih
        show jb c ((x :: y) :: t) = _
        cases t with
        | nil =>
          have : y = l := ih
          rw [← this]
          rfl
        | cons z t =>
          have : y ++ c :: jb c (z :: t) = l := ih
          rw [← this]
          rfl
theorem pcs_jb (c : UInt8) : ∀ ps : List (List UInt8), ps ≠ [] → (∀ p ∈ ps, ∀ x ∈ p, x ≠ c) → pcs c (jb c ps) = ps
  | [], h, _ => absurd rfl h
  | [p], _, h => pcs_one c p (h p (by simp))
  | p :: q :: t, _, h => by
    show pcs c (p ++ c :: jb c (q :: t)) = _
    rw [pcs_app c p _ (h p (by simp)), pcs_jb c (q :: t) (by simp) fun x hx => h x (List.mem_cons_of_mem _ hx)]

theorem dec_hexd : ∀ x : Fin 256, dgV (UInt8.ofNat x.val) < 10 → hexd (dgV (UInt8.ofNat x.val)) = UInt8.ofNat x.val := by decide +kernel
theorem dec_back (x : UInt8) (h : dgV x < 10) : hexd (dgV x) = x := by
  have e : UInt8.ofNat x.toNat = x := by simp
  have := dec_hexd ⟨x.toNat, x.toNat_lt⟩
  simp only [e] at this
  exact this h
theorem ten_head {x : UInt8} (h : dgV x < 10) (h0 : dgV x = 0) : x = 48 := by
  rw [← dec_back x h, h0]
  rfl
theorem tenW_bdg (v : Nat) (h : v ≤ 255) : tenW (bdg 10 v) = some v := by
  have e := bdg_val 10 (by decide) (by decide) v
  have h2 := bdg_ok 10 (by decide) (by decide) v
  have h3 : (bdg 10 v).length ≤ 3 := by
    by_cases a : v < 10
    · rw [bdg_small a (by decide)]; simp
    · rw [bdg_great a (by decide)]
      by_cases b : v / 10 < 10
      · rw [bdg_small b (by decide)]; simp
      · rw [bdg_great b (by decide), bdg_small (by omega) (by decide)]; simp
  have h6 : ¬ (1 < (bdg 10 v).length ∧ (bdg 10 v).getD 0 0 = 48) := ?_
  · unfold tenW
    rw [if_pos ⟨bdg_ne _ _, h3, h6, h2, by rw [e]; exact h⟩, e]
  rintro ⟨h4, h5⟩
  rcases Nat.eq_zero_or_pos v with h0 | h0
  · subst h0
    rw [bdg_small (by decide) (by decide)] at h4
    simp at h4
  · exact bdg_head 10 (by decide) (by decide) v h0 h5
theorem tenW_is {p : List UInt8} {v : Nat} (h : tenW p = some v) : p = bdg 10 v ∧ v ≤ 255 := by
  unfold tenW at h
  split at h
  · rename_i hc
    obtain ⟨h1, h2, h3, h4, h5⟩ := hc
    simp only [Option.some.injEq] at h
    subst h
    refine ⟨?_, h5⟩
    unfold okD at h4
    rw [List.all_eq_true] at h4
    match p, h1, h2, h3, h4 with
    | [x], _, _, _, h4 =>
      have hx := h4 x (by simp)
      simp at hx
      show [x] = bdg 10 (0 * 10 + dgV x)
      rw [Nat.zero_mul, Nat.zero_add, bdg_small hx (by decide), dec_back x hx]
    | [x, y], _, _, h3, h4 =>
      have hx := h4 x (by simp)
      have hy := h4 y (by simp)
      simp at hx hy
      have h0 : dgV x ≠ 0 := fun e => h3 ⟨by simp, ten_head hx e⟩
      show [x, y] = bdg 10 ((0 * 10 + dgV x) * 10 + dgV y)
      rw [bdg_great (by omega) (by decide), show ((0 * 10 + dgV x) * 10 + dgV y) / 10 = dgV x by omega, show ((0 * 10 + dgV x) * 10 + dgV y) % 10 = dgV y by omega, bdg_small hx (by decide), dec_back x hx, dec_back y hy]
      rfl
    | [x, y, z], _, _, h3, h4 =>
      have hx := h4 x (by simp)
      have hy := h4 y (by simp)
      have hz := h4 z (by simp)
      simp at hx hy hz
      have h0 : dgV x ≠ 0 := fun e => h3 ⟨by simp, ten_head hx e⟩
      show [x, y, z] = bdg 10 (((0 * 10 + dgV x) * 10 + dgV y) * 10 + dgV z)
      rw [bdg_great (by omega) (by decide), show (((0 * 10 + dgV x) * 10 + dgV y) * 10 + dgV z) / 10 = dgV x * 10 + dgV y by omega, show (((0 * 10 + dgV x) * 10 + dgV y) * 10 + dgV z) % 10 = dgV z by omega,
        bdg_great (by omega) (by decide), show (dgV x * 10 + dgV y) / 10 = dgV x by omega, show (dgV x * 10 + dgV y) % 10 = dgV y by omega, bdg_small hx (by decide), dec_back x hx, dec_back y hy, dec_back z hz]
      rfl
    | [], h1, _, _, _ => exact absurd rfl h1
    | _ :: _ :: _ :: _ :: _, _, h2, _, _ => simp at h2
  · cases h
theorem shw_of (a b c d : Nat) (ha : a ≤ 255) (hb : b ≤ 255) (hc : c ≤ 255) (hd : d ≤ 255) : shw (a * 16777216 + b * 65536 + c * 256 + d) = jb 46 [bdg 10 a, bdg 10 b, bdg 10 c, bdg 10 d] := by
  rw [shw_jn, show (a * 16777216 + b * 65536 + c * 256 + d) / 16777216 = a by omega, show (a * 16777216 + b * 65536 + c * 256 + d) / 65536 % 256 = b by omega, show (a * 16777216 + b * 65536 + c * 256 + d) / 256 % 256 = c by omega, show (a * 16777216 + b * 65536 + c * 256 + d) % 256 = d by omega]
  rfl
theorem fourL_four (a b c d : List UInt8) : fourL [a, b, c, d] = (tenW a).bind fun a => (tenW b).bind fun b => (tenW c).bind fun c => (tenW d).bind fun d => some [a * 256 + b, c * 256 + d] := rfl
theorem fourL_is {ps : List (List UInt8)} {r : List Nat} (h : fourL ps = some r) : ∃ a b c d, a ≤ 255 ∧ b ≤ 255 ∧ c ≤ 255 ∧ d ≤ 255 ∧ ps = [bdg 10 a, bdg 10 b, bdg 10 c, bdg 10 d] ∧ r = [a * 256 + b, c * 256 + d] := by
  match ps, h with
  | [a, b, c, d], h =>
    rw [fourL_four] at h
    simp only [Option.bind_eq_some_iff, Option.some.injEq] at h
    obtain ⟨a', ha, b', hb, c', hc, d', hd, hr⟩ := h
    obtain ⟨rfl, ha2⟩ := tenW_is ha
    obtain ⟨rfl, hb2⟩ := tenW_is hb
    obtain ⟨rfl, hc2⟩ := tenW_is hc
    obtain ⟨rfl, hd2⟩ := tenW_is hd
    exact ⟨a', b', c', d', ha2, hb2, hc2, hd2, rfl, hr.symm⟩
  | [], h => cases h
  | [_], h => cases h
  | [_, _], h => cases h
  | [_, _, _], h => cases h
  | _ :: _ :: _ :: _ :: _ :: _, h => cases h
theorem fourL_bdg (a b c d : Nat) (ha : a ≤ 255) (hb : b ≤ 255) (hc : c ≤ 255) (hd : d ≤ 255) : fourL [bdg 10 a, bdg 10 b, bdg 10 c, bdg 10 d] = some [a * 256 + b, c * 256 + d] := by
  rw [fourL_four, tenW_bdg a ha, tenW_bdg b hb, tenW_bdg c hc, tenW_bdg d hd]
  rfl
theorem four_read {p : List UInt8} {r : List Nat} (h : fourW p = some r) : ∃ n, n < 4294967296 ∧ shw n = p ∧ prs p = some n ∧ r = [n / 65536, n % 65536] := by
  obtain ⟨a, b, c, d, ha, hb, hc, hd, hq, hr⟩ := fourL_is h
  have hj := jb_pcs 46 p
  rw [hq, ← shw_of a b c d ha hb hc hd] at hj
  have := (show_back (a * 16777216 + b * 65536 + c * 256 + d) (by omega)).1
  rw [hj] at this
  refine ⟨_, by omega, hj, this, ?_⟩
  rw [hr, show (a * 16777216 + b * 65536 + c * 256 + d) / 65536 = a * 256 + b by omega, show (a * 16777216 + b * 65536 + c * 256 + d) % 65536 = c * 256 + d by omega]
theorem four_shw (n : Nat) (hn : n < 4294967296) : fourW (shw n) = some [n / 65536, n % 65536] := by
  unfold fourW
  rw [shw_jn]
  have hjj : jn [bdg 10 (n / 16777216), bdg 10 (n / 65536 % 256), bdg 10 (n / 256 % 256), bdg 10 (n % 256)] = jb 46 [bdg 10 (n / 16777216), bdg 10 (n / 65536 % 256), bdg 10 (n / 256 % 256), bdg 10 (n % 256)] := rfl
  rw [hjj, pcs_jb 46 _ (by simp) fun q hq => (nod4 _ _ _ _ q hq).1, fourL_bdg _ _ _ _ (by omega) (by omega) (by omega) (by omega)]
  rw [show n / 16777216 * 256 + n / 65536 % 256 = n / 65536 by omega, show n / 256 % 256 * 256 + n % 256 = n % 65536 by omega]
theorem four_eq (p : List UInt8) (hlt : ∀ n, prs p = some n → n < 4294967296) : fourP p = fourW p := by
  unfold fourP
  cases hf : fourW p with
  | some r =>
    obtain ⟨n, hn, hs, hp, hr⟩ := four_read hf
    rw [hp]
    show (if shw n = p then some [n / 65536, n % 65536] else none) = _
    rw [if_pos hs, hr]
  | none =>
    cases hp : prs p with
    | none => rfl
    | some n =>
      show (if shw n = p then some [n / 65536, n % 65536] else none) = _
      rw [if_neg]
      intro hs
      have := four_shw n (hlt n hp)
      rw [hs, hf] at this
      cases this

/-! Pieces -/
def pcsG (tail : Bool) : List (List UInt8) → Option (List Nat)
  | [] => some []
  | p :: ps => if tail = true ∧ ps = [] ∧ (46 : UInt8) ∈ p then fourW p else (hexW p).bind fun v => (pcsG tail ps).map fun l => v :: l
def piecesO (tail : Bool) (s : List UInt8) : Option (List Nat) := if s = [] then some [] else pcsG tail (pcs 58 s)
/-- What stands ahead of the first two colons, and behind. -/
def gapAt : List UInt8 → Option (List UInt8 × List UInt8)
  | [] => none
  | x :: l => if x = 58 ∧ l.head? = some 58 then some ([], l.tail) else (gapAt l).map fun q => (x :: q.1, q.2)
def lay8 (x y : List Nat) : Option (List Nat) := if x.length + y.length ≤ 7 then some (x ++ List.replicate (8 - x.length - y.length) 0 ++ y) else none
/-- The document's Parse; none: ErrHost. -/
def par6 (s : List UInt8) : Option (List Nat) :=
  match gapAt s with
  | some q => (piecesO false q.1).bind fun x => (piecesO true q.2).bind fun y => lay8 x y
  | none => (piecesO true s).bind fun x => if x.length = 8 then some x else none

/-- What is left to read, behind these pieces (and a gap behind so many of them). -/
def finO (t : List UInt8) (ps : List Nat) : Option Nat → Option (List Nat)
  | some g => (piecesO true t).bind fun y => lay8 (ps.take g) (ps.drop g ++ y)
  | none => match gapAt t with
    | some q => (piecesO false q.1).bind fun x => (piecesO true q.2).bind fun y => lay8 (ps ++ x) y
    | none => (piecesO true t).bind fun x => if (ps ++ x).length = 8 then some (ps ++ x) else none
theorem finO_start (s : List UInt8) : finO s [] none = par6 s := rfl
theorem finO_colons (r : List UInt8) : finO r [] (some 0) = par6 (58 :: 58 :: r) := by
  unfold finO par6
  have : gapAt (58 :: 58 :: r) = some ([], r) := by
    rw [gapAt, if_pos ⟨rfl, rfl⟩]
    rfl
  rw [this]
  show _ = (piecesO true r).bind fun y => lay8 [] y
  simp

theorem hexW_nil : hexW [] = none := by simp [hexW]
theorem dgV_46 : dgV 46 = 16 := by decide
theorem hexW_dot {p : List UInt8} (h : (46 : UInt8) ∈ p) : hexW p = none := by
  unfold hexW
  rw [if_neg]
  rintro ⟨_, _, h3⟩
  unfold okD at h3
  rw [List.all_eq_true] at h3
  have := h3 46 h
  rw [dgV_46] at this
  simp at this
def noCol (w : List UInt8) : Prop := ∀ x ∈ w, x ≠ 58
theorem gapAt_word {w : List UInt8} (h : noCol w) : gapAt w = none := by
  induction w with
  | nil => rfl
  | cons x l ih =>
    rw [gapAt, if_neg fun e => h x (by simp) e.1, ih fun y hy => h y (List.mem_cons_of_mem _ hy)]
    rfl
theorem gapAt_app {w : List UInt8} (h : noCol w) (hw : w ≠ []) (r : List UInt8) : gapAt (w ++ 58 :: 58 :: r) = some (w, r) := by
  induction w with
  | nil => exact absurd rfl hw
  | cons x l ih =>
    rw [List.cons_append, gapAt, if_neg fun e => h x (by simp) e.1]
    by_cases hl : l = []
    · subst hl
      rw [List.nil_append, gapAt, if_pos ⟨rfl, rfl⟩]
      rfl
    · rw [ih (fun y hy => h y (List.mem_cons_of_mem _ hy)) hl]
      rfl
theorem gapAt_col {w : List UInt8} (h : noCol w) (r : List UInt8) (hr : r.head? ≠ some 58) : gapAt (w ++ 58 :: r) = (gapAt r).map fun q => (w ++ 58 :: q.1, q.2) := by
  induction w with
  | nil =>
    rw [List.nil_append, gapAt, if_neg fun e => hr e.2]
    rfl
  | cons x l ih =>
    rw [List.cons_append, gapAt, if_neg fun e => h x (by simp) e.1, ih fun y hy => h y (List.mem_cons_of_mem _ hy)]
    cases gapAt r <;> rfl
theorem gapAt_ne {r : List UInt8} (hr : r.head? ≠ some 58) {q : List UInt8 × List UInt8} (h : gapAt r = some q) : q.1 ≠ [] := by
  cases r with
  | nil => cases h
  | cons x l =>
    rw [gapAt, if_neg fun e => hr (by rw [e.1]; rfl)] at h
    cases hg : gapAt l with
    | none => rw [hg] at h; cases h
    | some p =>
      rw [hg] at h
      simp only [Option.map_some, Option.some.injEq] at h
      rw [← h]
      simp
theorem pieces_one {w : List UInt8} (h : noCol w) (hw : w ≠ []) (tail : Bool) : piecesO tail w = if tail = true ∧ (46 : UInt8) ∈ w then fourW w else (hexW w).map fun v => [v] := by
  unfold piecesO
  rw [if_neg hw, pcs_one 58 w h, pcsG]
  simp only [pcsG, true_and]
  split
  · rfl
  · cases hexW w <;> rfl
theorem pieces_more {w : List UInt8} (h : noCol w) (r : List UInt8) (hr : r ≠ []) (tail : Bool) : piecesO tail (w ++ 58 :: r) = (hexW w).bind fun v => (piecesO tail r).map fun l => v :: l := by
  unfold piecesO
  rw [if_neg (by simp), if_neg hr, pcs_app 58 w r h, pcsG, if_neg fun e => pcs_ne 58 r e.2.1]
theorem pieces_end {w : List UInt8} (h : noCol w) (tail : Bool) : piecesO tail (w ++ [58]) = none := by
  unfold piecesO
  rw [if_neg (by simp), pcs_app 58 w [] h, pcsG, if_neg (by simp [pcs])]
  have : pcsG tail (pcs 58 []) = none := by
    show pcsG tail [[]] = none
    rw [pcsG, if_neg (by simp), hexW_nil]
    rfl
  rw [this]
  cases hexW w <;> rfl
theorem pieces_gap {w : List UInt8} (h : noCol w) (r : List UInt8) (tail : Bool) : piecesO tail (w ++ 58 :: 58 :: r) = none := by
  unfold piecesO
  rw [if_neg (by simp), pcs_app 58 w (58 :: r) h, pcsG]
  have e : pcs 58 (58 :: r) = [] :: pcs 58 r := by rw [pcs, if_pos rfl]
  rw [e, if_neg (by simp)]
  have : pcsG tail ([] :: pcs 58 r) = none := by
    rw [pcsG, if_neg (by simp [pcs_ne]), hexW_nil]
    rfl
  rw [this]
  cases hexW w <;> rfl

/-- A word's pieces: the last word, another one. -/
def wordV (w : List UInt8) : Option (List Nat) := if (46 : UInt8) ∈ w then fourW w else (hexW w).map fun v => [v]
theorem lay8_many {x y : List Nat} (h : 7 < x.length + y.length) : lay8 x y = none := by
  unfold lay8
  rw [if_neg (by omega)]
theorem fin_many (t : List UInt8) (ps : List Nat) (g : Option Nat) (hg : ∀ k, g = some k → k ≤ ps.length) (h : 8 < ps.length) : finO t ps g = none := by
  cases g with
  | some g =>
    have := hg g rfl
    unfold finO
    cases piecesO true t with
    | none => rfl
    | some y =>
      show lay8 _ _ = none
      exact lay8_many (by rw [List.length_append, List.length_take, List.length_drop]; omega)
  | none =>
    unfold finO
    cases gapAt t with
    | some q =>
      show (piecesO false q.1).bind _ = none
      cases piecesO false q.1 with
      | none => rfl
      | some x =>
        show (piecesO true q.2).bind _ = none
        cases piecesO true q.2 with
        | none => rfl
        | some y =>
          show lay8 _ _ = none
          exact lay8_many (by rw [List.length_append]; omega)
    | none =>
      show (piecesO true t).bind _ = none
      cases piecesO true t with
      | none => rfl
      | some x =>
        show (if _ then _ else _) = none
        rw [if_neg (by rw [List.length_append]; omega)]
theorem fin_nil (ps : List Nat) : finO [] ps none = if ps.length = 8 then some ps else none := by
  show (if (ps ++ []).length = 8 then some (ps ++ []) else none) = _
  rw [List.append_nil]
theorem fin_nil_gap (ps : List Nat) (g : Nat) (hg : g ≤ ps.length) : finO [] ps (some g) = if ps.length ≤ 7 then some (ps.take g ++ List.replicate (8 - ps.length) 0 ++ ps.drop g) else none := by
  show lay8 (ps.take g) (ps.drop g ++ []) = _
  unfold lay8
  rw [List.append_nil, List.length_take, List.length_drop, show min g ps.length + (ps.length - g) = ps.length by omega, show 8 - min g ps.length - (ps.length - g) = 8 - ps.length by omega]
theorem fin_last {w : List UInt8} (h : noCol w) (hw : w ≠ []) (ps : List Nat) (g : Option Nat) (hg : ∀ k, g = some k → k ≤ ps.length) : finO w ps g = (wordV w).bind fun v => finO [] (ps ++ v) g := by
  have e : piecesO true w = wordV w := by
    rw [pieces_one h hw]
    unfold wordV
    simp
  cases g with
  | some g =>
    have := hg g rfl
    unfold finO
    rw [e]
    cases wordV w with
    | none => rfl
    | some v =>
      show lay8 _ _ = lay8 _ _
      rw [List.take_append_of_le_length this, List.drop_append_of_le_length this, List.append_nil]
  | none =>
    unfold finO
    rw [gapAt_word h, e]
    cases wordV w with
    | none => rfl
    | some v =>
      show (if _ then _ else _) = (if (ps ++ v ++ []).length = 8 then some (ps ++ v ++ []) else none)
      rw [List.append_nil]
theorem fin_gap {w : List UInt8} (h : noCol w) (hw : w ≠ []) (r : List UInt8) (ps : List Nat) : finO (w ++ 58 :: 58 :: r) ps none = (hexW w).bind fun v => finO r (ps ++ [v]) (some (ps.length + 1)) := by
  unfold finO
  rw [gapAt_app h hw]
  show (piecesO false w).bind _ = _
  rw [pieces_one h hw, if_neg (by simp)]
  cases hexW w with
  | none => rfl
  | some v =>
    show (piecesO true r).bind _ = (piecesO true r).bind _
    congr 1
    funext y
    rw [List.take_of_length_le (by simp), List.drop_of_length_le (by simp), List.nil_append]
theorem fin_gap_two {w : List UInt8} (h : noCol w) (r : List UInt8) (ps : List Nat) (g : Nat) : finO (w ++ 58 :: 58 :: r) ps (some g) = none := by
  unfold finO
  rw [pieces_gap h]
  rfl
theorem fin_colon {w : List UInt8} (h : noCol w) (r : List UInt8) (hr : r ≠ []) (hr2 : r.head? ≠ some 58) (ps : List Nat) (g : Option Nat) (hg : ∀ k, g = some k → k ≤ ps.length) : finO (w ++ 58 :: r) ps g = (hexW w).bind fun v => finO r (ps ++ [v]) g := by
  cases g with
  | some g =>
    have hg := hg g rfl
    unfold finO
    rw [pieces_more h r hr]
    cases hexW w with
    | none => rfl
    | some v =>
      show ((piecesO true r).map _).bind _ = (piecesO true r).bind _
      cases piecesO true r with
      | none => rfl
      | some y =>
        show lay8 _ _ = lay8 _ _
        rw [List.take_append_of_le_length hg, List.drop_append_of_le_length hg, List.append_assoc]
        rfl
  | none =>
    unfold finO
    rw [gapAt_col h r hr2]
    cases hq : gapAt r with
    | some q =>
      have hn := gapAt_ne hr2 hq
      show (piecesO false (w ++ 58 :: q.1)).bind _ = _
      rw [pieces_more h q.1 hn]
      cases hexW w with
      | none => rfl
      | some v =>
        show ((piecesO false q.1).map _).bind _ = (piecesO false q.1).bind _
        cases piecesO false q.1 with
        | none => rfl
        | some x =>
          show (piecesO true q.2).bind _ = (piecesO true q.2).bind _
          congr 1
          funext y
          rw [List.append_assoc]
          rfl
    | none =>
      show (piecesO true (w ++ 58 :: r)).bind _ = _
      rw [pieces_more h r hr]
      cases hexW w with
      | none => rfl
      | some v =>
        show ((piecesO true r).map _).bind _ = (piecesO true r).bind _
        cases piecesO true r with
        | none => rfl
        | some y =>
          show (if _ then _ else _) = (if _ then _ else _)
          rw [List.append_assoc]
          rfl
theorem fin_end {w : List UInt8} (h : noCol w) (ps : List Nat) (g : Option Nat) : finO (w ++ [58]) ps g = none := by
  cases g with
  | some g =>
    unfold finO
    rw [pieces_end h]
    rfl
  | none =>
    unfold finO
    rw [gapAt_col h [] (by simp)]
    show (piecesO true (w ++ [58])).bind _ = none
    rw [pieces_end h]
    rfl
end Go.Proofs.YtfaobhaogenijaaDoor
