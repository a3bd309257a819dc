/-
  Plain facts of long numbers of hosts: how they are shown; what is shown is read. Nothing is proved of the program here.
-/
import Derived.Test.YtfaobhaogenijaaDoorI6P
namespace Go.Proofs.YtfaobhaogenijaaDoor
set_option linter.unusedVariables false
open Go.RowKit

/-! Words that are pieces -/
def hv (p : List UInt8) : Nat := (hexW p).getD 0
def good (p : List UInt8) : Prop := hexW p = some (hv p)
theorem good_of {p : List UInt8} {v : Nat} (h : hexW p = some v) : good p ∧ hv p = v := by
  unfold good hv
  rw [h]
  exact ⟨rfl, rfl⟩
theorem hexW_parts {p : List UInt8} {v : Nat} (h : hexW p = some v) : p ≠ [] ∧ p.length ≤ 4 ∧ okD 16 p = true ∧ val 16 p = v := by
  unfold hexW at h
  split at h
  · rename_i hc
    simp only [Option.some.injEq] at h
    exact ⟨hc.1, hc.2.1, hc.2.2, h⟩
  · cases h
theorem dgV_58 : dgV 58 = 16 := by decide
theorem good_ne {p : List UInt8} (h : good p) : p ≠ [] := (hexW_parts h).1
theorem good_col {p : List UInt8} (h : good p) : noCol p := by
  intro x hx e
  have := (hexW_parts h).2.2.1
  unfold okD at this
  rw [List.all_eq_true] at this
  have := this x hx
  rw [e, dgV_58] at this
  simp at this
theorem good_dot {p : List UInt8} (h : good p) : ¬ (46 : UInt8) ∈ p := by
  intro hx
  have := hexW_dot hx
  rw [h] at this
  cases this
theorem pcsG_good (tail : Bool) : ∀ ps : List (List UInt8), (∀ p ∈ ps, good p) → pcsG tail ps = some (ps.map hv)
  | [], _ => rfl
  | p :: t, h => by
    rw [pcsG, if_neg fun e => good_dot (h p (by simp)) e.2.2, h p (by simp), pcsG_good tail t fun q hq => h q (List.mem_cons_of_mem _ hq)]
    rfl
theorem pcsG_empty (tail : Bool) : ∀ ps : List (List UInt8), [] ∈ ps → pcsG tail ps = none
  | [], h => by cases h
  | p :: t, h => by
    by_cases hp : p = []
    · rw [pcsG, hp, if_neg (by simp), hexW_nil]
      rfl
    · have ht : [] ∈ t := by
        rcases List.mem_cons.1 h with e | e
        · exact absurd e.symm hp
        · exact e
      have hne : ¬ (tail = true ∧ t = [] ∧ (46 : UInt8) ∈ p) := by
        rintro ⟨_, e, _⟩
        rw [e] at ht
        cases ht
      rw [pcsG, if_neg hne, pcsG_empty tail t ht]
      cases hexW p <;> rfl
theorem pieces_jb (tail : Bool) (ps : List (List UInt8)) (h : ∀ p ∈ ps, good p) : piecesO tail (jb 58 ps) = some (ps.map hv) := by
  unfold piecesO
  cases ps with
  | nil => rfl
  | cons p t =>
    have hne : jb 58 (p :: t) ≠ [] := by
      have := good_ne (h p (by simp))
      cases t with
      | nil => exact this
      | cons q t => simp [jb]
    rw [if_neg hne, pcs_jb 58 _ (by simp) fun q hq => good_col (h q hq), pcsG_good tail _ h]
theorem pieces_tail (ps : List (List UInt8)) (h : ∀ p ∈ ps, good p) (w : List UInt8) (hw : noCol w) (h46 : (46 : UInt8) ∈ w) (v : List Nat) (hv4 : fourW w = some v) : piecesO true (jb 58 (ps ++ [w])) = some (ps.map hv ++ v) := by
  have key : pcsG true (ps ++ [w]) = some (ps.map hv ++ v) := by
    induction ps with
    | nil =>
      rw [List.nil_append, pcsG, if_pos ⟨rfl, rfl, h46⟩, hv4]
      rfl
    | cons p t ih =>
      rw [List.cons_append, pcsG, if_neg (by simp), h p (by simp), ih fun q hq => h q (List.mem_cons_of_mem _ hq)]
      rfl
  have hp : pcs 58 (jb 58 (ps ++ [w])) = ps ++ [w] := pcs_jb 58 _ (by simp) fun q hq => by
    rcases List.mem_append.1 hq with hq | hq
    · exact good_col (h q hq)
    · rw [List.mem_singleton] at hq
      rw [hq]
      exact hw
  unfold piecesO
  rw [if_neg, hp, key]
  intro e
  rw [e] at hp
  have h1 : ([] : List UInt8) ∈ ps ++ [w] := by rw [← hp]; simp [pcs]
  rcases List.mem_append.1 h1 with h1 | h1
  · exact good_ne (h _ h1) rfl
  · rw [List.mem_singleton] at h1
    rw [← h1] at h46
    cases h46
theorem pieces_bad (tail : Bool) (u : List UInt8) : piecesO tail (u ++ [58]) = none := by
  unfold piecesO
  rw [if_neg (by simp), pcs_app2 58 u []]
  exact pcsG_empty tail _ (by simp [pcs])
theorem jb_head {ps : List (List UInt8)} (h : ∀ p ∈ ps, good p) : (jb 58 ps).head? ≠ some 58 := by
  cases ps with
  | nil => simp [jb]
  | cons p t =>
    have h1 := good_ne (h p (by simp))
    have h2 := good_col (h p (by simp))
    cases p with
    | nil => exact absurd rfl h1
    | cons x l =>
      have : x ≠ 58 := h2 x (by simp)
      cases t with
      | nil => simpa [jb] using this
      | cons q t => simpa [jb] using this
theorem gapAt_jb (ps : List (List UInt8)) (h : ∀ p ∈ ps, good p) (r : List UInt8) : gapAt (jb 58 ps ++ 58 :: 58 :: r) = some (jb 58 ps, r) := by
  induction ps with
  | nil =>
    show gapAt (58 :: 58 :: r) = _
    rw [gapAt, if_pos ⟨rfl, rfl⟩]
    rfl
  | cons p t ih =>
    have hc := good_col (h p (by simp))
    have hn := good_ne (h p (by simp))
    by_cases ht : t = []
    · subst ht
      exact gapAt_app hc hn r
    · have hgt : ∀ q ∈ t, good q := fun q hq => h q (List.mem_cons_of_mem _ hq)
      rw [jb_cons 58 p t ht, List.append_assoc, List.cons_append, gapAt_col hc, ih hgt]
      · rfl
      · have := jb_head hgt
        cases hj : jb 58 t with
        | nil =>
          have := pcs_jb 58 t ht fun q hq => good_col (hgt q hq)
          rw [hj] at this
          have h3 : ([] : List UInt8) ∈ t := by rw [← this]; simp [pcs]
          exact absurd rfl (good_ne (hgt _ h3))
        | cons x l =>
          rw [hj] at this
          simpa using this
theorem gapAt_no (ps : List (List UInt8)) (h : ∀ p ∈ ps, good p) (w : List UInt8) (hw : noCol w) (hw0 : w ≠ []) : gapAt (jb 58 (ps ++ [w])) = none := by
  induction ps with
  | nil => exact gapAt_word hw
  | cons p t ih =>
    have hgt : ∀ q ∈ t, good q := fun q hq => h q (List.mem_cons_of_mem _ hq)
    rw [List.cons_append, jb_cons 58 p _ (by simp), gapAt_col (good_col (h p (by simp))), ih hgt]
    · rfl
    · cases t with
      | nil =>
        cases w with
        | nil => exact absurd rfl hw0
        | cons x l =>
          have := hw x (by simp)
          simpa [jb] using this
      | cons q t =>
        have h1 := good_ne (hgt q (by simp))
        have h2 := good_col (hgt q (by simp))
        cases q with
        | nil => exact absurd rfl h1
        | cons x l =>
          have : x ≠ 58 := h2 x (by simp)
          rw [List.cons_append, jb_cons 58 _ _ (by simp)]
          simpa using this
theorem gapAt_none (ps : List (List UInt8)) (h : ∀ p ∈ ps, good p) : gapAt (jb 58 ps) = none := by
  by_cases hp : ps = []
  · subst hp; rfl
  · obtain ⟨t, w, rfl⟩ : ∃ t w, ps = t ++ [w] := ⟨ps.dropLast, ps.getLast hp, (List.dropLast_concat_getLast hp).symm⟩
    exact gapAt_no t (fun q hq => h q (by simp [hq])) w (good_col (h w (by simp))) (good_ne (h w (by simp)))
/-- Words with a gap between; words without one. -/
theorem par_gap (x y : List (List UInt8)) (hx : ∀ p ∈ x, good p) (hy : ∀ p ∈ y, good p) : par6 (jb 58 x ++ 58 :: 58 :: jb 58 y) = lay8 (x.map hv) (y.map hv) := by
  unfold par6
  rw [gapAt_jb x hx]
  show (piecesO false (jb 58 x)).bind _ = _
  rw [pieces_jb false x hx]
  show (piecesO true (jb 58 y)).bind _ = _
  rw [pieces_jb true y hy]
  rfl
theorem par_gap_bad (x : List (List UInt8)) (hx : ∀ p ∈ x, good p) (u : List UInt8) : par6 (jb 58 x ++ 58 :: 58 :: (u ++ [58])) = none := by
  unfold par6
  rw [gapAt_jb x hx]
  show (piecesO false (jb 58 x)).bind _ = _
  rw [pieces_jb false x hx]
  show (piecesO true (u ++ [58])).bind _ = _
  rw [pieces_bad]
  rfl
theorem par_all (x : List (List UInt8)) (hx : ∀ p ∈ x, good p) : par6 (jb 58 x) = if x.length = 8 then some (x.map hv) else none := by
  unfold par6
  rw [gapAt_none x hx]
  show (piecesO true (jb 58 x)).bind _ = _
  rw [pieces_jb true x hx]
  show (if (x.map hv).length = 8 then _ else _) = _
  rw [List.length_map]
theorem par_tail (x : List (List UInt8)) (hx : ∀ p ∈ x, good p) (w : List UInt8) (hw : noCol w) (h46 : (46 : UInt8) ∈ w) (v : List Nat) (hv4 : fourW w = some v) (hl : x.length + v.length = 8) : par6 (jb 58 (x ++ [w])) = some (x.map hv ++ v) := by
  unfold par6
  rw [gapAt_no x hx w hw (fun e => by rw [e] at h46; cases h46)]
  show (piecesO true (jb 58 (x ++ [w]))).bind _ = _
  rw [pieces_tail x hx w hw h46 v hv4]
  show (if (x.map hv ++ v).length = 8 then _ else _) = _
  rw [if_pos (by rw [List.length_append, List.length_map]; exact hl)]

/-! How they are shown -/
theorem hexW_bdg (v : Nat) (h : v < 65536) : hexW (bdg 16 v) = some v := by
  have h3 : (bdg 16 v).length ≤ 4 := by
    by_cases a : v < 16
    · rw [bdg_small a (by decide)]; simp
    · rw [bdg_great a (by decide)]
      by_cases b : v / 16 < 16
      · rw [bdg_small b (by decide)]; simp
      · rw [bdg_great b (by decide)]
        by_cases c : v / 16 / 16 < 16
        · rw [bdg_small c (by decide)]; simp
        · rw [bdg_great c (by decide), bdg_small (by omega) (by decide)]; simp
  unfold hexW
  rw [if_pos ⟨bdg_ne _ _, h3, bdg_ok 16 (by decide) (by decide) v⟩, bdg_val 16 (by decide) (by decide) v]
def jp (l : List Nat) : List UInt8 := jb 58 (l.map (bdg 16))
def small (l : List Nat) : Prop := ∀ v ∈ l, v < 65536
theorem good_map {l : List Nat} (h : small l) : (∀ p ∈ l.map (bdg 16), good p) ∧ (l.map (bdg 16)).map hv = l := by
  refine ⟨fun p hp => ?_, ?_⟩
  · obtain ⟨v, hv', rfl⟩ := List.mem_map.1 hp
    exact (good_of (hexW_bdg v (h v hv'))).1
  · rw [List.map_map]
    conv => rhs; rw [← List.map_id l]
    apply List.map_congr_left
    intro v hv'
    exact (good_of (hexW_bdg v (h v hv'))).2
def runB : List Bool → Nat
  | true :: l => runB l + 1
  | _ => 0
/-- The document's longest row: behind k places. -/
def drow (bs : List Bool) : Nat → Int × Nat
  | 0 => (-1, 1)
  | k + 1 => if (drow bs k).2 < runB (bs.drop k) then ((k : Int), runB (bs.drop k)) else drow bs k
/-- The program's. -/
def prow (bs : List Bool) : Nat → Nat → Nat → Nat → Nat × Nat
  | 0, _, fr, to => (fr, to)
  | f + 1, i, fr, to => if i < 8 then (if 2 ≤ runB (bs.drop i) ∧ to - fr < runB (bs.drop i) then prow bs f (i + runB (bs.drop i) + 1) i (i + runB (bs.drop i)) else prow bs f (i + runB (bs.drop i) + 1) fr to) else (fr, to)
def rowOf (bs : List Bool) : Nat × Nat := prow bs 9 0 8 8
def rowOk (bs : List Bool) : Bool :=
  let q := rowOf bs
  decide (q.1 ≤ q.2) && decide (q.2 ≤ 8) && (if q.1 < q.2 then decide (drow bs 8 = ((q.1 : Int), q.2 - q.1)) && decide (2 ≤ q.2 - q.1) && ((bs.drop q.1).take (q.2 - q.1)).all id else decide (q.1 = 8) && decide (drow bs 8 = (-1, 1)))
theorem row_all : ∀ a b c d e f g h : Bool, rowOk [a, b, c, d, e, f, g, h] = true := by decide +kernel
theorem row_ok (bs : List Bool) (h : bs.length = 8) : rowOk bs = true := by
  match bs, h with
  | [a, b, c, d, e, f, g, i], _ => exact row_all a b c d e f g i
def zb (a : List Nat) : List Bool := a.map fun x => x == 0
/-- The document's Show. -/
def shw6 (a : List Nat) : List UInt8 := jp (a.take (rowOf (zb a)).1) ++ if (rowOf (zb a)).1 < (rowOf (zb a)).2 then 58 :: 58 :: jp (a.drop (rowOf (zb a)).2) else []
theorem row_facts (a : List Nat) (h : a.length = 8) : (rowOf (zb a)).1 ≤ (rowOf (zb a)).2 ∧ (rowOf (zb a)).2 ≤ 8 ∧ ((rowOf (zb a)).1 < (rowOf (zb a)).2 → drow (zb a) 8 = (((rowOf (zb a)).1 : Int), (rowOf (zb a)).2 - (rowOf (zb a)).1) ∧ 2 ≤ (rowOf (zb a)).2 - (rowOf (zb a)).1 ∧ (a.drop (rowOf (zb a)).1).take ((rowOf (zb a)).2 - (rowOf (zb a)).1) = List.replicate ((rowOf (zb a)).2 - (rowOf (zb a)).1) 0) ∧
    (¬ (rowOf (zb a)).1 < (rowOf (zb a)).2 → (rowOf (zb a)).1 = 8 ∧ drow (zb a) 8 = (-1, 1)) := by
  have hz := row_ok (zb a) (by unfold zb; rw [List.length_map]; exact h)
  unfold rowOk at hz
  simp only [Bool.and_eq_true, decide_eq_true_eq] at hz
  obtain ⟨⟨h1, h2⟩, h3⟩ := hz
  refine ⟨h1, h2, fun hlt => ?_, fun hlt => ?_⟩
  · rw [if_pos hlt] at h3
    simp only [Bool.and_eq_true, decide_eq_true_eq] at h3
    obtain ⟨⟨h4, h5⟩, h6⟩ := h3
    refine ⟨h4, h5, ?_⟩
    generalize (rowOf (zb a)).1 = p at *
    generalize (rowOf (zb a)).2 = q at *
    apply List.eq_replicate_iff.2
    refine ⟨by rw [List.length_take, List.length_drop]; omega, fun x hx => ?_⟩
    unfold zb at h6
    rw [← List.map_drop, ← List.map_take, List.all_map, List.all_eq_true] at h6
    simpa using h6 x hx
  · rw [if_neg hlt] at h3
    simp only [Bool.and_eq_true, decide_eq_true_eq] at h3
    exact h3
theorem small_take {a : List Nat} (h : small a) (k : Nat) : small (a.take k) := fun v hv' => h v (List.mem_of_mem_take hv')
theorem small_drop {a : List Nat} (h : small a) (k : Nat) : small (a.drop k) := fun v hv' => h v (List.mem_of_mem_drop hv')
/-- What is read behind large letters for small ones is the same. -/
def up (x : UInt8) : UInt8 := if 97 ≤ x.toNat ∧ x.toNat ≤ 102 then x - 32 else x
theorem up_dg : ∀ x : Fin 256, dgV (up (UInt8.ofNat x.val)) = dgV (UInt8.ofNat x.val) := by decide +kernel
theorem up_dgV (x : UInt8) : dgV (up x) = dgV x := by
  have e : UInt8.ofNat x.toNat = x := by simp
  have := up_dg ⟨x.toNat, x.toNat_lt⟩
  simpa only [e] using this
theorem hexW_up (p : List UInt8) : hexW (p.map up) = hexW p := by
  have h1 : okD 16 (p.map up) = okD 16 p := by
    unfold okD
    rw [List.all_map]
    congr 1
    funext x
    show decide (dgV (up x) < 16) = _
    rw [up_dgV]
  have h2 : val 16 (p.map up) = val 16 p := by
    unfold val
    rw [List.foldl_map]
    congr 1
    funext n x
    rw [up_dgV]
  unfold hexW
  rw [h1, h2, List.length_map]
  by_cases hp : p = []
  · rw [hp]; rfl
  · have : p.map up ≠ [] := by simpa using hp
    simp [hp]
theorem jb_up : ∀ ps : List (List UInt8), (jb 58 ps).map up = jb 58 (ps.map fun p => p.map up)
  | [] => rfl
  | [p] => rfl
  | p :: q :: t => by
    show (p ++ 58 :: jb 58 (q :: t)).map up = _
    rw [List.map_append, List.map_cons, jb_up (q :: t), show up 58 = 58 by decide]
    rfl
theorem lay_back (a : List Nat) (h : a.length = 8) (p q : Nat) (hp : p < q) (hq : q ≤ 8) (h2 : 2 ≤ q - p) (hz : (a.drop p).take (q - p) = List.replicate (q - p) 0) : lay8 (a.take p) (a.drop q) = some a := by
  unfold lay8
  rw [List.length_take, List.length_drop, if_pos (by omega), show 8 - min p a.length - (a.length - q) = q - p by omega, ← hz, List.append_assoc]
  congr 1
  have e : a.drop q = (a.drop p).drop (q - p) := by rw [List.drop_drop, show p + (q - p) = q by omega]
  rw [e, List.take_append_drop, List.take_append_drop]
theorem back_words (a : List Nat) (h : a.length = 8) (f : List UInt8 → List UInt8) (hf : ∀ v, v < 65536 → hexW (f (bdg 16 v)) = some v) (hs : small a) :
    par6 (jb 58 ((a.take (rowOf (zb a)).1).map fun v => f (bdg 16 v)) ++ if (rowOf (zb a)).1 < (rowOf (zb a)).2 then 58 :: 58 :: jb 58 ((a.drop (rowOf (zb a)).2).map fun v => f (bdg 16 v)) else []) = some a := by
  obtain ⟨h1, h2, h3, h4⟩ := row_facts a h
  have key : ∀ l : List Nat, small l → (∀ p ∈ l.map (fun v => f (bdg 16 v)), good p) ∧ (l.map (fun v => f (bdg 16 v))).map hv = l := by
    intro l hl
    refine ⟨fun p hp => ?_, ?_⟩
    · obtain ⟨v, hv', rfl⟩ := List.mem_map.1 hp
      exact (good_of (hf v (hl v hv'))).1
    · rw [List.map_map]
      conv => rhs; rw [← List.map_id l]
      apply List.map_congr_left
      intro v hv'
      exact (good_of (hf v (hl v hv'))).2
  by_cases hlt : (rowOf (zb a)).1 < (rowOf (zb a)).2
  · obtain ⟨_, h5, h6⟩ := h3 hlt
    rw [if_pos hlt, par_gap _ _ (key _ (small_take hs _)).1 (key _ (small_drop hs _)).1, (key _ (small_take hs _)).2, (key _ (small_drop hs _)).2]
    exact lay_back a h _ _ hlt h2 h5 h6
  · obtain ⟨h5, _⟩ := h4 hlt
    rw [if_neg hlt, List.append_nil, h5, List.take_of_length_le (by omega), par_all _ (key _ hs).1, List.length_map, if_pos h, (key _ hs).2]
theorem shw6_back (a : List Nat) (h : a.length = 8) (hs : small a) : par6 (shw6 a) = some a := back_words a h id (fun v hv' => hexW_bdg v hv') hs
theorem shw6_up (a : List Nat) (h : a.length = 8) (hs : small a) : par6 ((shw6 a).map up) = some a := by
  have := back_words a h (fun p => p.map up) (fun v hv' => by rw [hexW_up]; exact hexW_bdg v hv') hs
  unfold shw6
  rw [List.map_append]
  unfold jp
  rw [jb_up, List.map_map]
  by_cases hlt : (rowOf (zb a)).1 < (rowOf (zb a)).2
  · rw [if_pos hlt] at this ⊢
    rw [List.map_cons, List.map_cons, show up 58 = 58 by decide, jb_up, List.map_map]
    exact this
  · rw [if_neg hlt] at this ⊢
    exact this
/-- A piece with all its noughts. -/
def h4 (v : Nat) : List UInt8 := [hexd (v / 4096), hexd (v / 256 % 16), hexd (v / 16 % 16), hexd (v % 16)]
theorem hexW_h4 (v : Nat) (h : v < 65536) : hexW (h4 v) = some v := by
  have a := hexd_v (n := v / 4096) (by omega)
  have b := hexd_v (n := v / 256 % 16) (by omega)
  have c := hexd_v (n := v / 16 % 16) (by omega)
  have d := hexd_v (n := v % 16) (by omega)
  unfold hexW h4
  rw [if_pos]
  · show some ((((0 * 16 + dgV (hexd (v / 4096))) * 16 + dgV (hexd (v / 256 % 16))) * 16 + dgV (hexd (v / 16 % 16))) * 16 + dgV (hexd (v % 16))) = some v
    rw [a, b, c, d]
    congr 1
    omega
  · refine ⟨by simp, by simp, ?_⟩
    unfold okD
    simp only [List.all_cons, List.all_nil, Bool.and_true, Bool.and_eq_true, decide_eq_true_eq, a, b, c, d]
    omega
theorem h4_map {l : List Nat} (h : small l) : (∀ p ∈ l.map h4, good p) ∧ (l.map h4).map hv = l := by
  refine ⟨fun p hp => ?_, ?_⟩
  · obtain ⟨v, hv', rfl⟩ := List.mem_map.1 hp
    exact (good_of (hexW_h4 v (h v hv'))).1
  · rw [List.map_map]
    conv => rhs; rw [← List.map_id l]
    apply List.map_congr_left
    intro v hv'
    exact (good_of (hexW_h4 v (h v hv'))).2
theorem shw_col (n : Nat) : noCol (shw n) ∧ (46 : UInt8) ∈ shw n := by
  rw [shw_jn]
  have key : ∀ m, noCol (bdg 10 m) := fun m x hx e => by
    have := (bdg_mem 10 (by decide) (by decide) m x hx).1
    rw [e, dgV_58] at this
    omega
  refine ⟨fun x hx e => ?_, by simp [jn]⟩
  simp only [jn, List.mem_append, List.mem_cons] at hx
  rcases hx with h | h | h | h | h | h | h
  · exact key _ x h e
  · rw [h] at e; cases e
  · exact key _ x h e
  · rw [h] at e; cases e
  · exact key _ x h e
  · rw [h] at e; cases e
  · exact key _ x h e
end Go.Proofs.YtfaobhaogenijaaDoor
