/-
  Ways as plain facts: which texts are dots, what becomes of segments, and what follows. Nothing is proved of the program here.
-/
import Derived.Test.YtbmikdocjnpidaaDoorPcs
import Derived.Test.YtbmikdocjnpidaaDoorPctP
namespace Go.Proofs.YtbmikdocjnpidaaDoor
set_option linter.unusedVariables false
open Go.RowKit

/-- Bytes written with per cent signs, of the set of ways. -/
abbrev enc (s : List UInt8) : List UInt8 := Pct.encd 4 s

/-- What is behind a dot at the front of a text, however it is written. -/
def front (s : List UInt8) : Option (List UInt8) :=
  if [46].isPrefixOf s then some (s.drop 1) else if [37, 50, 101].isPrefixOf s then some (s.drop 3) else if [37, 50, 69].isPrefixOf s then some (s.drop 3) else none
/-- One dot. -/
def sing (s : List UInt8) : Bool := front s == some []
/-- Two dots. -/
def doub (s : List UInt8) : Bool := match front s with
  | some r => sing r
  | none => false

def ones : List (List UInt8) := [[46], [37, 50, 101], [37, 50, 69]]

theorem front_some {s r : List UInt8} (h : front s = some r) : ∃ o ∈ ones, s = o ++ r := by
  unfold front at h
  split at h
  · rename_i h1
    obtain ⟨t, ht⟩ := List.isPrefixOf_iff_prefix.1 h1
    exact ⟨[46], by simp [ones], by rw [← ht] at h ⊢; simpa using h⟩
  · split at h
    · rename_i h1
      obtain ⟨t, ht⟩ := List.isPrefixOf_iff_prefix.1 h1
      exact ⟨[37, 50, 101], by simp [ones], by rw [← ht] at h ⊢; simpa using h⟩
    · split at h
      · rename_i h1
        obtain ⟨t, ht⟩ := List.isPrefixOf_iff_prefix.1 h1
        exact ⟨[37, 50, 69], by simp [ones], by rw [← ht] at h ⊢; simpa using h⟩
      · exact absurd h (by simp)
theorem front_app (o r : List UInt8) (h : o ∈ ones) : front (o ++ r) = some r := by
  simp only [ones, List.mem_cons, List.not_mem_nil, or_false] at h
  rcases h with rfl | rfl | rfl <;> simp [front, List.isPrefixOf]

theorem sing_iff (s : List UInt8) : sing s = true ↔ s ∈ ones := by
  unfold sing
  rw [beq_iff_eq]
  constructor
  · intro h
    obtain ⟨o, ho, rfl⟩ := front_some h
    simpa using ho
  · intro h
    have := front_app s [] h
    simpa using this
theorem doub_iff (s : List UInt8) : doub s = true ↔ ∃ o ∈ ones, ∃ p ∈ ones, s = o ++ p := by
  unfold doub
  constructor
  · intro h
    split at h
    · rename_i r hr
      obtain ⟨o, ho, rfl⟩ := front_some hr
      exact ⟨o, ho, r, (sing_iff r).1 h, rfl⟩
    · exact absurd h (by simp)
  · rintro ⟨o, ho, p, hp, rfl⟩
    rw [front_app o p ho]
    exact (sing_iff p).2 hp

/-- The other stroke as the one, of special schemes. -/
def swp (sp : Bool) (s : List UInt8) : List UInt8 := if sp then s.map (fun x => if x = 92 then 47 else x) else s
theorem swp_len (sp : Bool) (s : List UInt8) : (swp sp s).length = s.length := by unfold swp; split <;> simp
theorem swp_app (sp : Bool) (a b : List UInt8) : swp sp (a ++ b) = swp sp a ++ swp sp b := by unfold swp; split <;> simp
theorem swp_same (sp : Bool) (s : List UInt8) (h : sp = true → ∀ x ∈ s, x ≠ 92) : swp sp s = s := by
  unfold swp
  split
  · rename_i hs
    apply (List.map_congr_left (g := id) _).trans (List.map_id s)
    intro x hx
    simp [h hs x hx]
  · rfl
theorem swp_out (s : List UInt8) : ∀ x ∈ swp true s, x ≠ 92 := by
  intro x hx
  simp only [swp, if_true, List.mem_map] at hx
  obtain ⟨y, _, rfl⟩ := hx
  split
  · decide
  · assumption

/-- One segment more. -/
def stp (l : List (List UInt8)) (x : List UInt8) (last : Bool) : List (List UInt8) :=
  if doub x then (if last then l.dropLast ++ [[]] else l.dropLast) else if sing x then (if last then l ++ [[]] else l) else l ++ [enc x]
def way : List (List UInt8) → List (List UInt8) → List (List UInt8)
  | l, [] => l
  | l, x :: r => way (stp l x r.isEmpty) r
/-- Parse. -/
def par (s : List UInt8) (sp : Bool) (base : List (List UInt8)) : List (List UInt8) := way base (pcs 47 (swp sp s))
/-- Show. -/
def shw (l : List (List UInt8)) : List UInt8 := l.flatMap (fun x => 47 :: x)

/-- Segments that are not the last. -/
def mid : List (List UInt8) → List (List UInt8) → List (List UInt8)
  | l, [] => l
  | l, x :: r => mid (stp l x false) r
theorem way_app (b : List (List UInt8)) (hb : b ≠ []) : ∀ (a l : List (List UInt8)), way l (a ++ b) = way (mid l a) b
  | [], l => rfl
  | x :: a, l => by
    show way (stp l x (a ++ b).isEmpty) (a ++ b) = way (mid (stp l x false) a) b
    rw [show (a ++ b).isEmpty = false by cases a <;> cases b <;> simp_all, way_app b hb a]

theorem way_ne (l : List (List UInt8)) : ∀ (ps : List (List UInt8)), ps ≠ [] → ∀ l, way l ps ≠ []
  | [], h => absurd rfl h
  | [x], _ => fun l => by
    show stp l x true ≠ []
    unfold stp
    split
    · simp
    · split
      · simp
      · simp
  | x :: y :: r, _ => fun l => way_ne l (y :: r) (by simp) _

theorem par_ne (s : List UInt8) (sp : Bool) (base : List (List UInt8)) : par s sp base ≠ [] := way_ne [] _ (pcs_ne 47 _) _

/-- What segments a way may have. -/
def seg (sp : Bool) (x : List UInt8) : Prop := sing x = false ∧ doub x = false ∧ enc x = x ∧ (∀ y ∈ x, y ≠ 47) ∧ (sp = true → ∀ y ∈ x, y ≠ 92)
theorem seg_nil (sp : Bool) : seg sp [] := ⟨by decide +kernel, by decide +kernel, rfl, by simp, by simp⟩

/-- No byte of the set stands there behind a per cent sign. -/
def bare (t : List UInt8) : Prop := ∀ n < t.length, ∀ b : Fin 256, Pct.inS 4 (UInt8.ofNat b.val) = true → (t.drop n).take 3 ≠ [37, Pct.dig (b.val / 16), Pct.dig (b.val % 16)]
instance (t : List UInt8) : Decidable (bare t) := by unfold bare; infer_instance
theorem bare_ones : ∀ o ∈ ones, bare o := by decide +kernel
theorem bare_twos : ∀ o ∈ ones, ∀ p ∈ ones, bare (o ++ p) := by decide +kernel
theorem bare_tail {x : UInt8} {t : List UInt8} (h : bare (x :: t)) : bare t := by
  intro n hn
  exact h (n + 1) (by simpa using hn)
theorem enc_bare : ∀ (s t : List UInt8), enc s = t → bare t → s = t
  | [], t, h, _ => h
  | x :: s, t, h, hb => by
    have e : enc (x :: s) = Pct.piece 4 x ++ enc s := by simp [enc, Pct.encd]
    rw [e] at h
    by_cases hx : Pct.inS 4 x = true
    · exfalso
      have e2 : Pct.piece 4 x = [37, Pct.dig (x.toNat / 16), Pct.dig (x.toNat % 16)] := by simp [Pct.piece, hx]
      rw [e2] at h
      have := hb 0 (by rw [← h]; simp) ⟨x.toNat, UInt8.toNat_lt x⟩ (by simpa using hx)
      apply this
      rw [← h]
      rfl
    · have e2 : Pct.piece 4 x = [x] := by simp [Pct.piece, hx]
      rw [e2] at h
      subst h
      rw [← enc_bare s (enc s) rfl (bare_tail hb)]
      rfl
theorem enc_out (x : List UInt8) : ∀ y ∈ enc x, Pct.inS 4 y = false := Pct.encd_out 4 (by decide) x
theorem enc_twice (x : List UInt8) : enc (enc x) = enc x := Pct.encd_same 4 (by decide) _ (enc_out x)
/-- A sign that no such writing makes. -/
theorem enc_free (c : UInt8) (h37 : c ≠ 37) (hd : ∀ n : Fin 16, Pct.dig n.val ≠ c) (x : List UInt8) (h : ∀ y ∈ x, y ≠ c) : ∀ y ∈ enc x, y ≠ c := by
  intro y hy
  simp only [enc, Pct.encd, List.mem_flatMap] at hy
  obtain ⟨z, hz, hy⟩ := hy
  have h1 := hd ⟨z.toNat / 16, by have := UInt8.toNat_lt z; omega⟩
  have h2 := hd ⟨z.toNat % 16, by omega⟩
  unfold Pct.piece at hy
  rw [if_neg (by omega)] at hy
  split at hy
  · simp only [List.mem_cons, List.not_mem_nil, or_false] at hy
    rcases hy with rfl | rfl | rfl
    · exact Ne.symm h37
    · exact h1
    · exact h2
  · simp only [List.mem_cons, List.not_mem_nil, or_false] at hy
    subst hy
    exact h _ hz
theorem seg_enc (sp : Bool) (x : List UInt8) (h1 : sing x = false) (h2 : doub x = false) (h3 : ∀ y ∈ x, y ≠ 47) (h4 : sp = true → ∀ y ∈ x, y ≠ 92) : seg sp (enc x) := by
  refine ⟨?_, ?_, enc_twice x, enc_free 47 (by decide) (by decide) x h3, fun h => enc_free 92 (by decide) (by decide) x (h4 h)⟩
  · rw [Bool.eq_false_iff]
    intro h
    have := (sing_iff _).1 h
    rw [← enc_bare x _ rfl (bare_ones _ this)] at h
    simp [h1] at h
  · rw [Bool.eq_false_iff]
    intro h
    obtain ⟨o, ho, p, hp, e⟩ := (doub_iff _).1 h
    rw [← enc_bare x _ rfl (by rw [e]; exact bare_twos o ho p hp)] at h
    simp [h2] at h

theorem stp_seg (sp : Bool) (l : List (List UInt8)) (x : List UInt8) (last : Bool) (hl : ∀ y ∈ l, seg sp y) (h3 : ∀ y ∈ x, y ≠ 47) (h4 : sp = true → ∀ y ∈ x, y ≠ 92) : ∀ y ∈ stp l x last, seg sp y := by
  intro y hy
  unfold stp at hy
  split at hy
  · split at hy
    · rcases List.mem_append.1 hy with h | h
      · exact hl y ((List.dropLast_sublist l).subset h)
      · simp only [List.mem_cons, List.not_mem_nil, or_false] at h
        subst h
        exact seg_nil sp
    · exact hl y ((List.dropLast_sublist l).subset hy)
  · rename_i hd
    split at hy
    · split at hy
      · rcases List.mem_append.1 hy with h | h
        · exact hl y h
        · simp only [List.mem_cons, List.not_mem_nil, or_false] at h
          subst h
          exact seg_nil sp
      · exact hl y hy
    · rename_i hs
      rcases List.mem_append.1 hy with h | h
      · exact hl y h
      · simp only [List.mem_cons, List.not_mem_nil, or_false] at h
        subst h
        exact seg_enc sp x (by simpa using hs) (by simpa using hd) h3 h4
theorem way_seg (sp : Bool) : ∀ (ps l : List (List UInt8)), (∀ y ∈ l, seg sp y) → (∀ x ∈ ps, (∀ y ∈ x, y ≠ 47) ∧ (sp = true → ∀ y ∈ x, y ≠ 92)) → ∀ y ∈ way l ps, seg sp y
  | [], l, hl, _ => hl
  | x :: r, l, hl, hp => way_seg sp r _ (stp_seg sp l x _ hl (hp x (by simp)).1 (hp x (by simp)).2) (fun z hz => hp z (by simp [hz]))
theorem swp_pcs (s : List UInt8) (sp : Bool) : ∀ x ∈ pcs 47 (swp sp s), (∀ y ∈ x, y ≠ 47) ∧ (sp = true → ∀ y ∈ x, y ≠ 92) := by
  intro x hx
  refine ⟨fun y hy => (pcs_mem 47 _ x hx y hy).2, fun h y hy => ?_⟩
  subst h
  exact swp_out s y (pcs_mem 47 _ x hx y hy).1
theorem par_seg (s : List UInt8) (sp : Bool) : ∀ y ∈ par s sp [], seg sp y := way_seg sp _ [] (by simp) (swp_pcs s sp)

/-- Segments are their own way. -/
theorem way_own (sp : Bool) : ∀ (ps l : List (List UInt8)), (∀ y ∈ ps, seg sp y) → way l ps = l ++ ps
  | [], l, _ => by simp [way]
  | x :: r, l, h => by
    show way (stp l x r.isEmpty) r = _
    have hx := h x (by simp)
    rw [way_own sp r _ (fun z hz => h z (by simp [hz]))]
    simp [stp, hx.1, hx.2.1, hx.2.2.1]

theorem shw_pcs : ∀ (x : List UInt8) (l : List (List UInt8)), (∀ z ∈ x :: l, ∀ y ∈ z, y ≠ 47) → pcs 47 (x ++ shw l) = x :: l
  | x, [], h => by
    simp only [shw, List.flatMap_nil, List.append_nil]
    exact pcs_one 47 x (h x (by simp))
  | x, z :: l, h => by
    have e : x ++ shw (z :: l) = x ++ 47 :: (z ++ shw l) := by simp [shw]
    rw [e, pcs_app 47 x _ (h x (by simp)), shw_pcs z l (fun t ht => h t (by simp [ht]))]
theorem shw_mem {l : List (List UInt8)} {y : UInt8} (h : y ∈ shw l) : y = 47 ∨ ∃ x ∈ l, y ∈ x := by
  simp only [shw, List.mem_flatMap, List.mem_cons] at h
  obtain ⟨x, hx, h | h⟩ := h
  · exact .inl h
  · exact .inr ⟨x, hx, h⟩
/-- What is shown is parsed as it was. -/
theorem par_back (sp : Bool) (l : List (List UInt8)) (hl : l ≠ []) (h : ∀ y ∈ l, seg sp y) : par ((shw l).drop 1) sp [] = l := by
  cases l with
  | nil => exact absurd rfl hl
  | cons x l =>
    have e : (shw (x :: l)).drop 1 = x ++ shw l := by simp [shw]
    rw [e]
    unfold par
    rw [swp_same sp _ (fun hs y hy => ?_), shw_pcs x l (fun z hz => (h z hz).2.2.2.1), way_own sp _ _ h]
    · rfl
    · rcases List.mem_append.1 hy with h1 | h1
      · exact (h x (by simp)).2.2.2.2 hs y h1
      · rcases shw_mem h1 with rfl | ⟨z, hz, h2⟩
        · decide
        · exact (h z (by simp [hz])).2.2.2.2 hs y h2
theorem shw_front (l : List (List UInt8)) (hl : l ≠ []) : ∃ t, shw l = 47 :: t := by
  cases l with
  | nil => exact absurd rfl hl
  | cons x l => exact ⟨x ++ shw l, by simp [shw]⟩

theorem swp_47 (sp : Bool) : swp sp [47] = [47] := by cases sp <;> decide
/-- A way's end. -/
theorem par_end (a : List UInt8) (sp : Bool) (base : List (List UInt8)) : par (a ++ [47]) sp base = mid base (pcs 47 (swp sp a)) ++ [[]] := by
  unfold par
  rw [swp_app, swp_47, pcs_app2 47 (swp sp a) [], way_app _ (by simp [pcs])]
  show way _ [[]] = _
  rw [way, way, stp]
  rw [show doub [] = false by decide +kernel, show sing [] = false by decide +kernel]
  rfl
theorem par_both (a b : List UInt8) (sp : Bool) (base : List (List UInt8)) : par (a ++ 47 :: b) sp base = par b sp (mid base (pcs 47 (swp sp a))) := by
  unfold par
  rw [show a ++ 47 :: b = a ++ ([47] ++ b) by simp, swp_app, swp_app, swp_47, show swp sp a ++ ([47] ++ swp sp b) = swp sp a ++ 47 :: swp sp b by simp, pcs_app2, way_app _ (pcs_ne _ _)]
theorem mid_one (x l) (h : ∀ y ∈ x, y ≠ 47) (h2 : ∀ y ∈ x, y ≠ 92) : mid l (pcs 47 (swp true x)) = stp l x false := by
  rw [swp_same true x (fun _ => h2), pcs_one 47 x h]
  rfl
theorem one_turns (o b : List UInt8) (ho : sing o = true) (hd : doub o = false) (h1 : ∀ y ∈ o, y ≠ 47) (h2 : ∀ y ∈ o, y ≠ 92) : par (o ++ 47 :: b) true [] = par b true [] := by
  rw [par_both, mid_one o [] h1 h2, stp, hd, ho]
  rfl
theorem two_turns (o b : List UInt8) (hd : doub o = true) (h1 : ∀ y ∈ o, y ≠ 47) (h2 : ∀ y ∈ o, y ≠ 92) : par (o ++ 47 :: b) true [] = par b true [] := by
  rw [par_both, mid_one o [] h1 h2, stp, hd]
  rfl
theorem back_turns (a o b : List UInt8) (ha : sing a = false) (ha2 : doub a = false) (h3 : ∀ y ∈ a, y ≠ 47) (h4 : ∀ y ∈ a, y ≠ 92) (hd : doub o = true) (h1 : ∀ y ∈ o, y ≠ 47) (h2 : ∀ y ∈ o, y ≠ 92) :
    par (a ++ 47 :: (o ++ 47 :: b)) true [] = par b true [] := by
  rw [par_both, par_both, mid_one a [] h3 h4, mid_one o _ h1 h2, stp, stp, hd, ha2, ha]
  rfl
end Go.Proofs.YtbmikdocjnpidaaDoor
