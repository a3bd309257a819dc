/-
  I4P, I6P, I6S.
-/
import Derived.Test.YtenlampiiodkhaaGreatDoorPcsc
import Derived.Lib.ItoaNum
namespace Go.Proofs.YtenlampiiodkhaaGreatDoor
set_option linter.unusedVariables false
open Go.RowKit
def dgV (x : UInt8) : Nat := if 48 ≤ x.toNat ∧ x.toNat ≤ 57 then x.toNat - 48 else if 97 ≤ x.toNat ∧ x.toNat ≤ 102 then x.toNat - 87 else if 65 ≤ x.toNat ∧ x.toNat ≤ 70 then x.toNat - 55 else 16
theorem dgV_le (x : UInt8) : dgV x ≤ 16 := by
  unfold dgV
  split
  · omega
  · split
    · omega
    · split <;> omega
def mrk (p : List UInt8) : Bool := decide (2 ≤ p.length) && (p.getD 0 0 == 48) && (p.getD 1 0 == 120 || p.getD 1 0 == 88)
def oct (p : List UInt8) : Bool := decide (1 < p.length) && (p.getD 0 0 == 48)
def i4digs (p : List UInt8) : List UInt8 := if mrk p = true then p.drop 2 else if oct p = true then p.drop 1 else p
def bas (p : List UInt8) : Nat := if mrk p = true then 16 else if oct p = true then 8 else 10
def okD (b : Nat) (l : List UInt8) : Bool := l.all fun x => decide (dgV x < b)
def val (b : Nat) (l : List UInt8) : Nat := l.foldl (fun n x => n * b + dgV x) 0
def numO (p : List UInt8) (most : Nat) : Option Nat := if p ≠ [] ∧ okD (bas p) (i4digs p) = true ∧ val (bas p) (i4digs p) ≤ most then some (val (bas p) (i4digs p)) else none
theorem bas_cases (p : List UInt8) : bas p = 16 ∨ bas p = 8 ∨ bas p = 10 := by
  unfold bas
  split
  · exact .inl rfl
  · split
    · exact .inr (.inl rfl)
    · exact .inr (.inr rfl)
theorem i4digs_len (p : List UInt8) : (i4digs p).length ≤ p.length := by
  unfold i4digs
  split
  · simp
  · split <;> simp
theorem fold_ge (b : Nat) (hb : 1 ≤ b) : ∀ (l : List UInt8) (n : Nat), n ≤ l.foldl (fun n x => n * b + dgV x) n
  | [], n => Nat.le_refl _
  | x :: l, n => by
    rw [List.foldl_cons]; have h := fold_ge b hb l (n * b + dgV x); have h2 : n * 1 ≤ n * b := Nat.mul_le_mul_left n hb; omega
theorem val_snoc (b : Nat) (l : List UInt8) (x : UInt8) : val b (l ++ [x]) = val b l * b + dgV x := by
  unfold val; rw [List.foldl_append]; rfl
theorem val_take (b : Nat) (hb : 1 ≤ b) (l : List UInt8) (k : Nat) : val b (l.take k) ≤ val b l := by
  have e : l = l.take k ++ l.drop k := (List.take_append_drop k l).symm
  conv => rhs; rw [e]
  unfold val; rw [List.foldl_append]; exact fold_ge b hb _ _
theorem numO_le {p : List UInt8} {most n : Nat} (h : numO p most = some n) : n ≤ most := by
  unfold numO at h
  split at h
  · rename_i hc; simp only [Option.some.injEq] at h; omega
  · cases h
theorem numO_empty (most : Nat) : numO [] most = none := by
  unfold numO; rw [if_neg]; rintro ⟨h, _⟩; exact h rfl
theorem numO_bad {p : List UInt8} {most : Nat} (h : okD (bas p) (i4digs p) = false) : numO p most = none := by
  unfold numO; rw [if_neg]; rintro ⟨_, h2, _⟩; rw [h] at h2
  cases h2
theorem numO_great {p : List UInt8} {most : Nat} (h : most < val (bas p) (i4digs p)) : numO p most = none := by
  unfold numO; rw [if_neg]; rintro ⟨_, _, h3⟩; omega
theorem numO_yes {p : List UInt8} {most : Nat} (h0 : p ≠ []) (h1 : okD (bas p) (i4digs p) = true) (h2 : val (bas p) (i4digs p) ≤ most) : numO p most = some (val (bas p) (i4digs p)) := by
  unfold numO; rw [if_pos ⟨h0, h1, h2⟩]
def accO : Nat → Nat → List (List UInt8) → Option Nat
  | a, _, [] => some a
  | a, i, p :: t => (numO p 255).bind fun n => accO (a + n * 256 ^ (3 - i)) (i + 1) t
def mostL (n : Nat) : Nat := 256 ^ (5 - n) - 1
def parO (ps : List (List UInt8)) : Option Nat := if 4 < ps.length then none else (numO (ps.getLastD []) (mostL ps.length)).bind fun a => accO a 0 ps.dropLast
def prs (s : List UInt8) : Option Nat := parO (pcs 46 (Lib.trimSuffix s [46]))
def endB (x : List UInt8) : Bool := if mrk x = true then okD 16 (x.drop 2) else !x.isEmpty && okD 10 x
def ends (s : List UInt8) : Bool := endB (lastP 46 (Lib.trimSuffix s [46]))
def shw (a : Nat) : List UInt8 := Lib.decDigits (a / 16777216) ++ 46 :: (Lib.decDigits (a / 65536 % 256) ++ 46 :: (Lib.decDigits (a / 256 % 256) ++ 46 :: Lib.decDigits (a % 256)))
theorem accO_snoc (q : List UInt8) : ∀ (ps : List (List UInt8)) (a i : Nat), accO a i (ps ++ [q]) = (accO a i ps).bind fun b => (numO q 255).map fun n => b + n * 256 ^ (3 - (i + ps.length))
  | [], a, i => by
    show (numO q 255).bind _ = (numO q 255).map _
    cases numO q 255 <;> rfl
  | p :: t, a, i => by
    rw [List.cons_append, accO, accO]
    cases numO p 255 with
    | none => rfl
    | some n =>
      simp only [Option.bind_some]; rw [accO_snoc q t]; rw [show i + 1 + t.length = i + (p :: t).length by simp; omega]
theorem accO_bad : ∀ (ps : List (List UInt8)) (a i k : Nat), accO a i (ps.take k) = none → accO a i ps = none
  | [], a, i, k, h => by simp [accO] at h
  | p :: t, a, i, 0, h => by simp [accO] at h
  | p :: t, a, i, k + 1, h => by
    rw [List.take_succ_cons, accO] at h; rw [accO]
    cases hp : numO p 255 with
    | none => rfl
    | some n =>
      rw [hp] at h; simp only [Option.bind_some] at h ⊢; exact accO_bad t _ _ k h
/-! What is written is read -/
def hexd (n : Nat) : UInt8 := UInt8.ofNat (if n < 10 then 48 + n else 87 + n)
def bdg (b n : Nat) : List UInt8 :=
  if h : n < b ∨ b < 2 then [hexd (n % 16)] else bdg b (n / b) ++ [hexd (n % b)]
termination_by n
decreasing_by exact Nat.div_lt_self (by omega) (by omega)
theorem bdg_small {b n : Nat} (h : n < b) (hb : b ≤ 16) : bdg b n = [hexd n] := by
  rw [bdg, dif_pos (.inl h), Nat.mod_eq_of_lt (by omega)]
theorem bdg_great {b n : Nat} (h : ¬ n < b) (hb : 2 ≤ b) : bdg b n = bdg b (n / b) ++ [hexd (n % b)] := by
  rw [bdg, dif_neg (by omega)]
theorem dec_bdg : ∀ n : Nat, Lib.decDigits n = bdg 10 n := by
  intro n
  induction n using Nat.strongRecOn with
  | _ n ih =>
    rw [Lib.decDigits]; by_cases h : n < 10
    · rw [dif_pos h, bdg_small h (by decide)]; unfold hexd; rw [if_pos h]
    · rw [dif_neg h, bdg_great h (by decide), ih (n / 10) (Nat.div_lt_self (by omega) (by decide))]; unfold hexd; rw [if_pos (Nat.mod_lt _ (by decide))]
theorem hexd_val : ∀ n : Fin 16, dgV (hexd n.val) = n.val ∧ hexd n.val ≠ 46 ∧ hexd n.val ≠ 120 ∧ hexd n.val ≠ 88 ∧ (n.val ≠ 0 → hexd n.val ≠ 48) := by decide +kernel
theorem hexd_v {n : Nat} (h : n < 16) : dgV (hexd n) = n := (hexd_val ⟨n, h⟩).1
theorem bdg_mem (b : Nat) (hb : 2 ≤ b) (hb2 : b ≤ 16) : ∀ (n : Nat) (x : UInt8), x ∈ bdg b n → dgV x < b ∧ x ≠ 46 ∧ x ≠ 120 ∧ x ≠ 88 := by
  intro n
  induction n using Nat.strongRecOn with
  | _ n ih =>
    intro x hx; by_cases h : n < b
    · rw [bdg_small h hb2, List.mem_singleton] at hx; subst hx; have := hexd_val ⟨n, by omega⟩; exact ⟨by rw [hexd_v (by omega)]; exact h, this.2.1, this.2.2.1, this.2.2.2.1⟩
    · rw [bdg_great h hb] at hx; rcases List.mem_append.1 hx with hx | hx
      · exact ih (n / b) (Nat.div_lt_self (by omega) (by omega)) x hx
      · rw [List.mem_singleton] at hx; subst hx; have hm := Nat.mod_lt n (show 0 < b by omega); have := hexd_val ⟨n % b, by omega⟩; exact ⟨by rw [hexd_v (by omega)]; exact hm, this.2.1, this.2.2.1, this.2.2.2.1⟩
theorem bdg_ne (b n : Nat) : bdg b n ≠ [] := by
  rw [bdg]
  split <;> simp
theorem bdg_val (b : Nat) (hb : 2 ≤ b) (hb2 : b ≤ 16) : ∀ n : Nat, val b (bdg b n) = n := by
  intro n
  induction n using Nat.strongRecOn with
  | _ n ih =>
    by_cases h : n < b
    · rw [bdg_small h hb2]; show 0 * b + dgV (hexd n) = n; rw [hexd_v (by omega)]; omega
    · have hm := Nat.mod_lt n (show 0 < b by omega); rw [bdg_great h hb, val_snoc, ih (n / b) (Nat.div_lt_self (by omega) (by omega)), hexd_v (by omega)]; exact Nat.div_add_mod' n b
theorem bdg_ok (b : Nat) (hb : 2 ≤ b) (hb2 : b ≤ 16) (n : Nat) : okD b (bdg b n) = true := by
  unfold okD; rw [List.all_eq_true]; intro x hx; simpa using (bdg_mem b hb hb2 n x hx).1
theorem bdg_head (b : Nat) (hb : 2 ≤ b) (hb2 : b ≤ 16) : ∀ n : Nat, 0 < n → (bdg b n).getD 0 0 ≠ 48 := by
  intro n
  induction n using Nat.strongRecOn with
  | _ n ih =>
    intro hn; by_cases h : n < b
    · rw [bdg_small h hb2]; exact (hexd_val ⟨n, by omega⟩).2.2.2.2 (by show n ≠ 0; omega)
    · have hd : 0 < n / b := Nat.div_pos (by omega) (by omega); rw [bdg_great h hb]; have h1 := ih (n / b) (Nat.div_lt_self (by omega) (by omega)) hd
      cases hl : bdg b (n / b) with
      | nil => exact absurd hl (bdg_ne _ _)
      | cons y t =>
        rw [hl] at h1; simpa using h1
theorem getD_mem (l : List UInt8) (i : Nat) (h : i < l.length) : l.getD i 0 ∈ l := by simp [List.getD, h]
theorem mrk_not {p : List UInt8} (h : ∀ x ∈ p, x ≠ 120 ∧ x ≠ 88) : mrk p = false := by
  unfold mrk; by_cases h2 : 2 ≤ p.length
  · have := h _ (getD_mem p 1 (by omega)); rw [beq_eq_false_iff_ne.2 this.1, beq_eq_false_iff_ne.2 this.2]; simp
  · simp [h2]
theorem ten_read (n most : Nat) (h : n ≤ most) : numO (bdg 10 n) most = some n := by
  have hm : mrk (bdg 10 n) = false := mrk_not fun x hx => ⟨(bdg_mem 10 (by decide) (by decide) n x hx).2.2.1, (bdg_mem 10 (by decide) (by decide) n x hx).2.2.2⟩; have ho : oct (bdg 10 n) = false := by
    unfold oct; by_cases h0 : n = 0
    · subst h0; rw [bdg_small (by decide) (by decide)]; rfl
    · have := bdg_head 10 (by decide) (by decide) n (by omega); have hb : ((bdg 10 n).getD 0 0 == 48) = false := by simpa using this
      rw [hb, Bool.and_false]
  have e1 : i4digs (bdg 10 n) = bdg 10 n := by unfold i4digs; rw [hm, ho]; rfl
  have e2 : bas (bdg 10 n) = 10 := by unfold bas; rw [hm, ho]; rfl
  rw [numO_yes (bdg_ne _ _)]
  · rw [e1, e2, bdg_val 10 (by decide) (by decide)]
  · rw [e1, e2, bdg_ok 10 (by decide) (by decide)]
  · rw [e1, e2, bdg_val 10 (by decide) (by decide)]; exact h
def nod (p : List UInt8) : Prop := (∀ x ∈ p, x ≠ 46) ∧ p ≠ []
theorem nod_bdg (b : Nat) (hb : 2 ≤ b) (hb2 : b ≤ 16) (n : Nat) : nod (bdg b n) := ⟨fun x hx => (bdg_mem b hb hb2 n x hx).2.1, bdg_ne b n⟩
theorem nod_last {p : List UInt8} (h : nod p) (a : List UInt8) : (a ++ p).getLast? ≠ some 46 := by
  intro e; rw [List.getLast?_append] at e
  cases hp : p.getLast? with
  | none => exact h.2 (List.getLast?_eq_none_iff.1 hp)
  | some x =>
    rw [hp] at e; simp at e; exact h.1 x (List.mem_of_getLast? hp) e
def jn : List (List UInt8) → List UInt8
  | [] => []
  | [p] => p
  | p :: q :: t => p ++ 46 :: jn (q :: t)
theorem jn_pcs : ∀ ps : List (List UInt8), ps ≠ [] → (∀ p ∈ ps, nod p) → pcs 46 (jn ps) = ps
  | [], h, _ => absurd rfl h
  | [p], _, h => pcs_one 46 p (h p (by simp)).1
  | p :: q :: t, _, h => by
    show pcs 46 (p ++ 46 :: jn (q :: t)) = _; rw [pcs_app 46 p _ (h p (by simp)).1, jn_pcs (q :: t) (by simp) fun x hx => h x (List.mem_cons_of_mem _ hx)]
theorem jn_last : ∀ ps : List (List UInt8), ps ≠ [] → (∀ p ∈ ps, nod p) → (jn ps).getLast? ≠ some 46
  | [], h, _ => absurd rfl h
  | [p], _, h => nod_last (h p (by simp)) []
  | p :: q :: t, _, h => by
    have ih := jn_last (q :: t) (by simp) fun x hx => h x (List.mem_cons_of_mem _ hx); show (p ++ 46 :: jn (q :: t)).getLast? ≠ _; intro e; apply ih; rw [List.getLast?_append, List.getLast?_cons] at e
    cases hj : (jn (q :: t)).getLast? with
    | none =>
      have h2 := jn_pcs (q :: t) (by simp) fun x hx => h x (List.mem_cons_of_mem _ hx); rw [List.getLast?_eq_none_iff.1 hj] at h2; have h3 := (List.cons.inj h2).1; exact absurd h3.symm (h q (by simp)).2
    | some x =>
      rw [hj] at e; simpa using e
theorem prs_jn (ps : List (List UInt8)) (h : ps ≠ []) (hn : ∀ p ∈ ps, nod p) : prs (jn ps) = parO ps ∧ prs (jn ps ++ [46]) = parO ps := by
  unfold prs; rw [trim_no 46 _ (jn_last ps h hn), trim_yes, jn_pcs ps h hn]; exact ⟨rfl, rfl⟩
theorem ends_jn (ps : List (List UInt8)) (h : ps ≠ []) (hn : ∀ p ∈ ps, nod p) : ends (jn ps) = endB (ps.getLastD []) ∧ ends (jn ps ++ [46]) = endB (ps.getLastD []) := by
  unfold ends lastP; rw [trim_no 46 _ (jn_last ps h hn), trim_yes, jn_pcs ps h hn]; exact ⟨rfl, rfl⟩
theorem shw_jn (a : Nat) : shw a = jn [bdg 10 (a / 16777216), bdg 10 (a / 65536 % 256), bdg 10 (a / 256 % 256), bdg 10 (a % 256)] := by
  unfold shw; rw [dec_bdg, dec_bdg, dec_bdg, dec_bdg]; rfl
theorem nod4 (a b c d : Nat) : ∀ p ∈ [bdg 10 a, bdg 10 b, bdg 10 c, bdg 10 d], nod p := by
  intro p hp; simp only [List.mem_cons, List.not_mem_nil, or_false] at hp; rcases hp with rfl | rfl | rfl | rfl <;> exact nod_bdg 10 (by decide) (by decide) _
theorem par4 (a b c d : Nat) (ha : a ≤ 255) (hb : b ≤ 255) (hc : c ≤ 255) (hd : d ≤ 255) : parO [bdg 10 a, bdg 10 b, bdg 10 c, bdg 10 d] = some (a * 16777216 + b * 65536 + c * 256 + d) := by
  unfold parO; rw [if_neg (by simp)]; show (numO (bdg 10 d) (mostL 4)).bind (fun x => accO x 0 [bdg 10 a, bdg 10 b, bdg 10 c]) = _; rw [show mostL 4 = 255 from rfl, ten_read d 255 hd]; simp only [Option.bind_some, accO, ten_read a 255 ha, ten_read b 255 hb, ten_read c 255 hc]; congr 1; omega
theorem end_ten (n : Nat) : endB (bdg 10 n) = true := by
  unfold endB; rw [mrk_not fun x hx => ⟨(bdg_mem 10 (by decide) (by decide) n x hx).2.2.1, (bdg_mem 10 (by decide) (by decide) n x hx).2.2.2⟩, bdg_ok 10 (by decide) (by decide)]; simp [bdg_ne]
theorem show_back (a : Nat) (h : a < 4294967296) : prs (shw a) = some a ∧ prs (shw a ++ [46]) = some a ∧ ends (shw a) = true ∧ ends (shw a ++ [46]) = true := by
  rw [shw_jn]; obtain ⟨h1, h2⟩ := prs_jn _ (by simp) (nod4 (a / 16777216) (a / 65536 % 256) (a / 256 % 256) (a % 256)); obtain ⟨h3, h4⟩ := ends_jn _ (by simp) (nod4 (a / 16777216) (a / 65536 % 256) (a / 256 % 256) (a % 256)); rw [h1, h2, h3, h4, par4 _ _ _ _ (by omega) (by omega) (by omega) (by omega)]; refine ⟨?_, ?_, end_ten _, end_ten _⟩ <;> congr 1 <;> omega
end Go.Proofs.YtenlampiiodkhaaGreatDoor
namespace Go.Proofs.YtenlampiiodkhaaGreatDoor
set_option linter.unusedVariables false
open Go.RowKit
def hexW (p : List UInt8) : Option Nat := if p ≠ [] ∧ p.length ≤ 4 ∧ okD 16 p = true then some (val 16 p) else none
def tenW (p : List UInt8) : Option Nat := if p ≠ [] ∧ p.length ≤ 3 ∧ ¬ (1 < p.length ∧ p.getD 0 0 = 48) ∧ okD 10 p = true ∧ val 10 p ≤ 255 then some (val 10 p) else none
def fourL : List (List UInt8) → Option (List Nat)
  | [a, b, c, d] => (tenW a).bind fun a => (tenW b).bind fun b => (tenW c).bind fun c => (tenW d).bind fun d => some [a * 256 + b, c * 256 + d]
  | _ => none
def fourW (p : List UInt8) : Option (List Nat) := fourL (pcs 46 p)
def fourP (p : List UInt8) : Option (List Nat) := (prs p).bind fun n => if shw n = p then some [n / 65536, n % 65536] else none
def jb (c : UInt8) : List (List UInt8) → List UInt8
  | [] => []
  | [p] => p
  | p :: q :: t => p ++ c :: jb c (q :: t)
theorem jb_cons (c : UInt8) (p : List UInt8) (t : List (List UInt8)) (h : t ≠ []) : jb c (p :: t) = p ++ c :: jb c t := by
  cases t with
  | nil => exact absurd rfl h
  | cons q t => rfl
theorem jb_pcs (c : UInt8) : ∀ s : List UInt8, jb c (pcs c s) = s
  | [] => rfl
  | x :: l => by
    have ih := jb_pcs c l; have hne := pcs_ne c l; rw [pcs]; by_cases h : x = c
    · rw [if_pos h, jb_cons c _ _ hne, ih, h]; rfl
    · rw [if_neg h]
      cases hp : pcs c l with
      | nil => exact absurd hp hne
      | cons y t =>
        rw [hp] at ih; show jb c ((x :: y) :: t) = _
        cases t with
        | nil =>
          have : y = l := ih; rw [← this]; rfl
        | cons z t =>
          have : y ++ c :: jb c (z :: t) = l := ih; rw [← this]; rfl
theorem pcs_jb (c : UInt8) : ∀ ps : List (List UInt8), ps ≠ [] → (∀ p ∈ ps, ∀ x ∈ p, x ≠ c) → pcs c (jb c ps) = ps
  | [], h, _ => absurd rfl h
  | [p], _, h => pcs_one c p (h p (by simp))
  | p :: q :: t, _, h => by
    show pcs c (p ++ c :: jb c (q :: t)) = _; rw [pcs_app c p _ (h p (by simp)), pcs_jb c (q :: t) (by simp) fun x hx => h x (List.mem_cons_of_mem _ hx)]
theorem dec_hexd : ∀ x : Fin 256, dgV (UInt8.ofNat x.val) < 10 → hexd (dgV (UInt8.ofNat x.val)) = UInt8.ofNat x.val := by decide +kernel
theorem dec_back (x : UInt8) (h : dgV x < 10) : hexd (dgV x) = x := by
  have e : UInt8.ofNat x.toNat = x := by simp
  have := dec_hexd ⟨x.toNat, x.toNat_lt⟩; simp only [e] at this; exact this h
theorem ten_head {x : UInt8} (h : dgV x < 10) (h0 : dgV x = 0) : x = 48 := by
  rw [← dec_back x h, h0]; rfl
theorem tenW_bdg (v : Nat) (h : v ≤ 255) : tenW (bdg 10 v) = some v := by
  have e := bdg_val 10 (by decide) (by decide) v; have h2 := bdg_ok 10 (by decide) (by decide) v; have h3 : (bdg 10 v).length ≤ 3 := by
    by_cases a : v < 10
    · rw [bdg_small a (by decide)]; simp
    · rw [bdg_great a (by decide)]; by_cases b : v / 10 < 10
      · rw [bdg_small b (by decide)]; simp
      · rw [bdg_great b (by decide), bdg_small (by omega) (by decide)]; simp
  have h6 : ¬ (1 < (bdg 10 v).length ∧ (bdg 10 v).getD 0 0 = 48) := ?_
  · unfold tenW; rw [if_pos ⟨bdg_ne _ _, h3, h6, h2, by rw [e]; exact h⟩, e]
  rintro ⟨h4, h5⟩; rcases Nat.eq_zero_or_pos v with h0 | h0
  · subst h0; rw [bdg_small (by decide) (by decide)] at h4; simp at h4
  · exact bdg_head 10 (by decide) (by decide) v h0 h5
theorem tenW_is {p : List UInt8} {v : Nat} (h : tenW p = some v) : p = bdg 10 v ∧ v ≤ 255 := by
  unfold tenW at h
  split at h
  · rename_i hc; obtain ⟨h1, h2, h3, h4, h5⟩ := hc; simp only [Option.some.injEq] at h; subst h; refine ⟨?_, h5⟩; unfold okD at h4; rw [List.all_eq_true] at h4
    match p, h1, h2, h3, h4 with
    | [x], _, _, _, h4 =>
      have hx := h4 x (by simp); simp at hx; show [x] = bdg 10 (0 * 10 + dgV x); rw [Nat.zero_mul, Nat.zero_add, bdg_small hx (by decide), dec_back x hx]
    | [x, y], _, _, h3, h4 =>
      have hx := h4 x (by simp); have hy := h4 y (by simp); simp at hx hy; have h0 : dgV x ≠ 0 := fun e => h3 ⟨by simp, ten_head hx e⟩; show [x, y] = bdg 10 ((0 * 10 + dgV x) * 10 + dgV y); rw [bdg_great (by omega) (by decide), show ((0 * 10 + dgV x) * 10 + dgV y) / 10 = dgV x by omega, show ((0 * 10 + dgV x) * 10 + dgV y) % 10 = dgV y by omega, bdg_small hx (by decide), dec_back x hx, dec_back y hy]; rfl
    | [x, y, z], _, _, h3, h4 =>
      have hx := h4 x (by simp); have hy := h4 y (by simp); have hz := h4 z (by simp); simp at hx hy hz; have h0 : dgV x ≠ 0 := fun e => h3 ⟨by simp, ten_head hx e⟩; show [x, y, z] = bdg 10 (((0 * 10 + dgV x) * 10 + dgV y) * 10 + dgV z); rw [bdg_great (by omega) (by decide), show (((0 * 10 + dgV x) * 10 + dgV y) * 10 + dgV z) / 10 = dgV x * 10 + dgV y by omega, show (((0 * 10 + dgV x) * 10 + dgV y) * 10 + dgV z) % 10 = dgV z by omega,
        bdg_great (by omega) (by decide), show (dgV x * 10 + dgV y) / 10 = dgV x by omega, show (dgV x * 10 + dgV y) % 10 = dgV y by omega, bdg_small hx (by decide), dec_back x hx, dec_back y hy, dec_back z hz]
      rfl
    | [], h1, _, _, _ => exact absurd rfl h1
    | _ :: _ :: _ :: _ :: _, _, h2, _, _ => simp at h2
  · cases h
theorem shw_of (a b c d : Nat) (ha : a ≤ 255) (hb : b ≤ 255) (hc : c ≤ 255) (hd : d ≤ 255) : shw (a * 16777216 + b * 65536 + c * 256 + d) = jb 46 [bdg 10 a, bdg 10 b, bdg 10 c, bdg 10 d] := by
  rw [shw_jn, show (a * 16777216 + b * 65536 + c * 256 + d) / 16777216 = a by omega, show (a * 16777216 + b * 65536 + c * 256 + d) / 65536 % 256 = b by omega, show (a * 16777216 + b * 65536 + c * 256 + d) / 256 % 256 = c by omega, show (a * 16777216 + b * 65536 + c * 256 + d) % 256 = d by omega]; rfl
theorem fourL_four (a b c d : List UInt8) : fourL [a, b, c, d] = (tenW a).bind fun a => (tenW b).bind fun b => (tenW c).bind fun c => (tenW d).bind fun d => some [a * 256 + b, c * 256 + d] := rfl
theorem fourL_is {ps : List (List UInt8)} {r : List Nat} (h : fourL ps = some r) : ∃ a b c d, a ≤ 255 ∧ b ≤ 255 ∧ c ≤ 255 ∧ d ≤ 255 ∧ ps = [bdg 10 a, bdg 10 b, bdg 10 c, bdg 10 d] ∧ r = [a * 256 + b, c * 256 + d] := by
  match ps, h with
  | [a, b, c, d], h =>
    rw [fourL_four] at h; simp only [Option.bind_eq_some_iff, Option.some.injEq] at h; obtain ⟨a', ha, b', hb, c', hc, d', hd, hr⟩ := h; obtain ⟨rfl, ha2⟩ := tenW_is ha; obtain ⟨rfl, hb2⟩ := tenW_is hb; obtain ⟨rfl, hc2⟩ := tenW_is hc; obtain ⟨rfl, hd2⟩ := tenW_is hd; exact ⟨a', b', c', d', ha2, hb2, hc2, hd2, rfl, hr.symm⟩
  | [], h => cases h
  | [_], h => cases h
  | [_, _], h => cases h
  | [_, _, _], h => cases h
  | _ :: _ :: _ :: _ :: _ :: _, h => cases h
theorem fourL_bdg (a b c d : Nat) (ha : a ≤ 255) (hb : b ≤ 255) (hc : c ≤ 255) (hd : d ≤ 255) : fourL [bdg 10 a, bdg 10 b, bdg 10 c, bdg 10 d] = some [a * 256 + b, c * 256 + d] := by
  rw [fourL_four, tenW_bdg a ha, tenW_bdg b hb, tenW_bdg c hc, tenW_bdg d hd]; rfl
theorem four_read {p : List UInt8} {r : List Nat} (h : fourW p = some r) : ∃ n, n < 4294967296 ∧ shw n = p ∧ prs p = some n ∧ r = [n / 65536, n % 65536] := by
  obtain ⟨a, b, c, d, ha, hb, hc, hd, hq, hr⟩ := fourL_is h; have hj := jb_pcs 46 p; rw [hq, ← shw_of a b c d ha hb hc hd] at hj; have := (show_back (a * 16777216 + b * 65536 + c * 256 + d) (by omega)).1; rw [hj] at this; refine ⟨_, by omega, hj, this, ?_⟩; rw [hr, show (a * 16777216 + b * 65536 + c * 256 + d) / 65536 = a * 256 + b by omega, show (a * 16777216 + b * 65536 + c * 256 + d) % 65536 = c * 256 + d by omega]
theorem four_shw (n : Nat) (hn : n < 4294967296) : fourW (shw n) = some [n / 65536, n % 65536] := by
  unfold fourW; rw [shw_jn]; have hjj : jn [bdg 10 (n / 16777216), bdg 10 (n / 65536 % 256), bdg 10 (n / 256 % 256), bdg 10 (n % 256)] = jb 46 [bdg 10 (n / 16777216), bdg 10 (n / 65536 % 256), bdg 10 (n / 256 % 256), bdg 10 (n % 256)] := rfl; rw [hjj, pcs_jb 46 _ (by simp) fun q hq => (nod4 _ _ _ _ q hq).1, fourL_bdg _ _ _ _ (by omega) (by omega) (by omega) (by omega)]; rw [show n / 16777216 * 256 + n / 65536 % 256 = n / 65536 by omega, show n / 256 % 256 * 256 + n % 256 = n % 65536 by omega]
theorem four_eq (p : List UInt8) (hlt : ∀ n, prs p = some n → n < 4294967296) : fourP p = fourW p := by
  unfold fourP
  cases hf : fourW p with
  | some r =>
    obtain ⟨n, hn, hs, hp, hr⟩ := four_read hf; rw [hp]; show (if shw n = p then some [n / 65536, n % 65536] else none) = _; rw [if_pos hs, hr]
  | none =>
    cases hp : prs p with
    | none => rfl
    | some n =>
      show (if shw n = p then some [n / 65536, n % 65536] else none) = _; rw [if_neg]; intro hs; have := four_shw n (hlt n hp); rw [hs, hf] at this
      cases this
/-! Pieces -/
def pcsG (tail : Bool) : List (List UInt8) → Option (List Nat)
  | [] => some []
  | p :: ps => if tail = true ∧ ps = [] ∧ (46 : UInt8) ∈ p then fourW p else (hexW p).bind fun v => (pcsG tail ps).map fun l => v :: l
def piecesO (tail : Bool) (s : List UInt8) : Option (List Nat) := if s = [] then some [] else pcsG tail (pcs 58 s)
def gapAt : List UInt8 → Option (List UInt8 × List UInt8)
  | [] => none
  | x :: l => if x = 58 ∧ l.head? = some 58 then some ([], l.tail) else (gapAt l).map fun q => (x :: q.1, q.2)
def lay8 (x y : List Nat) : Option (List Nat) := if x.length + y.length ≤ 7 then some (x ++ List.replicate (8 - x.length - y.length) 0 ++ y) else none
def par6 (s : List UInt8) : Option (List Nat) :=
  match gapAt s with
  | some q => (piecesO false q.1).bind fun x => (piecesO true q.2).bind fun y => lay8 x y
  | none => (piecesO true s).bind fun x => if x.length = 8 then some x else none
def finO (t : List UInt8) (ps : List Nat) : Option Nat → Option (List Nat)
  | some g => (piecesO true t).bind fun y => lay8 (ps.take g) (ps.drop g ++ y)
  | none => match gapAt t with
    | some q => (piecesO false q.1).bind fun x => (piecesO true q.2).bind fun y => lay8 (ps ++ x) y
    | none => (piecesO true t).bind fun x => if (ps ++ x).length = 8 then some (ps ++ x) else none
theorem finO_start (s : List UInt8) : finO s [] none = par6 s := rfl
theorem finO_colons (r : List UInt8) : finO r [] (some 0) = par6 (58 :: 58 :: r) := by
  unfold finO par6; have : gapAt (58 :: 58 :: r) = some ([], r) := by
    rw [gapAt, if_pos ⟨rfl, rfl⟩]; rfl
  rw [this]; show _ = (piecesO true r).bind fun y => lay8 [] y; simp
theorem hexW_nil : hexW [] = none := by simp [hexW]
theorem dgV_46 : dgV 46 = 16 := by decide
theorem hexW_dot {p : List UInt8} (h : (46 : UInt8) ∈ p) : hexW p = none := by
  unfold hexW; rw [if_neg]; rintro ⟨_, _, h3⟩; unfold okD at h3; rw [List.all_eq_true] at h3; have := h3 46 h; rw [dgV_46] at this; simp at this
def noCol (w : List UInt8) : Prop := ∀ x ∈ w, x ≠ 58
theorem gapAt_word {w : List UInt8} (h : noCol w) : gapAt w = none := by
  induction w with
  | nil => rfl
  | cons x l ih =>
    rw [gapAt, if_neg fun e => h x (by simp) e.1, ih fun y hy => h y (List.mem_cons_of_mem _ hy)]; rfl
theorem gapAt_app {w : List UInt8} (h : noCol w) (hw : w ≠ []) (r : List UInt8) : gapAt (w ++ 58 :: 58 :: r) = some (w, r) := by
  induction w with
  | nil => exact absurd rfl hw
  | cons x l ih =>
    rw [List.cons_append, gapAt, if_neg fun e => h x (by simp) e.1]; by_cases hl : l = []
    · subst hl; rw [List.nil_append, gapAt, if_pos ⟨rfl, rfl⟩]; rfl
    · rw [ih (fun y hy => h y (List.mem_cons_of_mem _ hy)) hl]; rfl
theorem gapAt_col {w : List UInt8} (h : noCol w) (r : List UInt8) (hr : r.head? ≠ some 58) : gapAt (w ++ 58 :: r) = (gapAt r).map fun q => (w ++ 58 :: q.1, q.2) := by
  induction w with
  | nil =>
    rw [List.nil_append, gapAt, if_neg fun e => hr e.2]; rfl
  | cons x l ih =>
    rw [List.cons_append, gapAt, if_neg fun e => h x (by simp) e.1, ih fun y hy => h y (List.mem_cons_of_mem _ hy)]
    cases gapAt r <;> rfl
theorem gapAt_ne {r : List UInt8} (hr : r.head? ≠ some 58) {q : List UInt8 × List UInt8} (h : gapAt r = some q) : q.1 ≠ [] := by
  cases r with
  | nil => cases h
  | cons x l =>
    rw [gapAt, if_neg fun e => hr (by rw [e.1]; rfl)] at h
    cases hg : gapAt l with
    | none => rw [hg] at h; cases h
    | some p =>
      rw [hg] at h; simp only [Option.map_some, Option.some.injEq] at h; rw [← h]; simp
theorem pieces_one {w : List UInt8} (h : noCol w) (hw : w ≠ []) (tail : Bool) : piecesO tail w = if tail = true ∧ (46 : UInt8) ∈ w then fourW w else (hexW w).map fun v => [v] := by
  unfold piecesO; rw [if_neg hw, pcs_one 58 w h, pcsG]; simp only [pcsG, true_and]
  split
  · rfl
  · cases hexW w <;> rfl
theorem pieces_more {w : List UInt8} (h : noCol w) (r : List UInt8) (hr : r ≠ []) (tail : Bool) : piecesO tail (w ++ 58 :: r) = (hexW w).bind fun v => (piecesO tail r).map fun l => v :: l := by
  unfold piecesO; rw [if_neg (by simp), if_neg hr, pcs_app 58 w r h, pcsG, if_neg fun e => pcs_ne 58 r e.2.1]
theorem pieces_end {w : List UInt8} (h : noCol w) (tail : Bool) : piecesO tail (w ++ [58]) = none := by
  unfold piecesO; rw [if_neg (by simp), pcs_app 58 w [] h, pcsG, if_neg (by simp [pcs])]; have : pcsG tail (pcs 58 []) = none := by
    show pcsG tail [[]] = none; rw [pcsG, if_neg (by simp), hexW_nil]; rfl
  rw [this]
  cases hexW w <;> rfl
theorem pieces_gap {w : List UInt8} (h : noCol w) (r : List UInt8) (tail : Bool) : piecesO tail (w ++ 58 :: 58 :: r) = none := by
  unfold piecesO; rw [if_neg (by simp), pcs_app 58 w (58 :: r) h, pcsG]; have e : pcs 58 (58 :: r) = [] :: pcs 58 r := by rw [pcs, if_pos rfl]
  rw [e, if_neg (by simp)]; have : pcsG tail ([] :: pcs 58 r) = none := by
    rw [pcsG, if_neg (by simp [pcs_ne]), hexW_nil]; rfl
  rw [this]
  cases hexW w <;> rfl
def wordV (w : List UInt8) : Option (List Nat) := if (46 : UInt8) ∈ w then fourW w else (hexW w).map fun v => [v]
theorem lay8_many {x y : List Nat} (h : 7 < x.length + y.length) : lay8 x y = none := by
  unfold lay8; rw [if_neg (by omega)]
theorem fin_many (t : List UInt8) (ps : List Nat) (g : Option Nat) (hg : ∀ k, g = some k → k ≤ ps.length) (h : 8 < ps.length) : finO t ps g = none := by
  cases g with
  | some g =>
    have := hg g rfl; unfold finO
    cases piecesO true t with
    | none => rfl
    | some y =>
      show lay8 _ _ = none; exact lay8_many (by rw [List.length_append, List.length_take, List.length_drop]; omega)
  | none =>
    unfold finO
    cases gapAt t with
    | some q =>
      show (piecesO false q.1).bind _ = none
      cases piecesO false q.1 with
      | none => rfl
      | some x =>
        show (piecesO true q.2).bind _ = none
        cases piecesO true q.2 with
        | none => rfl
        | some y =>
          show lay8 _ _ = none; exact lay8_many (by rw [List.length_append]; omega)
    | none =>
      show (piecesO true t).bind _ = none
      cases piecesO true t with
      | none => rfl
      | some x =>
        show (if _ then _ else _) = none; rw [if_neg (by rw [List.length_append]; omega)]
theorem fin_nil (ps : List Nat) : finO [] ps none = if ps.length = 8 then some ps else none := by
  show (if (ps ++ []).length = 8 then some (ps ++ []) else none) = _; rw [List.append_nil]
theorem fin_nil_gap (ps : List Nat) (g : Nat) (hg : g ≤ ps.length) : finO [] ps (some g) = if ps.length ≤ 7 then some (ps.take g ++ List.replicate (8 - ps.length) 0 ++ ps.drop g) else none := by
  show lay8 (ps.take g) (ps.drop g ++ []) = _; unfold lay8; rw [List.append_nil, List.length_take, List.length_drop, show min g ps.length + (ps.length - g) = ps.length by omega, show 8 - min g ps.length - (ps.length - g) = 8 - ps.length by omega]
theorem fin_last {w : List UInt8} (h : noCol w) (hw : w ≠ []) (ps : List Nat) (g : Option Nat) (hg : ∀ k, g = some k → k ≤ ps.length) : finO w ps g = (wordV w).bind fun v => finO [] (ps ++ v) g := by
  have e : piecesO true w = wordV w := by
    rw [pieces_one h hw]; unfold wordV; simp
  cases g with
  | some g =>
    have := hg g rfl; unfold finO; rw [e]
    cases wordV w with
    | none => rfl
    | some v =>
      show lay8 _ _ = lay8 _ _; rw [List.take_append_of_le_length this, List.drop_append_of_le_length this, List.append_nil]
  | none =>
    unfold finO; rw [gapAt_word h, e]
    cases wordV w with
    | none => rfl
    | some v =>
      show (if _ then _ else _) = (if (ps ++ v ++ []).length = 8 then some (ps ++ v ++ []) else none); rw [List.append_nil]
theorem fin_gap {w : List UInt8} (h : noCol w) (hw : w ≠ []) (r : List UInt8) (ps : List Nat) : finO (w ++ 58 :: 58 :: r) ps none = (hexW w).bind fun v => finO r (ps ++ [v]) (some (ps.length + 1)) := by
  unfold finO; rw [gapAt_app h hw]; show (piecesO false w).bind _ = _; rw [pieces_one h hw, if_neg (by simp)]
  cases hexW w with
  | none => rfl
  | some v =>
    show (piecesO true r).bind _ = (piecesO true r).bind _; congr 1; funext y; rw [List.take_of_length_le (by simp), List.drop_of_length_le (by simp), List.nil_append]
theorem fin_gap_two {w : List UInt8} (h : noCol w) (r : List UInt8) (ps : List Nat) (g : Nat) : finO (w ++ 58 :: 58 :: r) ps (some g) = none := by
  unfold finO; rw [pieces_gap h]; rfl
theorem fin_colon {w : List UInt8} (h : noCol w) (r : List UInt8) (hr : r ≠ []) (hr2 : r.head? ≠ some 58) (ps : List Nat) (g : Option Nat) (hg : ∀ k, g = some k → k ≤ ps.length) : finO (w ++ 58 :: r) ps g = (hexW w).bind fun v => finO r (ps ++ [v]) g := by
  cases g with
  | some g =>
    have hg := hg g rfl; unfold finO; rw [pieces_more h r hr]
    cases hexW w with
    | none => rfl
    | some v =>
      show ((piecesO true r).map _).bind _ = (piecesO true r).bind _
      cases piecesO true r with
      | none => rfl
      | some y =>
        show lay8 _ _ = lay8 _ _; rw [List.take_append_of_le_length hg, List.drop_append_of_le_length hg, List.append_assoc]; rfl
  | none =>
    unfold finO; rw [gapAt_col h r hr2]
    cases hq : gapAt r with
    | some q =>
      have hn := gapAt_ne hr2 hq; show (piecesO false (w ++ 58 :: q.1)).bind _ = _; rw [pieces_more h q.1 hn]
      cases hexW w with
      | none => rfl
      | some v =>
        show ((piecesO false q.1).map _).bind _ = (piecesO false q.1).bind _
        cases piecesO false q.1 with
        | none => rfl
        | some x =>
          show (piecesO true q.2).bind _ = (piecesO true q.2).bind _; congr 1; funext y; rw [List.append_assoc]; rfl
    | none =>
      show (piecesO true (w ++ 58 :: r)).bind _ = _; rw [pieces_more h r hr]
      cases hexW w with
      | none => rfl
      | some v =>
        show ((piecesO true r).map _).bind _ = (piecesO true r).bind _
        cases piecesO true r with
        | none => rfl
        | some y =>
          show (if _ then _ else _) = (if _ then _ else _); rw [List.append_assoc]; rfl
theorem fin_end {w : List UInt8} (h : noCol w) (ps : List Nat) (g : Option Nat) : finO (w ++ [58]) ps g = none := by
  cases g with
  | some g =>
    unfold finO; rw [pieces_end h]; rfl
  | none =>
    unfold finO; rw [gapAt_col h [] (by simp)]; show (piecesO true (w ++ [58])).bind _ = none; rw [pieces_end h]; rfl
end Go.Proofs.YtenlampiiodkhaaGreatDoor
namespace Go.Proofs.YtenlampiiodkhaaGreatDoor
set_option linter.unusedVariables false
open Go.RowKit
/-! Words that are pieces -/
def hv (p : List UInt8) : Nat := (hexW p).getD 0
def good (p : List UInt8) : Prop := hexW p = some (hv p)
theorem good_of {p : List UInt8} {v : Nat} (h : hexW p = some v) : good p ∧ hv p = v := by
  unfold good hv; rw [h]; exact ⟨rfl, rfl⟩
theorem hexW_parts {p : List UInt8} {v : Nat} (h : hexW p = some v) : p ≠ [] ∧ p.length ≤ 4 ∧ okD 16 p = true ∧ val 16 p = v := by
  unfold hexW at h
  split at h
  · rename_i hc; simp only [Option.some.injEq] at h; exact ⟨hc.1, hc.2.1, hc.2.2, h⟩
  · cases h
theorem dgV_58 : dgV 58 = 16 := by decide
theorem good_ne {p : List UInt8} (h : good p) : p ≠ [] := (hexW_parts h).1
theorem good_col {p : List UInt8} (h : good p) : noCol p := by
  intro x hx e; have := (hexW_parts h).2.2.1; unfold okD at this; rw [List.all_eq_true] at this; have := this x hx; rw [e, dgV_58] at this; simp at this
theorem good_dot {p : List UInt8} (h : good p) : ¬ (46 : UInt8) ∈ p := by
  intro hx; have := hexW_dot hx; rw [h] at this
  cases this
theorem pcsG_good (tail : Bool) : ∀ ps : List (List UInt8), (∀ p ∈ ps, good p) → pcsG tail ps = some (ps.map hv)
  | [], _ => rfl
  | p :: t, h => by
    rw [pcsG, if_neg fun e => good_dot (h p (by simp)) e.2.2, h p (by simp), pcsG_good tail t fun q hq => h q (List.mem_cons_of_mem _ hq)]; rfl
theorem pieces_jb (tail : Bool) (ps : List (List UInt8)) (h : ∀ p ∈ ps, good p) : piecesO tail (jb 58 ps) = some (ps.map hv) := by
  unfold piecesO
  cases ps with
  | nil => rfl
  | cons p t =>
    have hne : jb 58 (p :: t) ≠ [] := by
      have := good_ne (h p (by simp))
      cases t with
      | nil => exact this
      | cons q t => simp [jb]
    rw [if_neg hne, pcs_jb 58 _ (by simp) fun q hq => good_col (h q hq), pcsG_good tail _ h]
theorem jb_head {ps : List (List UInt8)} (h : ∀ p ∈ ps, good p) : (jb 58 ps).head? ≠ some 58 := by
  cases ps with
  | nil => simp [jb]
  | cons p t =>
    have h1 := good_ne (h p (by simp)); have h2 := good_col (h p (by simp))
    cases p with
    | nil => exact absurd rfl h1
    | cons x l =>
      have : x ≠ 58 := h2 x (by simp)
      cases t with
      | nil => simpa [jb] using this
      | cons q t => simpa [jb] using this
theorem gapAt_jb (ps : List (List UInt8)) (h : ∀ p ∈ ps, good p) (r : List UInt8) : gapAt (jb 58 ps ++ 58 :: 58 :: r) = some (jb 58 ps, r) := by
  induction ps with
  | nil =>
    show gapAt (58 :: 58 :: r) = _; rw [gapAt, if_pos ⟨rfl, rfl⟩]; rfl
  | cons p t ih =>
    have hc := good_col (h p (by simp)); have hn := good_ne (h p (by simp)); by_cases ht : t = []
    · subst ht; exact gapAt_app hc hn r
    · have hgt : ∀ q ∈ t, good q := fun q hq => h q (List.mem_cons_of_mem _ hq); rw [jb_cons 58 p t ht, List.append_assoc, List.cons_append, gapAt_col hc, ih hgt]
      · rfl
      · have := jb_head hgt
        cases hj : jb 58 t with
        | nil =>
          have := pcs_jb 58 t ht fun q hq => good_col (hgt q hq); rw [hj] at this; have h3 : ([] : List UInt8) ∈ t := by rw [← this]; simp [pcs]
          exact absurd rfl (good_ne (hgt _ h3))
        | cons x l =>
          rw [hj] at this; simpa using this
theorem gapAt_no (ps : List (List UInt8)) (h : ∀ p ∈ ps, good p) (w : List UInt8) (hw : noCol w) (hw0 : w ≠ []) : gapAt (jb 58 (ps ++ [w])) = none := by
  induction ps with
  | nil => exact gapAt_word hw
  | cons p t ih =>
    have hgt : ∀ q ∈ t, good q := fun q hq => h q (List.mem_cons_of_mem _ hq); rw [List.cons_append, jb_cons 58 p _ (by simp), gapAt_col (good_col (h p (by simp))), ih hgt]
    · rfl
    · cases t with
      | nil =>
        cases w with
        | nil => exact absurd rfl hw0
        | cons x l =>
          have := hw x (by simp); simpa [jb] using this
      | cons q t =>
        have h1 := good_ne (hgt q (by simp)); have h2 := good_col (hgt q (by simp))
        cases q with
        | nil => exact absurd rfl h1
        | cons x l =>
          have : x ≠ 58 := h2 x (by simp); rw [List.cons_append, jb_cons 58 _ _ (by simp)]; simpa using this
theorem gapAt_none (ps : List (List UInt8)) (h : ∀ p ∈ ps, good p) : gapAt (jb 58 ps) = none := by
  by_cases hp : ps = []
  · subst hp; rfl
  · obtain ⟨t, w, rfl⟩ : ∃ t w, ps = t ++ [w] := ⟨ps.dropLast, ps.getLast hp, (List.dropLast_concat_getLast hp).symm⟩; exact gapAt_no t (fun q hq => h q (by simp [hq])) w (good_col (h w (by simp))) (good_ne (h w (by simp)))
theorem par_gap (x y : List (List UInt8)) (hx : ∀ p ∈ x, good p) (hy : ∀ p ∈ y, good p) : par6 (jb 58 x ++ 58 :: 58 :: jb 58 y) = lay8 (x.map hv) (y.map hv) := by
  unfold par6; rw [gapAt_jb x hx]; show (piecesO false (jb 58 x)).bind _ = _; rw [pieces_jb false x hx]; show (piecesO true (jb 58 y)).bind _ = _; rw [pieces_jb true y hy]; rfl
theorem par_all (x : List (List UInt8)) (hx : ∀ p ∈ x, good p) : par6 (jb 58 x) = if x.length = 8 then some (x.map hv) else none := by
  unfold par6; rw [gapAt_none x hx]; show (piecesO true (jb 58 x)).bind _ = _; rw [pieces_jb true x hx]; show (if (x.map hv).length = 8 then _ else _) = _; rw [List.length_map]
/-! How they are shown -/
theorem hexW_bdg (v : Nat) (h : v < 65536) : hexW (bdg 16 v) = some v := by
  have h3 : (bdg 16 v).length ≤ 4 := by
    by_cases a : v < 16
    · rw [bdg_small a (by decide)]; simp
    · rw [bdg_great a (by decide)]; by_cases b : v / 16 < 16
      · rw [bdg_small b (by decide)]; simp
      · rw [bdg_great b (by decide)]; by_cases c : v / 16 / 16 < 16
        · rw [bdg_small c (by decide)]; simp
        · rw [bdg_great c (by decide), bdg_small (by omega) (by decide)]; simp
  unfold hexW; rw [if_pos ⟨bdg_ne _ _, h3, bdg_ok 16 (by decide) (by decide) v⟩, bdg_val 16 (by decide) (by decide) v]
def jp (l : List Nat) : List UInt8 := jb 58 (l.map (bdg 16))
def i6small (l : List Nat) : Prop := ∀ v ∈ l, v < 65536
def runB : List Bool → Nat
  | true :: l => runB l + 1
  | _ => 0
def drow (bs : List Bool) : Nat → Int × Nat
  | 0 => (-1, 1)
  | k + 1 => if (drow bs k).2 < runB (bs.drop k) then ((k : Int), runB (bs.drop k)) else drow bs k
def prow (bs : List Bool) : Nat → Nat → Nat → Nat → Nat × Nat
  | 0, _, fr, to => (fr, to)
  | f + 1, i, fr, to => if i < 8 then (if 2 ≤ runB (bs.drop i) ∧ to - fr < runB (bs.drop i) then prow bs f (i + runB (bs.drop i) + 1) i (i + runB (bs.drop i)) else prow bs f (i + runB (bs.drop i) + 1) fr to) else (fr, to)
def rowOf (bs : List Bool) : Nat × Nat := prow bs 9 0 8 8
def rowOk (bs : List Bool) : Bool :=
  let q := rowOf bs; decide (q.1 ≤ q.2) && decide (q.2 ≤ 8) && (if q.1 < q.2 then decide (drow bs 8 = ((q.1 : Int), q.2 - q.1)) && decide (2 ≤ q.2 - q.1) && ((bs.drop q.1).take (q.2 - q.1)).all id else decide (q.1 = 8) && decide (drow bs 8 = (-1, 1)))
theorem row_all : ∀ a b c d e f g h : Bool, rowOk [a, b, c, d, e, f, g, h] = true := by decide +kernel
theorem row_ok (bs : List Bool) (h : bs.length = 8) : rowOk bs = true := by
  match bs, h with
  | [a, b, c, d, e, f, g, i], _ => exact row_all a b c d e f g i
def zb (a : List Nat) : List Bool := a.map fun x => x == 0
def shw6 (a : List Nat) : List UInt8 := jp (a.take (rowOf (zb a)).1) ++ if (rowOf (zb a)).1 < (rowOf (zb a)).2 then 58 :: 58 :: jp (a.drop (rowOf (zb a)).2) else []
theorem row_facts (a : List Nat) (h : a.length = 8) : (rowOf (zb a)).1 ≤ (rowOf (zb a)).2 ∧ (rowOf (zb a)).2 ≤ 8 ∧ ((rowOf (zb a)).1 < (rowOf (zb a)).2 → drow (zb a) 8 = (((rowOf (zb a)).1 : Int), (rowOf (zb a)).2 - (rowOf (zb a)).1) ∧ 2 ≤ (rowOf (zb a)).2 - (rowOf (zb a)).1 ∧ (a.drop (rowOf (zb a)).1).take ((rowOf (zb a)).2 - (rowOf (zb a)).1) = List.replicate ((rowOf (zb a)).2 - (rowOf (zb a)).1) 0) ∧
    (¬ (rowOf (zb a)).1 < (rowOf (zb a)).2 → (rowOf (zb a)).1 = 8 ∧ drow (zb a) 8 = (-1, 1)) := by
  have hz := row_ok (zb a) (by unfold zb; rw [List.length_map]; exact h); unfold rowOk at hz; simp only [Bool.and_eq_true, decide_eq_true_eq] at hz; obtain ⟨⟨h1, h2⟩, h3⟩ := hz; refine ⟨h1, h2, fun hlt => ?_, fun hlt => ?_⟩
  · rw [if_pos hlt] at h3; simp only [Bool.and_eq_true, decide_eq_true_eq] at h3; obtain ⟨⟨h4, h5⟩, h6⟩ := h3; refine ⟨h4, h5, ?_⟩; generalize (rowOf (zb a)).1 = p at *; generalize (rowOf (zb a)).2 = q at *; apply List.eq_replicate_iff.2; refine ⟨by rw [List.length_take, List.length_drop]; omega, fun x hx => ?_⟩; unfold zb at h6; rw [← List.map_drop, ← List.map_take, List.all_map, List.all_eq_true] at h6; simpa using h6 x hx
  · rw [if_neg hlt] at h3; simp only [Bool.and_eq_true, decide_eq_true_eq] at h3; exact h3
theorem small_take {a : List Nat} (h : i6small a) (k : Nat) : i6small (a.take k) := fun v hv' => h v (List.mem_of_mem_take hv')
theorem small_drop {a : List Nat} (h : i6small a) (k : Nat) : i6small (a.drop k) := fun v hv' => h v (List.mem_of_mem_drop hv')
theorem lay_back (a : List Nat) (h : a.length = 8) (p q : Nat) (hp : p < q) (hq : q ≤ 8) (h2 : 2 ≤ q - p) (hz : (a.drop p).take (q - p) = List.replicate (q - p) 0) : lay8 (a.take p) (a.drop q) = some a := by
  unfold lay8; rw [List.length_take, List.length_drop, if_pos (by omega), show 8 - min p a.length - (a.length - q) = q - p by omega, ← hz, List.append_assoc]; congr 1; have e : a.drop q = (a.drop p).drop (q - p) := by rw [List.drop_drop, show p + (q - p) = q by omega]
  rw [e, List.take_append_drop, List.take_append_drop]
theorem back_words (a : List Nat) (h : a.length = 8) (f : List UInt8 → List UInt8) (hf : ∀ v, v < 65536 → hexW (f (bdg 16 v)) = some v) (hs : i6small a) :
    par6 (jb 58 ((a.take (rowOf (zb a)).1).map fun v => f (bdg 16 v)) ++ if (rowOf (zb a)).1 < (rowOf (zb a)).2 then 58 :: 58 :: jb 58 ((a.drop (rowOf (zb a)).2).map fun v => f (bdg 16 v)) else []) = some a := by
  obtain ⟨h1, h2, h3, h4⟩ := row_facts a h; have key : ∀ l : List Nat, i6small l → (∀ p ∈ l.map (fun v => f (bdg 16 v)), good p) ∧ (l.map (fun v => f (bdg 16 v))).map hv = l := by
    intro l hl; refine ⟨fun p hp => ?_, ?_⟩
    · obtain ⟨v, hv', rfl⟩ := List.mem_map.1 hp; exact (good_of (hf v (hl v hv'))).1
    · rw [List.map_map]
      conv => rhs; rw [← List.map_id l]
      apply List.map_congr_left; intro v hv'; exact (good_of (hf v (hl v hv'))).2
  by_cases hlt : (rowOf (zb a)).1 < (rowOf (zb a)).2
  · obtain ⟨_, h5, h6⟩ := h3 hlt; rw [if_pos hlt, par_gap _ _ (key _ (small_take hs _)).1 (key _ (small_drop hs _)).1, (key _ (small_take hs _)).2, (key _ (small_drop hs _)).2]; exact lay_back a h _ _ hlt h2 h5 h6
  · obtain ⟨h5, _⟩ := h4 hlt; rw [if_neg hlt, List.append_nil, h5, List.take_of_length_le (by omega), par_all _ (key _ hs).1, List.length_map, if_pos h, (key _ hs).2]
theorem shw6_back (a : List Nat) (h : a.length = 8) (hs : i6small a) : par6 (shw6 a) = some a := back_words a h id (fun v hv' => hexW_bdg v hv') hs
def h4 (v : Nat) : List UInt8 := [hexd (v / 4096), hexd (v / 256 % 16), hexd (v / 16 % 16), hexd (v % 16)]
end Go.Proofs.YtenlampiiodkhaaGreatDoor
