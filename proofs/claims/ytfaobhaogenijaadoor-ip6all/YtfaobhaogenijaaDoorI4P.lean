/-
  Plain facts of numbers of hosts: digits, parts, addresses. Nothing is proved of the program here.
-/
import Derived.Test.YtfaobhaogenijaaDoorPcs
import Derived.Lib.ItoaNum
namespace Go.Proofs.YtfaobhaogenijaaDoor
set_option linter.unusedVariables false
open Go.RowKit

/-- What a byte stands for; 16: it is no digit. -/
def dgV (x : UInt8) : Nat := if 48 ≤ x.toNat ∧ x.toNat ≤ 57 then x.toNat - 48 else if 97 ≤ x.toNat ∧ x.toNat ≤ 102 then x.toNat - 87 else if 65 ≤ x.toNat ∧ x.toNat ≤ 70 then x.toNat - 55 else 16
theorem dgV_le (x : UInt8) : dgV x ≤ 16 := by
  unfold dgV
  split
  · omega
  · split
    · omega
    · split <;> omega
def mrk (p : List UInt8) : Bool := decide (2 ≤ p.length) && (p.getD 0 0 == 48) && (p.getD 1 0 == 120 || p.getD 1 0 == 88)
def oct (p : List UInt8) : Bool := decide (1 < p.length) && (p.getD 0 0 == 48)
def digs (p : List UInt8) : List UInt8 := if mrk p = true then p.drop 2 else if oct p = true then p.drop 1 else p
def bas (p : List UInt8) : Nat := if mrk p = true then 16 else if oct p = true then 8 else 10
def okD (b : Nat) (l : List UInt8) : Bool := l.all fun x => decide (dgV x < b)
def val (b : Nat) (l : List UInt8) : Nat := l.foldl (fun n x => n * b + dgV x) 0
/-- A part's number, if it is one and not above most. -/
def numO (p : List UInt8) (most : Nat) : Option Nat := if p ≠ [] ∧ okD (bas p) (digs p) = true ∧ val (bas p) (digs p) ≤ most then some (val (bas p) (digs p)) else none
theorem bas_cases (p : List UInt8) : bas p = 16 ∨ bas p = 8 ∨ bas p = 10 := by
  unfold bas
  split
  · exact .inl rfl
  · split
    · exact .inr (.inl rfl)
    · exact .inr (.inr rfl)
theorem digs_len (p : List UInt8) : (digs p).length ≤ p.length := by
  unfold digs
  split
  · simp
  · split <;> simp
theorem fold_ge (b : Nat) (hb : 1 ≤ b) : ∀ (l : List UInt8) (n : Nat), n ≤ l.foldl (fun n x => n * b + dgV x) n
  | [], n => Nat.le_refl _
  | x :: l, n => by
    rw [List.foldl_cons]
    have h := fold_ge b hb l (n * b + dgV x)
    have h2 : n * 1 ≤ n * b := Nat.mul_le_mul_left n hb
    omega
theorem val_snoc (b : Nat) (l : List UInt8) (x : UInt8) : val b (l ++ [x]) = val b l * b + dgV x := by
  unfold val
  rw [List.foldl_append]
  rfl
theorem val_take (b : Nat) (hb : 1 ≤ b) (l : List UInt8) (k : Nat) : val b (l.take k) ≤ val b l := by
  have e : l = l.take k ++ l.drop k := (List.take_append_drop k l).symm
  conv => rhs; rw [e]
  unfold val
  rw [List.foldl_append]
  exact fold_ge b hb _ _
theorem numO_le {p : List UInt8} {most n : Nat} (h : numO p most = some n) : n ≤ most := by
  unfold numO at h
  split at h
  · rename_i hc
    simp only [Option.some.injEq] at h
    omega
  · cases h
theorem numO_empty (most : Nat) : numO [] most = none := by
  unfold numO
  rw [if_neg]
  rintro ⟨h, _⟩
  exact h rfl
theorem numO_bad {p : List UInt8} {most : Nat} (h : okD (bas p) (digs p) = false) : numO p most = none := by
  unfold numO
  rw [if_neg]
  rintro ⟨_, h2, _⟩
  rw [h] at h2
  cases h2
theorem numO_great {p : List UInt8} {most : Nat} (h : most < val (bas p) (digs p)) : numO p most = none := by
  unfold numO
  rw [if_neg]
  rintro ⟨_, _, h3⟩
  omega
theorem numO_yes {p : List UInt8} {most : Nat} (h0 : p ≠ []) (h1 : okD (bas p) (digs p) = true) (h2 : val (bas p) (digs p) ≤ most) : numO p most = some (val (bas p) (digs p)) := by
  unfold numO
  rw [if_pos ⟨h0, h1, h2⟩]

/-- The other parts, each at its place. -/
def accO : Nat → Nat → List (List UInt8) → Option Nat
  | a, _, [] => some a
  | a, i, p :: t => (numO p 255).bind fun n => accO (a + n * 256 ^ (3 - i)) (i + 1) t
def mostL (n : Nat) : Nat := 256 ^ (5 - n) - 1
def parO (ps : List (List UInt8)) : Option Nat := if 4 < ps.length then none else (numO (ps.getLastD []) (mostL ps.length)).bind fun a => accO a 0 ps.dropLast
/-- The document's Parse; none: ErrHost. -/
def prs (s : List UInt8) : Option Nat := parO (pcs 46 (Lib.trimSuffix s [46]))
/-- The document's Ends. -/
def endB (x : List UInt8) : Bool := if mrk x = true then okD 16 (x.drop 2) else !x.isEmpty && okD 10 x
def ends (s : List UInt8) : Bool := endB (lastP 46 (Lib.trimSuffix s [46]))
def shw (a : Nat) : List UInt8 := Lib.decDigits (a / 16777216) ++ 46 :: (Lib.decDigits (a / 65536 % 256) ++ 46 :: (Lib.decDigits (a / 256 % 256) ++ 46 :: Lib.decDigits (a % 256)))

theorem accO_snoc (q : List UInt8) : ∀ (ps : List (List UInt8)) (a i : Nat), accO a i (ps ++ [q]) = (accO a i ps).bind fun b => (numO q 255).map fun n => b + n * 256 ^ (3 - (i + ps.length))
  | [], a, i => by
    show (numO q 255).bind _ = (numO q 255).map _
    cases numO q 255 <;> rfl
  | p :: t, a, i => by
    rw [List.cons_append, accO, accO]
    cases numO p 255 with
    | none => rfl
    | some n =>
      simp only [Option.bind_some]
      rw [accO_snoc q t]
      rw [show i + 1 + t.length = i + (p :: t).length by simp; omega]
theorem accO_bad : ∀ (ps : List (List UInt8)) (a i k : Nat), accO a i (ps.take k) = none → accO a i ps = none
  | [], a, i, k, h => by simp [accO] at h
  | p :: t, a, i, 0, h => by simp [accO] at h
  | p :: t, a, i, k + 1, h => by
    rw [List.take_succ_cons, accO] at h
    rw [accO]
    cases hp : numO p 255 with
    | none => rfl
    | some n =>
      rw [hp] at h
      simp only [Option.bind_some] at h ⊢
      exact accO_bad t _ _ k h

/-! What is written is read -/
def hexd (n : Nat) : UInt8 := UInt8.ofNat (if n < 10 then 48 + n else 87 + n)
def bdg (b n : Nat) : List UInt8 :=
  if h : n < b ∨ b < 2 then [hexd (n % 16)] else bdg b (n / b) ++ [hexd (n % b)]
termination_by n
decreasing_by exact Nat.div_lt_self (by omega) (by omega)
theorem bdg_small {b n : Nat} (h : n < b) (hb : b ≤ 16) : bdg b n = [hexd n] := by
  rw [bdg, dif_pos (.inl h), Nat.mod_eq_of_lt (by omega)]
theorem bdg_great {b n : Nat} (h : ¬ n < b) (hb : 2 ≤ b) : bdg b n = bdg b (n / b) ++ [hexd (n % b)] := by
  rw [bdg, dif_neg (by omega)]
theorem dec_bdg : ∀ n : Nat, Lib.decDigits n = bdg 10 n := by
  intro n
  induction n using Nat.strongRecOn with
  | _ n ih =>
    rw [Lib.decDigits]
    by_cases h : n < 10
    · rw [dif_pos h, bdg_small h (by decide)]
      unfold hexd
      rw [if_pos h]
    · rw [dif_neg h, bdg_great h (by decide), ih (n / 10) (Nat.div_lt_self (by omega) (by decide))]
      unfold hexd
      rw [if_pos (Nat.mod_lt _ (by decide))]
theorem hexd_val : ∀ n : Fin 16, dgV (hexd n.val) = n.val ∧ hexd n.val ≠ 46 ∧ hexd n.val ≠ 120 ∧ hexd n.val ≠ 88 ∧ (n.val ≠ 0 → hexd n.val ≠ 48) := by decide +kernel
theorem hexd_v {n : Nat} (h : n < 16) : dgV (hexd n) = n := (hexd_val ⟨n, h⟩).1
theorem bdg_mem (b : Nat) (hb : 2 ≤ b) (hb2 : b ≤ 16) : ∀ (n : Nat) (x : UInt8), x ∈ bdg b n → dgV x < b ∧ x ≠ 46 ∧ x ≠ 120 ∧ x ≠ 88 := by
  intro n
  induction n using Nat.strongRecOn with
  | _ n ih =>
    intro x hx
    by_cases h : n < b
    · rw [bdg_small h hb2, List.mem_singleton] at hx
      subst hx
      have := hexd_val ⟨n, by omega⟩
      exact ⟨by rw [hexd_v (by omega)]; exact h, this.2.1, this.2.2.1, this.2.2.2.1⟩
    · rw [bdg_great h hb] at hx
      rcases List.mem_append.1 hx with hx | hx
      · exact ih (n / b) (Nat.div_lt_self (by omega) (by omega)) x hx
      · rw [List.mem_singleton] at hx
        subst hx
        have hm := Nat.mod_lt n (show 0 < b by omega)
        have := hexd_val ⟨n % b, by omega⟩
        exact ⟨by rw [hexd_v (by omega)]; exact hm, this.2.1, this.2.2.1, this.2.2.2.1⟩
theorem bdg_ne (b n : Nat) : bdg b n ≠ [] := by
  rw [bdg]
  split <;> simp
theorem bdg_val (b : Nat) (hb : 2 ≤ b) (hb2 : b ≤ 16) : ∀ n : Nat, val b (bdg b n) = n := by
  intro n
  induction n using Nat.strongRecOn with
  | _ n ih =>
    by_cases h : n < b
    · rw [bdg_small h hb2]
      show 0 * b + dgV (hexd n) = n
      rw [hexd_v (by omega)]
      omega
    · have hm := Nat.mod_lt n (show 0 < b by omega)
      rw [bdg_great h hb, val_snoc, ih (n / b) (Nat.div_lt_self (by omega) (by omega)), hexd_v (by omega)]
      exact Nat.div_add_mod' n b
theorem bdg_ok (b : Nat) (hb : 2 ≤ b) (hb2 : b ≤ 16) (n : Nat) : okD b (bdg b n) = true := by
  unfold okD
  rw [List.all_eq_true]
  intro x hx
  simpa using (bdg_mem b hb hb2 n x hx).1
theorem bdg_head (b : Nat) (hb : 2 ≤ b) (hb2 : b ≤ 16) : ∀ n : Nat, 0 < n → (bdg b n).getD 0 0 ≠ 48 := by
  intro n
  induction n using Nat.strongRecOn with
  | _ n ih =>
    intro hn
    by_cases h : n < b
    · rw [bdg_small h hb2]
      exact (hexd_val ⟨n, by omega⟩).2.2.2.2 (by show n ≠ 0; omega)
    · have hd : 0 < n / b := Nat.div_pos (by omega) (by omega)
      rw [bdg_great h hb]
      have h1 := ih (n / b) (Nat.div_lt_self (by omega) (by omega)) hd
      cases hl : bdg b (n / b) with
      | nil => exact absurd hl (bdg_ne _ _)
      | cons y t =>
        rw [hl] at h1
        simpa using h1
theorem getD_mem (l : List UInt8) (i : Nat) (h : i < l.length) : l.getD i 0 ∈ l := by simp [List.getD, h]
theorem mrk_not {p : List UInt8} (h : ∀ x ∈ p, x ≠ 120 ∧ x ≠ 88) : mrk p = false := by
  unfold mrk
  by_cases h2 : 2 ≤ p.length
  · have := h _ (getD_mem p 1 (by omega))
    rw [beq_eq_false_iff_ne.2 this.1, beq_eq_false_iff_ne.2 this.2]
    simp
  · simp [h2]
theorem ten_read (n most : Nat) (h : n ≤ most) : numO (bdg 10 n) most = some n := by
  have hm : mrk (bdg 10 n) = false := mrk_not fun x hx => ⟨(bdg_mem 10 (by decide) (by decide) n x hx).2.2.1, (bdg_mem 10 (by decide) (by decide) n x hx).2.2.2⟩
  have ho : oct (bdg 10 n) = false := by
    unfold oct
    by_cases h0 : n = 0
    · subst h0
      rw [bdg_small (by decide) (by decide)]
      rfl
    · have := bdg_head 10 (by decide) (by decide) n (by omega)
      have hb : ((bdg 10 n).getD 0 0 == 48) = false := by simpa using this
      rw [hb, Bool.and_false]
  have e1 : digs (bdg 10 n) = bdg 10 n := by unfold digs; rw [hm, ho]; rfl
  have e2 : bas (bdg 10 n) = 10 := by unfold bas; rw [hm, ho]; rfl
  rw [numO_yes (bdg_ne _ _)]
  · rw [e1, e2, bdg_val 10 (by decide) (by decide)]
  · rw [e1, e2, bdg_ok 10 (by decide) (by decide)]
  · rw [e1, e2, bdg_val 10 (by decide) (by decide)]
    exact h
theorem ten_great (n most : Nat) (h : most < n) : numO (bdg 10 n) most = none := by
  cases hn : numO (bdg 10 n) most with
  | none => rfl
  | some m =>
    have h1 := numO_le hn
    have h2 := ten_read n n (Nat.le_refl _)
    unfold numO at hn h2
    split at hn
    · split at h2
      · simp only [Option.some.injEq] at hn h2
        omega
      · cases h2
    · cases hn
theorem eight_read (f : List UInt8) (hf : f = [48] ∨ f = [48, 48]) (n most : Nat) (h : n ≤ most) : numO (f ++ bdg 8 n) most = some n := by
  have hx : ∀ x ∈ f ++ bdg 8 n, x ≠ 120 ∧ x ≠ 88 := by
    intro x hx
    rcases List.mem_append.1 hx with hx | hx
    · rcases hf with rfl | rfl <;> simp at hx <;> subst hx <;> decide
    · exact ⟨(bdg_mem 8 (by decide) (by decide) n x hx).2.2.1, (bdg_mem 8 (by decide) (by decide) n x hx).2.2.2⟩
  have hm := mrk_not hx
  have hl := List.length_pos_iff.2 (bdg_ne 8 n)
  have ho : oct (f ++ bdg 8 n) = true := by
    unfold oct
    rcases hf with rfl | rfl <;> simp <;> first | exact bdg_ne 8 n | omega
  have e1 : ∃ z, digs (f ++ bdg 8 n) = z ++ bdg 8 n ∧ (z = [] ∨ z = [48]) := by
    unfold digs
    rw [hm, ho]
    rcases hf with rfl | rfl
    · exact ⟨[], rfl, .inl rfl⟩
    · exact ⟨[48], rfl, .inr rfl⟩
  obtain ⟨z, e1, hz⟩ := e1
  have e2 : bas (f ++ bdg 8 n) = 8 := by unfold bas; rw [hm, ho]; rfl
  have hv : val 8 (z ++ bdg 8 n) = n := by
    rcases hz with rfl | rfl
    · exact bdg_val 8 (by decide) (by decide) n
    · have := bdg_val 8 (by decide) (by decide) n
      unfold val at this ⊢
      exact this
  have hk : okD 8 (z ++ bdg 8 n) = true := by
    unfold okD
    rw [List.all_append]
    have := bdg_ok 8 (by decide) (by decide) n
    unfold okD at this
    rw [this]
    rcases hz with rfl | rfl <;> decide
  rw [numO_yes]
  · rw [e1, e2, hv]
  · rcases hf with rfl | rfl <;> simp
  · rw [e1, e2, hk]
  · rw [e1, e2, hv]
    exact h
theorem hex_read (x : UInt8) (hx : x = 120 ∨ x = 88) (n most : Nat) (h : n ≤ most) : numO (48 :: x :: bdg 16 n) most = some n := by
  have hm : mrk (48 :: x :: bdg 16 n) = true := by
    unfold mrk
    rcases hx with rfl | rfl <;> simp
  have e1 : digs (48 :: x :: bdg 16 n) = bdg 16 n := by unfold digs; rw [hm]; rfl
  have e2 : bas (48 :: x :: bdg 16 n) = 16 := by unfold bas; rw [hm]; rfl
  rw [numO_yes (by simp)]
  · rw [e1, e2, bdg_val 16 (by decide) (by decide)]
  · rw [e1, e2, bdg_ok 16 (by decide) (by decide)]
  · rw [e1, e2, bdg_val 16 (by decide) (by decide)]
    exact h

/-- No full stop is in it, and it is not empty. -/
def nod (p : List UInt8) : Prop := (∀ x ∈ p, x ≠ 46) ∧ p ≠ []
theorem nod_bdg (b : Nat) (hb : 2 ≤ b) (hb2 : b ≤ 16) (n : Nat) : nod (bdg b n) := ⟨fun x hx => (bdg_mem b hb hb2 n x hx).2.1, bdg_ne b n⟩
theorem nod_last {p : List UInt8} (h : nod p) (a : List UInt8) : (a ++ p).getLast? ≠ some 46 := by
  intro e
  rw [List.getLast?_append] at e
  cases hp : p.getLast? with
  | none => exact h.2 (List.getLast?_eq_none_iff.1 hp)
  | some x =>
    rw [hp] at e
    simp at e
    exact h.1 x (List.mem_of_getLast? hp) e
/-- Parts side by side, with full stops between. -/
def jn : List (List UInt8) → List UInt8
  | [] => []
  | [p] => p
  | p :: q :: t => p ++ 46 :: jn (q :: t)
theorem jn_pcs : ∀ ps : List (List UInt8), ps ≠ [] → (∀ p ∈ ps, nod p) → pcs 46 (jn ps) = ps
  | [], h, _ => absurd rfl h
  | [p], _, h => pcs_one 46 p (h p (by simp)).1
  | p :: q :: t, _, h => by
    show pcs 46 (p ++ 46 :: jn (q :: t)) = _
    rw [pcs_app 46 p _ (h p (by simp)).1, jn_pcs (q :: t) (by simp) fun x hx => h x (List.mem_cons_of_mem _ hx)]
theorem jn_last : ∀ ps : List (List UInt8), ps ≠ [] → (∀ p ∈ ps, nod p) → (jn ps).getLast? ≠ some 46
  | [], h, _ => absurd rfl h
  | [p], _, h => nod_last (h p (by simp)) []
  | p :: q :: t, _, h => by
    have ih := jn_last (q :: t) (by simp) fun x hx => h x (List.mem_cons_of_mem _ hx)
    show (p ++ 46 :: jn (q :: t)).getLast? ≠ _
    intro e
    apply ih
    rw [List.getLast?_append, List.getLast?_cons] at e
    cases hj : (jn (q :: t)).getLast? with
    | none =>
      have h2 := jn_pcs (q :: t) (by simp) fun x hx => h x (List.mem_cons_of_mem _ hx)
      rw [List.getLast?_eq_none_iff.1 hj] at h2
      have h3 := (List.cons.inj h2).1
      exact absurd h3.symm (h q (by simp)).2
    | some x =>
      rw [hj] at e
      simpa using e
theorem prs_jn (ps : List (List UInt8)) (h : ps ≠ []) (hn : ∀ p ∈ ps, nod p) : prs (jn ps) = parO ps ∧ prs (jn ps ++ [46]) = parO ps := by
  unfold prs
  rw [trim_no 46 _ (jn_last ps h hn), trim_yes, jn_pcs ps h hn]
  exact ⟨rfl, rfl⟩
theorem ends_jn (ps : List (List UInt8)) (h : ps ≠ []) (hn : ∀ p ∈ ps, nod p) : ends (jn ps) = endB (ps.getLastD []) ∧ ends (jn ps ++ [46]) = endB (ps.getLastD []) := by
  unfold ends lastP
  rw [trim_no 46 _ (jn_last ps h hn), trim_yes, jn_pcs ps h hn]
  exact ⟨rfl, rfl⟩
theorem shw_jn (a : Nat) : shw a = jn [bdg 10 (a / 16777216), bdg 10 (a / 65536 % 256), bdg 10 (a / 256 % 256), bdg 10 (a % 256)] := by
  unfold shw
  rw [dec_bdg, dec_bdg, dec_bdg, dec_bdg]
  rfl
theorem nod4 (a b c d : Nat) : ∀ p ∈ [bdg 10 a, bdg 10 b, bdg 10 c, bdg 10 d], nod p := by
  intro p hp
  simp only [List.mem_cons, List.not_mem_nil, or_false] at hp
  rcases hp with rfl | rfl | rfl | rfl <;> exact nod_bdg 10 (by decide) (by decide) _
theorem par4 (a b c d : Nat) (ha : a ≤ 255) (hb : b ≤ 255) (hc : c ≤ 255) (hd : d ≤ 255) : parO [bdg 10 a, bdg 10 b, bdg 10 c, bdg 10 d] = some (a * 16777216 + b * 65536 + c * 256 + d) := by
  unfold parO
  rw [if_neg (by simp)]
  show (numO (bdg 10 d) (mostL 4)).bind (fun x => accO x 0 [bdg 10 a, bdg 10 b, bdg 10 c]) = _
  rw [show mostL 4 = 255 from rfl, ten_read d 255 hd]
  simp only [Option.bind_some, accO, ten_read a 255 ha, ten_read b 255 hb, ten_read c 255 hc]
  congr 1
  omega
theorem end_ten (n : Nat) : endB (bdg 10 n) = true := by
  unfold endB
  rw [mrk_not fun x hx => ⟨(bdg_mem 10 (by decide) (by decide) n x hx).2.2.1, (bdg_mem 10 (by decide) (by decide) n x hx).2.2.2⟩, bdg_ok 10 (by decide) (by decide)]
  simp [bdg_ne]
/-- What is shown is parsed. -/
theorem show_back (a : Nat) (h : a < 4294967296) : prs (shw a) = some a ∧ prs (shw a ++ [46]) = some a ∧ ends (shw a) = true ∧ ends (shw a ++ [46]) = true := by
  rw [shw_jn]
  obtain ⟨h1, h2⟩ := prs_jn _ (by simp) (nod4 (a / 16777216) (a / 65536 % 256) (a / 256 % 256) (a % 256))
  obtain ⟨h3, h4⟩ := ends_jn _ (by simp) (nod4 (a / 16777216) (a / 65536 % 256) (a / 256 % 256) (a % 256))
  rw [h1, h2, h3, h4, par4 _ _ _ _ (by omega) (by omega) (by omega) (by omega)]
  refine ⟨?_, ?_, end_ten _, end_ten _⟩ <;> congr 1 <;> omega
end Go.Proofs.YtfaobhaogenijaaDoor
