/-
  Plain facts of names of hosts: labels, and that a name is its own name. Nothing is proved of the program here.
-/
import Derived.Test.YtenlampiiodkhaaGreatDoorUtfP
import Derived.Test.YtenlampiiodkhaaGreatDoorFoldP
import Derived.Test.YtenlampiiodkhaaGreatDoorPunyWm
namespace Go.Proofs.YtenlampiiodkhaaGreatDoor
set_option linter.unusedVariables false
open Go.RowKit

/-- What stands between full stops. -/
def rows : List Int → List (List Int)
  | [] => [[]]
  | r :: l => if r = 46 then [] :: rows l else match rows l with | [] => [[r]] | h :: t => (r :: h) :: t
def joinD : List (List UInt8) → List UInt8
  | [] => []
  | [s] => s
  | s :: t => s ++ 46 :: joinD t
def lowB (l : List Int) : List UInt8 := l.map fun r => UInt8.ofNat r.toNat
def asI (s : List UInt8) : List Int := s.map fun b => (b.toNat : Int)
def xn : List UInt8 := [120, 110, 45, 45]

/-- May letters behind xn-- be? -/
def known (t : List UInt8) : Bool := match pdec t with | none => false | some ns => ns.any (fun x => decide (127 < x)) && (penc ns == some t) && (txt (ints ns) == ints ns)
/-- A label; none: ErrHost. -/
def labOf (l : List Int) : Option (List UInt8) :=
  if l.all (fun r => decide (r ≤ 127)) = true then (if (lowB l).take 4 = xn ∧ known ((lowB l).drop 4) = false then none else some (lowB l)) else (penI l).map (xn ++ ·)
def labs : Bool → List (List Int) → Option (List (List UInt8))
  | _, [] => some []
  | first, r :: t => match labOf r with
    | none => none
    | some s => if s.length ≤ 63 ∧ (s ≠ [] ∨ (t = [] ∧ first = false)) then (labs false t).map (s :: ·) else none
def badB (b : UInt8) : Bool := decide (b.toNat ≤ 32) || decide (b.toNat = 127) || [35, 47, 58, 60, 62, 63, 64, 91, 92, 93, 94, 124, 37].contains b
def outOk (s : List UInt8) : Bool := s.all (fun b => !badB b) && decide (s.length - (if s.getLast? = some 46 then 1 else 0) ≤ 253)
/-- The document's ASCII; none: ErrHost. -/
def nam (b : List UInt8) : Option (List UInt8) :=
  if b.length ≤ 400 ∧ ¬ (65533 : Int) ∈ txt (dec b) then (labs true (rows (txt (dec b)))).bind fun ls => if outOk (joinD ls) = true then some (joinD ls) else none else none

theorem rows_ne (l : List Int) : rows l ≠ [] := by
  cases l with
  | nil => simp [rows]
  | cons r l =>
    rw [rows]
    split
    · simp
    · split <;> simp
theorem rows_mem : ∀ (l : List Int) (row : List Int), row ∈ rows l → ∀ r ∈ row, r ∈ l ∧ r ≠ 46
  | [], row, h, r, hr => by
    simp [rows] at h
    subst h
    cases hr
  | x :: l, row, h, r, hr => by
    rw [rows] at h
    by_cases hx : x = 46
    · rw [if_pos hx] at h
      rcases List.mem_cons.1 h with rfl | h
      · cases hr
      · have := rows_mem l row h r hr
        exact ⟨List.mem_cons_of_mem _ this.1, this.2⟩
    · rw [if_neg hx] at h
      cases hl : rows l with
      | nil => exact absurd hl (rows_ne l)
      | cons y t =>
        rw [hl] at h
        simp only at h
        rcases List.mem_cons.1 h with rfl | h
        · rcases List.mem_cons.1 hr with rfl | hr
          · exact ⟨List.mem_cons_self .., hx⟩
          · have := rows_mem l y (by rw [hl]; exact List.mem_cons_self ..) r hr
            exact ⟨List.mem_cons_of_mem _ this.1, this.2⟩
        · have := rows_mem l row (by rw [hl]; exact List.mem_cons_of_mem _ h) r hr
          exact ⟨List.mem_cons_of_mem _ this.1, this.2⟩

theorem rows_app (a : List Int) (ha : ∀ r ∈ a, r ≠ 46) : ∀ l, rows (a ++ 46 :: l) = a :: rows l := by
  intro l
  induction a with
  | nil => rw [List.nil_append, rows, if_pos rfl]
  | cons x a ih =>
    rw [List.cons_append, rows, if_neg (ha x (List.mem_cons_self ..)), ih fun r hr => ha r (List.mem_cons_of_mem _ hr)]
theorem rows_one (a : List Int) (ha : ∀ r ∈ a, r ≠ 46) : rows a = [a] := by
  induction a with
  | nil => rfl
  | cons x a ih =>
    rw [rows, if_neg (ha x (List.mem_cons_self ..)), ih fun r hr => ha r (List.mem_cons_of_mem _ hr)]
theorem rows_join : ∀ (ls : List (List UInt8)), ls ≠ [] → (∀ s ∈ ls, ∀ b ∈ s, b ≠ 46) → rows (asI (joinD ls)) = ls.map asI
  | [], h, _ => absurd rfl h
  | [s], _, h => by
    refine rows_one _ fun r hr => ?_
    obtain ⟨b, hb, rfl⟩ := List.mem_map.1 hr
    intro e
    exact h s (List.mem_singleton.2 rfl) b hb (UInt8.toNat_inj.1 (by show b.toNat = 46; omega))
  | s :: s' :: t, _, h => by
    have e : asI (joinD (s :: s' :: t)) = asI s ++ 46 :: asI (joinD (s' :: t)) := by
      rw [show joinD (s :: s' :: t) = s ++ 46 :: joinD (s' :: t) from rfl]
      unfold asI
      rw [List.map_append, List.map_cons]
      rfl
    rw [e, rows_app _ (fun r hr => ?_), rows_join (s' :: t) (by simp) (fun x hx => h x (List.mem_cons_of_mem _ hx))]
    · rfl
    · obtain ⟨b, hb, rfl⟩ := List.mem_map.1 hr
      intro e
      exact h s (List.mem_cons_self ..) b hb (UInt8.toNat_inj.1 (by show b.toNat = 46; omega))

/-- What was mapped is mapped to itself, one by one. -/
theorem txt_fixed {a : List Int} {r : Int} (h : r ∈ txt a) : mpk r = true ∧ mpo r = r := by
  induction a with
  | nil => cases h
  | cons x a ih =>
    rw [txt] at h
    split at h
    · rename_i hx
      rcases List.mem_cons.1 h with rfl | h
      · exact mp_stays x hx
      · exact ih h
    · exact ih h
theorem txt_of_fixed {l : List Int} (h : ∀ r ∈ l, mpk r = true ∧ mpo r = r) : txt l = l := by
  induction l with
  | nil => rfl
  | cons x l ih =>
    obtain ⟨h1, h2⟩ := h x (List.mem_cons_self ..)
    rw [txt, if_pos h1, h2, ih fun r hr => h r (List.mem_cons_of_mem _ hr)]
theorem small_fixed : ∀ b : Fin 128, ¬ (65 ≤ b.val ∧ b.val ≤ 90) → mpk (b.val : Int) = true ∧ mpo (b.val : Int) = (b.val : Int) := by decide +kernel
theorem large_not : ∀ b : Fin 128, 65 ≤ b.val ∧ b.val ≤ 90 → mpo (b.val : Int) ≠ (b.val : Int) := by decide +kernel

/-- The bytes that a label may have: below 128, no large letter, no full stop. -/
def nameB (b : UInt8) : Prop := b.toNat ≤ 127 ∧ ¬ (65 ≤ b.toNat ∧ b.toNat ≤ 90) ∧ b ≠ 46
theorem asI_lowB {l : List Int} (h : ∀ r ∈ l, 0 ≤ r ∧ r ≤ 127) : asI (lowB l) = l := by
  induction l with
  | nil => rfl
  | cons x l ih =>
    have hx := h x (List.mem_cons_self ..)
    have e : (((UInt8.ofNat x.toNat).toNat : Nat) : Int) = x := by
      rw [UInt8.toNat_ofNat']
      omega
    show (((UInt8.ofNat x.toNat).toNat : Nat) : Int) :: asI (lowB l) = x :: l
    rw [e, ih fun r hr => h r (List.mem_cons_of_mem _ hr)]
theorem lowB_asI (s : List UInt8) : lowB (asI s) = s := by
  induction s with
  | nil => rfl
  | cons b s ih =>
    show UInt8.ofNat ((b.toNat : Int)).toNat :: lowB (asI s) = b :: s
    rw [ih, Int.toNat_natCast, UInt8.ofNat_toNat]
theorem fine_low {l : List Int} (h : ∀ r ∈ l, 0 ≤ r ∧ r ≤ 127 ∧ mpo r = r ∧ r ≠ 46) : ∀ b ∈ lowB l, nameB b := by
  intro b hb
  obtain ⟨r, hr, rfl⟩ := List.mem_map.1 hb
  obtain ⟨h1, h2, h3, h4⟩ := h r hr
  have e : (UInt8.ofNat r.toNat).toNat = r.toNat := by rw [UInt8.toNat_ofNat']; omega
  refine ⟨by omega, fun hl => ?_, fun e2 => ?_⟩
  · have := large_not ⟨r.toNat, by omega⟩ (by show 65 ≤ r.toNat ∧ r.toNat ≤ 90; omega)
    simp only at this
    rw [Int.toNat_of_nonneg h1] at this
    exact this h3
  · have : r.toNat = 46 := by rw [← e, e2]; rfl
    omega
theorem letter_fine : ∀ n : Fin 36, nameB (letter n.val) := by
  unfold nameB
  decide +kernel
theorem fine_penc {l : List Int} {t : List UInt8} (hp : penI l = some t) (h : ∀ r ∈ l, mpo r = r ∧ r ≠ 46) : ∀ b ∈ t, nameB b := by
  unfold penI at hp
  split at hp
  · rename_i h0
    unfold penc at hp
    split at hp
    · simp only [Option.some.injEq] at hp
      rw [← hp]
      intro b hb
      rcases List.mem_append.1 hb with hb | hb
      · rcases List.mem_append.1 hb with hb | hb
        · obtain ⟨x, hx, rfl⟩ := List.mem_map.1 hb
          obtain ⟨hx1, hx2⟩ := lt_mem hx
          obtain ⟨r, hr, rfl⟩ := List.mem_map.1 hx2
          have hr0 : 0 ≤ r := by simpa using List.all_eq_true.1 h0 r hr
          obtain ⟨h3, h4⟩ := h r hr
          refine fine_low (l := [r]) (fun q hq => ?_) _ (List.mem_singleton.2 rfl)
          rw [List.mem_singleton] at hq
          subst hq
          exact ⟨hr0, by omega, h3, h4⟩
        · split at hb
          · cases hb
          · rw [List.mem_singleton] at hb
            subst hb
            unfold nameB
            decide
      · obtain ⟨d, hd, rfl⟩ := List.mem_map.1 hb
        exact letter_fine ⟨d, digs_lt _ _ _ _ d hd⟩
    · cases hp
  · cases hp

/-- A label is its own label. -/
theorem lab_stays {l : List Int} {s : List UInt8} (hl : ∀ r ∈ l, 0 ≤ r ∧ mpk r = true ∧ mpo r = r ∧ r ≠ 46) (h : labOf l = some s) (h63 : s.length ≤ 63) : labOf (asI s) = some s ∧ ∀ b ∈ s, nameB b := by
  unfold labOf at h
  split at h
  · rename_i ha
    have hr : ∀ r ∈ l, 0 ≤ r ∧ r ≤ 127 := fun r hr => ⟨(hl r hr).1, by simpa using List.all_eq_true.1 ha r hr⟩
    split at h
    · cases h
    · rename_i hk
      simp only [Option.some.injEq] at h
      subst h
      refine ⟨?_, fine_low fun r hr' => ⟨(hr r hr').1, (hr r hr').2, (hl r hr').2.2⟩⟩
      rw [asI_lowB hr]
      unfold labOf
      rw [if_pos ha, if_neg hk]
  · rename_i ha
    cases hp : penI l with
    | none => rw [hp] at h; cases h
    | some t =>
      rw [hp] at h
      simp only [Option.map_some, Option.some.injEq] at h
      subst h
      have ht := fine_penc hp fun r hr => (hl r hr).2.2
      have hx : ∀ b ∈ xn, nameB b := by unfold xn nameB; decide
      have hall : ∀ b ∈ xn ++ t, nameB b := fun b hb => (List.mem_append.1 hb).elim (hx b) (ht b)
      refine ⟨?_, hall⟩
      obtain ⟨b1, b2⟩ := back_of hp (by simp at h63; omega)
      unfold labOf
      rw [if_pos (List.all_eq_true.2 fun r hr => by
        obtain ⟨b, hb, rfl⟩ := List.mem_map.1 hr
        have := (hall b hb).1
        simp
        omega), lowB_asI, if_neg]
      rintro ⟨_, hk⟩
      have e4 : (xn ++ t).drop 4 = t := rfl
      rw [e4] at hk
      unfold known at hk
      rw [b1] at hk
      simp only at hk
      have k1 : (l.map Int.toNat).any (fun x => decide (127 < x)) = true := by
        refine Classical.byContradiction fun hc => ha (List.all_eq_true.2 fun r hr => ?_)
        have : ¬ 127 < r.toNat := fun h2 => hc (List.any_eq_true.2 ⟨r.toNat, List.mem_map.2 ⟨r, hr, rfl⟩, by simpa using h2⟩)
        simp
        omega
      have k2 : penc (l.map Int.toNat) = some t := by rw [← hp, ← b2, penI_ints, b2]
      have k3 : txt (ints (l.map Int.toNat)) = ints (l.map Int.toNat) := by
        rw [b2]
        exact txt_of_fixed fun r hr => (hl r hr).2.1 |> fun h1 => ⟨h1, (hl r hr).2.2.1⟩
      rw [k1, k2, k3] at hk
      simp at hk

theorem labs_stays : ∀ (rs : List (List Int)) (first : Bool) (ls : List (List UInt8)), (∀ row ∈ rs, ∀ r ∈ row, 0 ≤ r ∧ mpk r = true ∧ mpo r = r ∧ r ≠ 46) → labs first rs = some ls →
    labs first (ls.map asI) = some ls ∧ (∀ s ∈ ls, ∀ b ∈ s, nameB b) ∧ ls.length = rs.length
  | [], first, ls, _, h => by
    simp [labs] at h
    subst h
    exact ⟨rfl, fun s hs => (by cases hs), rfl⟩
  | row :: rs, first, ls, hr, h => by
    rw [labs] at h
    cases hl : labOf row with
    | none => rw [hl] at h; cases h
    | some s =>
      rw [hl] at h
      simp only at h
      split at h
      · rename_i hc
        cases ht : labs false rs with
        | none => rw [ht] at h; cases h
        | some ls' =>
          rw [ht] at h
          simp only [Option.map_some, Option.some.injEq] at h
          subst h
          obtain ⟨i1, i2, i3⟩ := labs_stays rs false ls' (fun x hx => hr x (List.mem_cons_of_mem _ hx)) ht
          obtain ⟨j1, j2⟩ := lab_stays (hr row (List.mem_cons_self ..)) hl hc.1
          refine ⟨?_, fun x hx => (List.mem_cons.1 hx).elim (fun e => by rw [e]; exact j2) (i2 x), by simp [i3]⟩
          rw [List.map_cons, labs, j1]
          simp only
          have hnil : rs = [] → ls'.map asI = [] := fun e => by
            have : ls'.length = 0 := by rw [i3, e]; rfl
            rw [List.eq_nil_of_length_eq_zero this]
            rfl
          rw [i1, if_pos ⟨hc.1, hc.2.imp id fun h2 => ⟨hnil h2.1, h2.2⟩⟩]
          rfl
      · cases h

theorem joinD_mem : ∀ (ls : List (List UInt8)) (b : UInt8), b ∈ joinD ls → b = 46 ∨ ∃ s ∈ ls, b ∈ s
  | [], b, h => by cases h
  | [s], b, h => .inr ⟨s, List.mem_singleton.2 rfl, h⟩
  | s :: s' :: t, b, h => by
    rw [show joinD (s :: s' :: t) = s ++ 46 :: joinD (s' :: t) from rfl] at h
    rcases List.mem_append.1 h with h | h
    · exact .inr ⟨s, List.mem_cons_self .., h⟩
    · rcases List.mem_cons.1 h with h | h
      · exact .inl h
      · rcases joinD_mem (s' :: t) b h with h | ⟨x, hx, hb⟩
        · exact .inl h
        · exact .inr ⟨x, List.mem_cons_of_mem _ hx, hb⟩

theorem one_ascii : ∀ b : Fin 128, one (b.val : Int) = [UInt8.ofNat b.val] ∧ fix (b.val : Int) = (b.val : Int) := by decide +kernel
theorem dec_ascii : ∀ (s : List UInt8), (∀ b ∈ s, b.toNat ≤ 127) → dec s = asI s
  | [], _ => rfl
  | b :: s, h => by
    have hb := h b (List.mem_cons_self ..)
    obtain ⟨e1, e2⟩ := one_ascii ⟨b.toNat, by omega⟩
    simp only at e1 e2
    have := dec_one (b.toNat : Int) s
    rw [e1, e2, UInt8.ofNat_toNat, List.singleton_append, dec_ascii s fun x hx => h x (List.mem_cons_of_mem _ hx)] at this
    exact this
theorem decF_nonneg : ∀ (f : Nat) (bs : List UInt8), ∀ r ∈ decF f bs, 0 ≤ r
  | 0, bs, r, h => by cases h
  | f + 1, bs, r, h => by
    rw [decF] at h
    split at h
    · cases h
    · split at h
      · rcases List.mem_cons.1 h with rfl | h
        · exact Int.natCast_nonneg _
        · exact decF_nonneg f _ r h
      · rcases List.mem_cons.1 h with rfl | h
        · omega
        · exact decF_nonneg f _ r h
theorem mpo_nonneg {r : Int} (h : 0 ≤ r) (hk : mpk r = true) : 0 ≤ mpo r := by
  have hl : lost r = false := by unfold mpk at hk; simpa using hk
  rw [mpo_of hl]
  rcases wide_cases r with ⟨hw, ew⟩ | ⟨hw, ew⟩ <;> rw [ew] <;>
    rcases small_cases (wide r) with ⟨hs, es⟩ | ⟨hs, es⟩ | ⟨hs, es⟩ | ⟨hs, es⟩ | ⟨hs, es⟩ <;> rw [ew] at hs es <;> rw [es] <;> omega
theorem txt_nonneg : ∀ (l : List Int), (∀ r ∈ l, 0 ≤ r) → ∀ r ∈ txt l, 0 ≤ r
  | [], _, r, h => by cases h
  | x :: l, hl, r, h => by
    rw [txt] at h
    split at h
    · rename_i hk
      rcases List.mem_cons.1 h with rfl | h
      · exact mpo_nonneg (hl x (List.mem_cons_self ..)) hk
      · exact txt_nonneg l (fun y hy => hl y (List.mem_cons_of_mem _ hy)) r h
    · exact txt_nonneg l (fun y hy => hl y (List.mem_cons_of_mem _ hy)) r h

/-- A name is its own name; and its bytes. -/
theorem nam_stays {b s : List UInt8} (h : nam b = some s) : nam s = some s ∧ (∀ x ∈ s, 33 ≤ x.toNat ∧ x.toNat ≤ 126 ∧ ¬ (65 ≤ x.toNat ∧ x.toNat ≤ 90)) ∧ s.length ≤ 254 := by
  unfold nam at h
  split at h
  · cases hl : labs true (rows (txt (dec b))) with
    | none => rw [hl] at h; cases h
    | some ls =>
      rw [hl] at h
      simp only [Option.bind_some] at h
      split at h
      · rename_i ho
        simp only [Option.some.injEq] at h
        subst h
        have hfix : ∀ row ∈ rows (txt (dec b)), ∀ r ∈ row, 0 ≤ r ∧ mpk r = true ∧ mpo r = r ∧ r ≠ 46 := fun row hrow r hr => by
          obtain ⟨m1, m2⟩ := rows_mem _ row hrow r hr
          obtain ⟨f1, f2⟩ := txt_fixed m1
          exact ⟨txt_nonneg _ (decF_nonneg _ _) r m1, f1, f2, m2⟩
        obtain ⟨i1, i2, i3⟩ := labs_stays _ true ls hfix hl
        have hne : ls ≠ [] := fun e => by
          rw [e] at i3
          exact rows_ne _ (List.eq_nil_of_length_eq_zero i3.symm)
        have hby : ∀ x ∈ joinD ls, x.toNat ≤ 127 ∧ ¬ (65 ≤ x.toNat ∧ x.toNat ≤ 90) := fun x hx => by
          rcases joinD_mem ls x hx with rfl | ⟨t, ht, hx⟩
          · decide
          · exact ⟨(i2 t ht x hx).1, (i2 t ht x hx).2.1⟩
        have hd : dec (joinD ls) = asI (joinD ls) := dec_ascii _ fun x hx => (hby x hx).1
        have ht : txt (asI (joinD ls)) = asI (joinD ls) := txt_of_fixed fun r hr => by
          obtain ⟨x, hx, rfl⟩ := List.mem_map.1 hr
          exact small_fixed ⟨x.toNat, by have := (hby x hx).1; omega⟩ (hby x hx).2
        have hr := rows_join ls hne fun t ht x hx => (i2 t ht x hx).2.2
        have ho2 := ho
        unfold outOk at ho2
        simp only [Bool.and_eq_true, decide_eq_true_eq] at ho2
        obtain ⟨o1, o2⟩ := ho2
        have hlen : (joinD ls).length ≤ 254 := by
          split at o2 <;> omega
        refine ⟨?_, fun x hx => ?_, hlen⟩
        · have hno : ¬ (65533 : Int) ∈ asI (joinD ls) := fun hm => by
            obtain ⟨x, hx, e⟩ := List.mem_map.1 hm
            have := (hby x hx).1
            omega
          unfold nam
          rw [hd, ht, if_pos ⟨by omega, hno⟩, hr, i1]
          show (if outOk (joinD ls) = true then some (joinD ls) else none) = _
          rw [if_pos ho]
        · have := List.all_eq_true.1 o1 x hx
          unfold badB at this
          simp at this
          have h2 := hby x hx
          exact ⟨by omega, by omega, h2.2⟩
      · cases h
  · cases h
end Go.Proofs.YtenlampiiodkhaaGreatDoor
