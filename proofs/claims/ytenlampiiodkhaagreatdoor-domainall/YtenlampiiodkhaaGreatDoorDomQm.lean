/-
  Plain facts of names of hosts side by side. Nothing is proved of the program here.
-/
import Derived.Test.YtenlampiiodkhaaGreatDoorDomPm
namespace Go.Proofs.YtenlampiiodkhaaGreatDoor
set_option linter.unusedVariables false
open Go.RowKit

theorem rows_app2 : ∀ (a b : List Int), rows (a ++ 46 :: b) = rows a ++ rows b
  | [], b => by
    show rows (46 :: b) = [] :: rows b
    rw [rows, if_pos rfl]
  | x :: a, b => by
    rw [List.cons_append, rows, rows, rows_app2 a b]
    split
    · rfl
    · cases h : rows a with
      | nil => exact absurd h (rows_ne a)
      | cons y t => rfl
theorem joinD_app : ∀ (a b : List (List UInt8)), a ≠ [] → b ≠ [] → joinD (a ++ b) = joinD a ++ 46 :: joinD b
  | [], b, h, _ => absurd rfl h
  | [s], b, _, hb => by
    cases b with
    | nil => exact absurd rfl hb
    | cons y t => rfl
  | s :: s' :: t, b, _, hb => by
    have ih := joinD_app (s' :: t) b (by simp) hb
    rw [List.cons_append] at ih
    rw [List.cons_append, List.cons_append]
    show s ++ 46 :: joinD (s' :: (t ++ b)) = s ++ 46 :: joinD (s' :: t) ++ 46 :: joinD b
    rw [ih, List.append_assoc, List.cons_append]

theorem vldF_of : ∀ (f : Nat) (bs : List UInt8), ¬ (65533 : Int) ∈ decF f bs → vldF f bs = true
  | 0, bs, _ => rfl
  | f + 1, bs, h => by
    rw [decF] at h
    rw [vldF]
    split
    · rfl
    · rename_i hb
      rw [if_neg hb] at h
      cases ha : at1 bs with
      | none =>
        rw [ha] at h
        exact absurd (List.mem_cons_self ..) h
      | some p =>
        obtain ⟨r, n⟩ := p
        rw [ha] at h
        simp only at h ⊢
        exact vldF_of f _ fun hm => h (List.mem_cons_of_mem _ hm)
theorem txt_keeps : ∀ (l : List Int) (r : Int), r ∈ l → mpk r = true → mpo r ∈ txt l
  | [], r, h, _ => by cases h
  | x :: l, r, h, hk => by
    rw [txt]
    rcases List.mem_cons.1 h with rfl | h
    · rw [if_pos hk]
      exact List.mem_cons_self ..
    · split
      · exact List.mem_cons_of_mem _ (txt_keeps l r h hk)
      · exact txt_keeps l r h hk
theorem fffd_keeps : mpk 65533 = true ∧ mpo 65533 = 65533 := by decide +kernel
theorem dot_keeps : mpk 46 = true ∧ mpo 46 = 46 := by decide +kernel
theorem dec_dot (a b : List UInt8) (h : ¬ (65533 : Int) ∈ txt (dec a)) : txt (dec (a ++ 46 :: b)) = txt (dec a) ++ 46 :: txt (dec b) := by
  have hv : vld a = true := vldF_of _ _ fun hm => h (by have := txt_keeps (dec a) 65533 hm fffd_keeps.1; rwa [fffd_keeps.2] at this)
  have e := dec_one 46 b
  have e1 : one 46 = [46] := (one_ascii 46).1
  have e2 : fix 46 = 46 := (one_ascii 46).2
  rw [e1, e2, List.singleton_append] at e
  rw [dec_append a _ hv, e, txt_app, txt, if_pos dot_keeps.1, dot_keeps.2]

/-- All labels are there, and none is empty. -/
def full (ls : List (List UInt8)) : Prop := ∀ s ∈ ls, s ≠ []
theorem labs_weak : ∀ (rs : List (List Int)) (ls : List (List UInt8)), labs true rs = some ls → labs false rs = some ls
  | [], ls, h => h
  | r :: rs, ls, h => by
    rw [labs] at h ⊢
    cases hl : labOf r with
    | none => rw [hl] at h; cases h
    | some s =>
      rw [hl] at h
      simp only at h ⊢
      split at h
      · rename_i hc
        have hs : s ≠ [] := by
          rcases hc.2 with h3 | h3
          · exact h3
          · exact absurd h3.2 (by simp)
        rw [if_pos ⟨hc.1, .inl hs⟩]
        exact h
      · cases h
theorem labs_app : ∀ (r1 r2 : List (List Int)) (first : Bool) (l1 l2 : List (List UInt8)), labs first r1 = some l1 → full l1 → r1 ≠ [] → labs false r2 = some l2 → labs first (r1 ++ r2) = some (l1 ++ l2)
  | [], r2, first, l1, l2, _, _, hn, _ => absurd rfl hn
  | r :: r1, r2, first, l1, l2, h, hf, _, h2 => by
    rw [labs] at h
    rw [List.cons_append, labs]
    cases hl : labOf r with
    | none => rw [hl] at h; cases h
    | some s =>
      rw [hl] at h
      simp only at h ⊢
      split at h
      · rename_i hc
        cases ht : labs false r1 with
        | none => rw [ht] at h; cases h
        | some l1' =>
          rw [ht] at h
          simp only [Option.map_some, Option.some.injEq] at h
          subst h
          rw [if_pos ⟨hc.1, .inl (hf s (List.mem_cons_self ..))⟩]
          cases r1 with
          | nil =>
            simp [labs] at ht
            subst ht
            rw [List.nil_append, h2]
            rfl
          | cons x r1 =>
            rw [labs_app (x :: r1) r2 false l1' l2 ht (fun y hy => hf y (List.mem_cons_of_mem _ hy)) (by simp) h2]
            rfl
      · cases h
theorem labs_full : ∀ (rs : List (List Int)) (first : Bool) (ls : List (List UInt8)), labs first rs = some ls → (joinD ls).getLast? ≠ some 46 → joinD ls ≠ [] → full ls
  | [], first, ls, h, _, hn => by
    simp [labs] at h
    subst h
    exact absurd rfl hn
  | r :: rs, first, ls, h, hg, hn => by
    rw [labs] at h
    cases hl : labOf r with
    | none => rw [hl] at h; cases h
    | some s =>
      rw [hl] at h
      simp only at h
      split at h
      · rename_i hc
        cases ht : labs false rs with
        | none => rw [ht] at h; cases h
        | some ls' =>
          rw [ht] at h
          simp only [Option.map_some, Option.some.injEq] at h
          subst h
          cases ls' with
          | nil =>
            intro x hx
            rw [List.mem_singleton] at hx
            subst hx
            exact hn
          | cons y t =>
            have hrs : rs ≠ [] := fun e => by
              rw [e] at ht
              simp [labs] at ht
            rw [show joinD (s :: y :: t) = s ++ 46 :: joinD (y :: t) from rfl] at hg
            have hne : joinD (y :: t) ≠ [] := fun e => by
              rw [e] at hg
              simp at hg
            have hg2 : (joinD (y :: t)).getLast? ≠ some 46 := fun e => by
              apply hg
              rw [List.getLast?_append, List.getLast?_cons, e]
              rfl
            intro x hx
            rcases List.mem_cons.1 hx with rfl | hx
            · rcases hc.2 with h3 | h3
              · exact h3
              · exact absurd h3.1 hrs
            · exact labs_full rs false (y :: t) ht hg2 hne x hx
      · cases h

theorem labs_each : ∀ (rs : List (List Int)) (first : Bool) (ls : List (List UInt8)), (∀ row ∈ rs, ∀ r ∈ row, 0 ≤ r ∧ mpk r = true ∧ mpo r = r ∧ r ≠ 46) → labs first rs = some ls → ∀ s ∈ ls, s.length ≤ 63 ∧ labOf (asI s) = some s
  | [], first, ls, _, h, s, hs => by
    simp [labs] at h
    subst h
    cases hs
  | r :: rs, first, ls, hr, h, s, hs => by
    rw [labs] at h
    cases hl : labOf r with
    | none => rw [hl] at h; cases h
    | some x =>
      rw [hl] at h
      simp only at h
      split at h
      · rename_i hc
        cases ht : labs false rs with
        | none => rw [ht] at h; cases h
        | some ls' =>
          rw [ht] at h
          simp only [Option.map_some, Option.some.injEq] at h
          subst h
          rcases List.mem_cons.1 hs with rfl | hs
          · exact ⟨hc.1, (lab_stays (hr r (List.mem_cons_self ..)) hl hc.1).1⟩
          · exact labs_each rs false ls' (fun y hy => hr y (List.mem_cons_of_mem _ hy)) ht s hs
      · cases h

structure Name (a x : List UInt8) (ls : List (List UInt8)) : Prop where
  len : a.length ≤ 400
  no : ¬ (65533 : Int) ∈ txt (dec a)
  lab : labs true (rows (txt (dec a))) = some ls
  out : x = joinD ls
  ok : outOk x = true
  ne : ls ≠ []
  each : ∀ s ∈ ls, s.length ≤ 63 ∧ labOf (asI s) = some s ∧ ∀ b ∈ s, nameB b
theorem nam_inv {a x : List UInt8} (h : nam a = some x) : ∃ ls, Name a x ls := by
  unfold nam at h
  split at h
  · rename_i hc
    cases hl : labs true (rows (txt (dec a))) with
    | none => rw [hl] at h; cases h
    | some ls =>
      rw [hl] at h
      simp only [Option.bind_some] at h
      split at h
      · rename_i ho
        simp only [Option.some.injEq] at h
        have hfix : ∀ row ∈ rows (txt (dec a)), ∀ r ∈ row, 0 ≤ r ∧ mpk r = true ∧ mpo r = r ∧ r ≠ 46 := fun row hrow r hr => by
          obtain ⟨m1, m2⟩ := rows_mem _ row hrow r hr
          obtain ⟨f1, f2⟩ := txt_fixed m1
          exact ⟨txt_nonneg _ (decF_nonneg _ _) r m1, f1, f2, m2⟩
        obtain ⟨i1, i2, i3⟩ := labs_stays _ true ls hfix hl
        refine ⟨ls, hc.1, hc.2, hl, h.symm, by rw [← h]; exact ho, fun e => ?_, fun s hs => ⟨(labs_each _ true ls hfix hl s hs).1, (labs_each _ true ls hfix hl s hs).2, i2 s hs⟩⟩
        rw [e] at i3
        exact rows_ne _ (List.eq_nil_of_length_eq_zero i3.symm)
      · cases h
  · cases h

/-- Names side by side, with a full stop between. -/
theorem nam_parts {a b x y : List UInt8} (ha : nam a = some x) (hb : nam b = some y) (hx : x ≠ []) (hd : x.getLast? ≠ some 46) (hl : a.length + b.length < 400) (hs : x.length + y.length ≤ 250) : nam (a ++ 46 :: b) = some (x ++ 46 :: y) := by
  obtain ⟨l1, A⟩ := nam_inv ha
  obtain ⟨l2, B⟩ := nam_inv hb
  have hf : full l1 := labs_full _ true l1 A.lab (by rw [← A.out]; exact hd) (by rw [← A.out]; exact hx)
  have ht := dec_dot a b A.no
  have hlab := labs_app _ _ true l1 l2 A.lab hf (rows_ne _) (labs_weak _ _ B.lab)
  have hno : ¬ (65533 : Int) ∈ txt (dec (a ++ 46 :: b)) := fun hm => by
    rw [ht] at hm
    rcases List.mem_append.1 hm with hm | hm
    · exact A.no hm
    · rcases List.mem_cons.1 hm with hm | hm
      · omega
      · exact B.no hm
  have ho : outOk (joinD (l1 ++ l2)) = true := by
    rw [joinD_app l1 l2 A.ne B.ne, ← A.out, ← B.out]
    have o1 := A.ok
    have o2 := B.ok
    unfold outOk at o1 o2 ⊢
    simp only [Bool.and_eq_true, decide_eq_true_eq] at o1 o2 ⊢
    refine ⟨?_, ?_⟩
    · rw [List.all_append, List.all_cons, o1.1, o2.1]
      decide
    · rw [List.length_append, List.length_cons]
      split <;> omega
  unfold nam
  rw [if_pos ⟨by rw [List.length_append, List.length_cons]; omega, hno⟩, ht, rows_app2, hlab]
  show (if outOk (joinD (l1 ++ l2)) = true then some (joinD (l1 ++ l2)) else none) = _
  rw [if_pos ho, joinD_app l1 l2 A.ne B.ne, ← A.out, ← B.out]

/-- A text cut at full stops. -/
def cutB (s : List UInt8) : List (List UInt8) := (rows (asI s)).map lowB
theorem lowB_map (ls : List (List UInt8)) : (ls.map asI).map lowB = ls := by
  rw [List.map_map]
  conv => rhs; rw [← List.map_id ls]
  exact List.map_congr_left fun s _ => lowB_asI s
theorem cutB_join {ls : List (List UInt8)} (h : ls ≠ []) (hn : ∀ s ∈ ls, ∀ b ∈ s, b ≠ 46) : cutB (joinD ls) = ls := by
  unfold cutB
  rw [rows_join ls h hn, lowB_map]
theorem cutB_app (x y : List UInt8) : cutB (x ++ 46 :: y) = cutB x ++ cutB y := by
  unfold cutB
  rw [← List.map_append, ← rows_app2]
  congr 2
  unfold asI
  rw [List.map_append, List.map_cons]
  rfl
/-- A name's labels, joined, are it; and each by itself is a name. -/
theorem nam_labels {a x : List UInt8} (h : nam a = some x) : joinD (cutB x) = x ∧ (x ≠ [] → x.getLast? ≠ some 46 → ∀ t ∈ cutB x, nam t = some t) := by
  obtain ⟨ls, A⟩ := nam_inv h
  have hc : cutB x = ls := by
    rw [A.out]
    exact cutB_join A.ne fun s hs b hb => ((A.each s hs).2.2 b hb).2.2
  rw [hc]
  refine ⟨A.out.symm, fun hx hd t ht => ?_⟩
  have hf : full ls := labs_full _ true ls A.lab (by rw [← A.out]; exact hd) (by rw [← A.out]; exact hx)
  obtain ⟨t1, t2, t3⟩ := A.each t ht
  have hdt : dec t = asI t := dec_ascii _ fun b hb => (t3 b hb).1
  have htt : txt (asI t) = asI t := txt_of_fixed fun r hr => by
    obtain ⟨b, hb, rfl⟩ := List.mem_map.1 hr
    exact small_fixed ⟨b.toNat, by have := (t3 b hb).1; omega⟩ (t3 b hb).2.1
  have hrt : rows (asI t) = [asI t] := rows_one _ fun r hr => by
    obtain ⟨b, hb, rfl⟩ := List.mem_map.1 hr
    intro e
    exact (t3 b hb).2.2 (UInt8.toNat_inj.1 (by show b.toNat = 46; omega))
  have hno : ¬ (65533 : Int) ∈ asI t := fun hm => by
    obtain ⟨b, hb, e⟩ := List.mem_map.1 hm
    have := (t3 b hb).1
    omega
  have hsub : ∀ b ∈ t, b ∈ x := by
    intro b hb
    rw [A.out]
    have key : ∀ (ls : List (List UInt8)), t ∈ ls → b ∈ joinD ls := by
      intro ls
      induction ls with
      | nil => intro h; cases h
      | cons s r ih =>
        intro h
        cases r with
        | nil =>
          rw [List.mem_singleton] at h
          rw [← h]
          exact hb
        | cons s' r =>
          show b ∈ s ++ 46 :: joinD (s' :: r)
          rcases List.mem_cons.1 h with h | h
          · rw [← h]
            exact List.mem_append_left _ hb
          · exact List.mem_append_right _ (List.mem_cons_of_mem _ (ih h))
    exact key ls ht
  have ho : outOk t = true := by
    have o1 := A.ok
    unfold outOk at o1 ⊢
    simp only [Bool.and_eq_true, decide_eq_true_eq] at o1 ⊢
    refine ⟨List.all_eq_true.2 fun b hb => List.all_eq_true.1 o1.1 b (hsub b hb), ?_⟩
    omega
  unfold nam
  rw [hdt, htt, if_pos ⟨by omega, hno⟩, hrt]
  have hl : labs true [asI t] = some [t] := by
    rw [labs, t2]
    simp only
    rw [if_pos ⟨t1, .inl (hf t ht)⟩]
    rfl
  rw [hl]
  show (if outOk t = true then some t else none) = _
  rw [if_pos ho]
end Go.Proofs.YtenlampiiodkhaaGreatDoor
