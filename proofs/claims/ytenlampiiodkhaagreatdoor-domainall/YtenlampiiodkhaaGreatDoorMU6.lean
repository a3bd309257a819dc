/-
  U6, U7, U8, RuneP, Op3 in one text.
-/
import Derived.Test.YtenlampiiodkhaaGreatDoorMUt
import Derived.Deep.RegionLaw
import Derived.Laws.IdiomStrings
namespace Go.Proofs.YtenlampiiodkhaaGreatDoor
set_option linter.unusedVariables false
open Go.RowKit

/-- append to a row of the call's own, as one step of a statement whose order is left open. -/
theorem step_app {ops : Array Oper} {o : Oper} {a : Act} {w : World} {K : Act → World → Prop} {Q : Exit → Act → World → Prop} {E : Prop} (hgd : o.guard = none) (s x : Operand) (t e : TypeId) (z : Value) (bytes : Nat)
    (hT : Tryz.prog.underlying t = some (.slice e)) (hI : (Tryz.prog.info? e).map (fun i => (i.zero, i.size, i.bytes)) = some (some z, 1, bytes)) (hzs : z.cells.size = 1)
    (ho : o.op = .call { callee := .builtin .append, args := #[s, x], argTypes := #[t, t] })
    (base : Nat) (v : Value) (n : Nat) (xs : List Value) (hs : a.eval s = v) (hown : w.ownsRow base e 1 v n xs)
    (ad : Addr) (m c : Nat) (ys : List Value) (hx : a.eval x = .slice (some ad) m c) (hl : ys.length = m) (hr : RdV w (some ad) c ys) (hone : ∀ u ∈ ys, u.oneCell' = true) (hb : (n + m) * (bytes + 1) ≤ 140737488355328) (hbase : base ≤ w.heap.size)
    (h : ∀ v' w', w'.ownsRow base e 1 v' (n + m) (xs ++ ys) → Below base w w' → K (a.put o.dst v') w') : if Region.wanted o (yielded ops a.tmps) = true then Oper.wp Tryz.prog o a w K Q else E := by
  have hw : Region.wanted o (yielded ops a.tmps) = true := by simp [Region.wanted, hgd]
  rw [if_pos hw]
  obtain ⟨i0, hi, hz0, hz1, hz2⟩ := info_parts hI
  have hb1 : (n + m) * bytes ≤ 140737488355328 := Nat.le_trans (Nat.mul_le_mul_left _ (by omega)) hb
  have hb2 : n + m ≤ 140737488355328 := Nat.le_trans (by rw [Nat.mul_add, Nat.mul_one]; omega) hb
  refine wp_append_own w s x t ho base e i0 z 1 bytes hT hi hz0 hz1 hz2 hzs (by decide) v n xs hs hown ad m c ys hx (by omega) (hr.news ad rfl) hone (by unfold maxLen; omega) hb1 hbase ?_
  intro v' w' h1 h2 _
  exact h v' w' h1 ((Below.refl _ _).grown h2 hbase (fun t ht => (hown.lt t ht).1))

/-- A call that answers one value and turns nothing, as one step of such a statement. -/
theorem step_call {ops : Array Oper} {o : Oper} {a : Act} {w : World} {K : Act → World → Prop} {Q : Exit → Act → World → Prop} {E : Prop} (hgd : o.guard = none) (f : FuncId) (xs : Array Operand) (ats : Array TypeId)
    (hE : ∀ args w, (callFunc f args).run Tryz.prog w = .ok (.enter f args) w) (ho : o.op = .call { callee := .value (.func f), args := xs, argTypes := ats }) (args : Array Value) (hargs : xs.map a.eval = args) (v : Value)
    (hc : Calls Tryz.prog f args w fun e w' => e = .returned v ∧ w' = w) (h : K (a.put o.dst v) w) : if Region.wanted o (yielded ops a.tmps) = true then Oper.wp Tryz.prog o a w K Q else E := by
  have hw : Region.wanted o (yielded ops a.tmps) = true := by simp [Region.wanted, hgd]
  rw [if_pos hw]
  subst hargs
  obtain ⟨dst, op, ty, pos, after, guard⟩ := o
  subst ho
  have hrun : (execOp a.eval { dst := dst, op := .call { callee := .value (.func f), args := xs, argTypes := ats }, type := ty, pos := pos, after := after, guard := guard }).run Tryz.prog w = .ok (.enter f (xs.map a.eval)) w := by
    rw [execOp_call_go]
    have e : #[] ++ xs.map a.eval ++ #[] = xs.map a.eval := by simp
    rw [e]
    exact hE _ w
  unfold Oper.wp
  rw [hrun, Oper.upon_enter]
  refine hc.mono ?_
  rintro e w' ⟨rfl, rfl⟩
  exact h

theorem enters22 (args : Array Value) (w : World) : (callFunc 93 args).run Tryz.prog w = .ok (.enter 93 args) w := run_enter 93 _ Tryz.func93 (by kernel_rfl) (by kernel_rfl) args w

theorem or192 : ∀ y : Fin 32, bits .or .u8 192 (y.val : Int) = 192 + (y.val : Int) := by decide +kernel
theorem or224b : ∀ y : Fin 16, bits .or .u8 224 (y.val : Int) = 224 + (y.val : Int) := by decide +kernel
theorem or240b : ∀ y : Fin 8, bits .or .u8 240 (y.val : Int) = 240 + (y.val : Int) := by decide +kernel
theorem or128b : ∀ y : Fin 64, bits .or .u8 128 (y.val : Int) = 128 + (y.val : Int) := by decide +kernel

end Go.Proofs.YtenlampiiodkhaaGreatDoor
namespace Go.Proofs.YtenlampiiodkhaaGreatDoor
set_option linter.unusedVariables false
open Go.RowKit

end Go.Proofs.YtenlampiiodkhaaGreatDoor
namespace Go.Proofs.YtenlampiiodkhaaGreatDoor
set_option linter.unusedVariables false
open Go.RowKit

theorem dec_begun : dec [195, 164, 97] = [228, 97] := by decide +kernel
theorem enc_begun : enc [228, 97] = [195, 164, 97] := by decide +kernel
theorem vld_97 : vld [97] = true := by decide +kernel
theorem vld_255 : vld [255] = false := by decide +kernel

end Go.Proofs.YtenlampiiodkhaaGreatDoor
namespace Go.Proofs.YtenlampiiodkhaaGreatDoor
set_option linter.unusedVariables false

def take1 (rest : List UInt8) : Nat × Nat := match at1 rest with | some p => p | none => (65533, 1)

theorem list_get (rest : List UInt8) (k : Nat) (h : k < rest.length) : ∃ x t, rest.drop k = x :: t ∧ rest.getD k 0 = x :=
  ⟨rest[k], rest.drop (k + 1), List.drop_eq_getElem_cons h, by simp [List.getD, h]⟩

/-- The model's decoding at the front, of bytes as numbers. -/
def front (len : Nat) (g : Nat → Nat) : Nat × Nat :=
  if g 0 < 128 then (g 0, 1)
  else if g 0 / 32 = 6 ∧ 1 < len ∧ g 1 / 64 = 2 then (if 128 ≤ g 0 % 32 * 64 + g 1 % 64 then (g 0 % 32 * 64 + g 1 % 64, 2) else (65533, 1))
  else if g 0 / 16 = 14 ∧ (1 < len ∧ g 1 / 64 = 2) ∧ (2 < len ∧ g 2 / 64 = 2) then
    (if 2048 ≤ g 0 % 16 * 4096 + g 1 % 64 * 64 + g 2 % 64 ∧ Utf8.valid ((g 0 % 16 * 4096 + g 1 % 64 * 64 + g 2 % 64 : Nat) : Int) = true then (g 0 % 16 * 4096 + g 1 % 64 * 64 + g 2 % 64, 3) else (65533, 1))
  else if g 0 / 8 = 30 ∧ (1 < len ∧ g 1 / 64 = 2) ∧ (2 < len ∧ g 2 / 64 = 2) ∧ (3 < len ∧ g 3 / 64 = 2) then
    (if 65536 ≤ g 0 % 8 * 262144 + g 1 % 64 * 4096 + g 2 % 64 * 64 + g 3 % 64 ∧ Utf8.valid ((g 0 % 8 * 262144 + g 1 % 64 * 4096 + g 2 % 64 * 64 + g 3 % 64 : Nat) : Int) = true then (g 0 % 8 * 262144 + g 1 % 64 * 4096 + g 2 % 64 * 64 + g 3 % 64, 4) else (65533, 1))
  else (65533, 1)

theorem decode_front (bs : List UInt8) (i : Nat) (hi : i < bs.length) : Utf8.decode ⟨bs.toArray⟩ i = front (bs.drop i).length (fun k => ((bs.drop i).getD k 0).toNat) := by
  have g : ∀ k, (ByteArray.get! ⟨bs.toArray⟩ (i + k)).toNat = ((bs.drop i).getD k 0).toNat := by
    intro k
    simp [ByteArray.get!, List.getD]
    cases h : bs[i + k]? with
    | none => simp; rfl
    | some x => simp
  have hs : ∀ k, (i + k < (⟨bs.toArray⟩ : ByteArray).size) = (k < (bs.drop i).length) := by
    intro k
    simp [ByteArray.size]
    omega
  unfold Utf8.decode front
  simp only [g, hs, Bool.and_eq_true, decide_eq_true_eq, beq_iff_eq, Utf8.runeError, ge_iff_le]
  simp only [and_assoc]

theorem valid_sh (r : Nat) : Utf8.valid (r : Int) = true ↔ ush (r : Int) ≠ 0 := by
  unfold ush Utf8.valid
  simp only [Bool.or_eq_true, Bool.and_eq_true, decide_eq_true_eq]
  constructor
  · intro h
    rw [if_neg (by omega)]
    repeat' split
    all_goals omega
  · intro h
    by_cases c : (r : Int) < 0 ∨ 1114111 < (r : Int) ∨ (55296 ≤ (r : Int) ∧ (r : Int) ≤ 57343)
    · rw [if_pos c] at h; exact absurd rfl h
    · omega

theorem front_take1 (rest : List UInt8) (h : 0 < rest.length) : front rest.length (fun k => (rest.getD k 0).toNat) = take1 rest := by
  unfold take1
  have lt : ∀ k, (rest.getD k 0).toNat < 256 := fun k => UInt8.toNat_lt _
  have l0 := lt 0
  have l1 := lt 1
  have l2 := lt 2
  have l3 := lt 3
  cases ha : at1 rest with
  | some p =>
    obtain ⟨r, n⟩ := p
    obtain ⟨f1, f2, f3, f4, f5, f6, f7⟩ := at1_form ha
    obtain ⟨_, hm, _, b1, b2, b3, b4, h4⟩ := sh_bound f3 (by have := (at1_len ha).2.2.1; omega)
    have hn := (at1_len ha).2.2.1
    have hv : Utf8.valid (r : Int) = true := (valid_sh r).2 (by omega)
    have c : n = 1 ∨ n = 2 ∨ n = 3 ∨ n = 4 := by omega
    unfold front
    dsimp only
    rcases c with rfl | rfl | rfl | rfl
    · simp only [cand] at f4
      have := b1 rfl
      rw [if_pos (by omega), f4]
    · simp only [cand] at f4
      have := b2 rfl
      have q := f5 (by omega)
      unfold ld at f1
      rw [if_neg (by repeat' split at f1
                     all_goals omega), if_pos (by repeat' split at f1
                                                  all_goals omega), if_pos (by omega), f4]
    · simp only [cand] at f4
      have := b3 rfl
      have q := f5 (by omega)
      have q2 := f6 (by omega)
      have hb : 224 ≤ (rest.getD 0 0).toNat ∧ (rest.getD 0 0).toNat < 240 := by
        unfold ld at f1
        repeat' split at f1
        all_goals omega
      have e : (rest.getD 0 0).toNat % 16 * 4096 + (rest.getD 1 0).toNat % 64 * 64 + (rest.getD 2 0).toNat % 64 = r := by omega
      rw [if_neg (by omega), if_neg (by omega), if_pos (by omega), e, if_pos ⟨by omega, hv⟩]
    · simp only [cand] at f4
      have := b4 rfl
      have q := f5 (by omega)
      have q2 := f6 (by omega)
      have q3 := f7 (by omega)
      have hb : 240 ≤ (rest.getD 0 0).toNat ∧ (rest.getD 0 0).toNat < 248 := by
        unfold ld at f1
        repeat' split at f1
        all_goals omega
      have e : (rest.getD 0 0).toNat % 8 * 262144 + (rest.getD 1 0).toNat % 64 * 4096 + (rest.getD 2 0).toNat % 64 * 64 + (rest.getD 3 0).toNat % 64 = r := by omega
      rw [if_neg (by omega), if_neg (by omega), if_neg (by omega), if_pos (by omega), e, if_pos ⟨by omega, hv⟩]
  | none =>
    simp only
    match rest, h with
    | x0 :: t, _ =>
      simp only [List.getD_cons_zero] at *
      unfold front
      dsimp only
      simp only [List.getD_cons_zero]
      split
      · rename_i c
        rw [at1_ok1 x0 t c] at ha
        cases ha
      · split
        · rename_i c0 c
          match t with
          | [] => simp at c
          | x1 :: t =>
            simp only [List.getD_cons_succ, List.getD_cons_zero] at *
            split
            · rename_i c2
              have hs : ush ((x0.toNat % 32 * 64 + x1.toNat % 64 : Nat) : Int) = 2 := by
                unfold ush
                rw [if_neg (by omega), if_neg (by omega), if_pos (by omega)]
              rw [at1_ok2 x0 x1 t (by omega) c.2.2 _ rfl hs] at ha
              cases ha
            · rfl
        · split
          · rename_i c0 c1 c
            match t with
            | [] => simp at c
            | [x1] => simp at c
            | x1 :: x2 :: t =>
              simp only [List.getD_cons_succ, List.getD_cons_zero] at *
              split
              · rename_i c2
                obtain ⟨c2, c3⟩ := c2
                rw [valid_sh] at c3
                have hs : ush ((x0.toNat % 16 * 4096 + x1.toNat % 64 * 64 + x2.toNat % 64 : Nat) : Int) = 3 := by
                  unfold ush at c3 ⊢
                  by_cases d : (((x0.toNat % 16 * 4096 + x1.toNat % 64 * 64 + x2.toNat % 64 : Nat) : Int) < 0 ∨ 1114111 < ((x0.toNat % 16 * 4096 + x1.toNat % 64 * 64 + x2.toNat % 64 : Nat) : Int) ∨ (55296 ≤ ((x0.toNat % 16 * 4096 + x1.toNat % 64 * 64 + x2.toNat % 64 : Nat) : Int) ∧ ((x0.toNat % 16 * 4096 + x1.toNat % 64 * 64 + x2.toNat % 64 : Nat) : Int) ≤ 57343))
                  · rw [if_pos d] at c3; exact absurd rfl c3
                  · rw [if_neg d, if_neg (by omega), if_neg (by omega), if_pos (by omega)]
                rw [at1_ok3 x0 x1 x2 t (by omega) c.2.1.2 c.2.2.2 _ (by omega) hs] at ha
                cases ha
              · rfl
          · split
            · rename_i c0 c1 c1' c
              match t with
              | [] => simp at c
              | [x1] => simp at c
              | [x1, x2] => simp at c
              | x1 :: x2 :: x3 :: t =>
                simp only [List.getD_cons_succ, List.getD_cons_zero] at *
                split
                · rename_i c2
                  obtain ⟨c2, c3⟩ := c2
                  rw [valid_sh] at c3
                  have hs : ush ((x0.toNat % 8 * 262144 + x1.toNat % 64 * 4096 + x2.toNat % 64 * 64 + x3.toNat % 64 : Nat) : Int) = 4 := by
                    generalize (x0.toNat % 8 * 262144 + x1.toNat % 64 * 4096 + x2.toNat % 64 * 64 + x3.toNat % 64) = y at *
                    unfold ush at c3 ⊢
                    by_cases d : ((y : Int) < 0 ∨ 1114111 < (y : Int) ∨ (55296 ≤ (y : Int) ∧ (y : Int) ≤ 57343))
                    · rw [if_pos d] at c3; exact absurd rfl c3
                    · rw [if_neg d, if_neg (by omega), if_neg (by omega), if_neg (by omega)]
                  rw [at1_ok4 x0 x1 x2 x3 t (by omega) c.2.1.2 c.2.2.1.2 c.2.2.2.2 _ (by omega) hs] at ha
                  cases ha
                · rfl
            · rfl

theorem dec_take1 (rest : List UInt8) (h : 0 < rest.length) : dec rest = ((take1 rest).1 : Int) :: dec (rest.drop (take1 rest).2) ∧ 1 ≤ (take1 rest).2 ∧ (take1 rest).2 ≤ rest.length := by
  unfold take1
  cases ha : at1 rest with
  | none => exact ⟨dec_none ha (by intro e; rw [e] at h; simp at h), by simp, h⟩
  | some p =>
    obtain ⟨r, n⟩ := p
    obtain ⟨_, _, m1, _, m2, _⟩ := at1_len ha
    exact ⟨dec_some ha, m1, m2⟩

theorem runesFrom_dec (bs : List UInt8) (f i : Nat) (acc : Array Value) (hi : i ≤ bs.length) (hf : bs.length - i ≤ f) : Conv.runesFrom ⟨bs.toArray⟩ f i acc = acc ++ ((dec (bs.drop i)).map R).toArray := by
  induction f generalizing i acc with
  | zero =>
    have e : bs.drop i = [] := List.drop_eq_nil_of_le (by omega)
    rw [e]
    simp [Conv.runesFrom, dec_nil]
  | succ f ih =>
    unfold Conv.runesFrom
    by_cases h : i < bs.length
    · have hd := decode_front bs i h
      rw [front_take1 (bs.drop i) (by simp; omega)] at hd
      obtain ⟨h1, h2, h3⟩ := dec_take1 (bs.drop i) (by simp; omega)
      rw [if_pos (by simpa [ByteArray.size] using h), hd]
      simp only
      simp only [List.length_drop] at h3
      rw [ih _ _ (by omega) (by omega), h1, List.drop_drop]
      simp [R]
    · have e : bs.drop i = [] := List.drop_eq_nil_of_le (by omega)
      rw [if_neg (by simpa [ByteArray.size] using h), e]
      simp [dec_nil]

theorem runes_of (bs : List UInt8) : Conv.runesFrom ⟨bs.toArray⟩ (⟨bs.toArray⟩ : ByteArray).size 0 #[] = ((dec bs).map R).toArray := by
  rw [runesFrom_dec bs _ 0 #[] (by omega) (by simp [ByteArray.size])]
  simp
end Go.Proofs.YtenlampiiodkhaaGreatDoor
namespace Go.Proofs.YtenlampiiodkhaaGreatDoor
set_option linter.unusedVariables false
open Go.RowKit

theorem entersDec (args : Array Value) (w : World) : (callFunc 25 args).run Tryz.prog w = .ok (.enter 25 args) w := run_enter 25 _ Tryz.func25 (by kernel_rfl) (by kernel_rfl) args w
theorem entersSame (args : Array Value) (w : World) : (callFunc 106 args).run Tryz.prog w = .ok (.enter 106 args) w := run_enter 106 _ Tryz.func106 (by kernel_rfl) (by kernel_rfl) args w

theorem rd_new (w : World) (vs : List Value) (c : Nat) (t : TypeId) (z : Value) (h : vs.length ≤ c) (hm : c ≤ maxLen) : RdV (w.alloc (.cells (vs.toArray ++ Array.replicate (c - vs.length) z) t)) (some ⟨w.heap.size, 0, none⟩) c vs := by
  refine ⟨h, by unfold maxLen at hm; omega, fun e => (by cases e), fun i hi => ⟨w.heap.size, 0, rfl, ?_⟩⟩
  rw [Nat.zero_add, World.cell?_alloc_mark]
  rw [Array.getElem?_append_left (by simpa using hi)]
  simp

section
variable {ops : Array Oper} {Q : Exit → Act → World → Prop} {A : Tmp → Value → World → Prop} {a0 : Act} {w0 : World} {o : Oper} {d : Tmp}

theorem args1 (a : Act) (x : Tmp) : (#[Operand.tmp x] : Array Operand).map a.eval = #[a.tmps.getD x undef] := by simp [Act.eval]
theorem args2 (a : Act) (x y : Tmp) : (#[Operand.tmp x, Operand.tmp y] : Array Operand).map a.eval = #[a.tmps.getD x undef, a.tmps.getD y undef] := by simp [Act.eval]

theorem ok_dec (hw : Wanted ops A o) (hdst : o.dst = some d) (x : Tmp) (ats : Array TypeId) (ho : o.op = .call { callee := .value (.func 25), args := #[.tmp x], argTypes := ats }) (hx1 : (depSlots ops o).contains x = true) (bs : List UInt8) (hm : bs.length ≤ 1000000)
    (hX : ∀ v w, A x v w → (cellsF (bs.map B)).holds v w) (hF : ∀ v w, (cellsF ((dec bs).map R)).holds v w → A d v w) : StepOk Tryz.prog ops Q A a0 w0 o :=
  ok_gives hw hdst _ _ _ entersDec ho ((dec bs).map R) (fun a w hx hf hd => by
    obtain ⟨ao, cap, e, hr⟩ := hX _ _ (hd x hx1)
    rw [args1, e]
    exact utf_decode_any ao _ cap bs w (by simp) (by simpa using hm) hr) hF

theorem ok_same (hw : Wanted ops A o) (hdst : o.dst = some d) (x y : Tmp) (ats : Array TypeId) (ho : o.op = .call { callee := .value (.func 106), args := #[.tmp x, .tmp y], argTypes := ats }) (hx1 : (depSlots ops o).contains x = true) (hy1 : (depSlots ops o).contains y = true) (rs : List Int)
    (hX : ∀ v w, A x v w → (cellsF (rs.map R)).holds v w) (hY : ∀ v w, A y v w → (cellsF (rs.map R)).holds v w) (hF : ∀ w, A d (.bool true) w) : StepOk Tryz.prog ops Q A a0 w0 o :=
  ok_is hw hdst _ _ _ entersSame ho (.bool true) (fun a w hx hf hd => by
    obtain ⟨ao, cap, e, hr⟩ := hX _ _ (hd x hx1)
    obtain ⟨ao2, cap2, e2, hr2⟩ := hY _ _ (hd y hy1)
    rw [args2, e, e2]
    exact usame_any ao ao2 _ cap cap2 rs w (by simp) hr hr2) hF

theorem ok_str (hw : Wanted ops A o) (hdst : o.dst = some d) (x : Tmp) (ho : o.op = .convert 22 9 (.tmp x)) (hx1 : (depSlots ops o).contains x = true) (bs : List UInt8)
    (hX : ∀ v w, A x v w → (cellsF (bs.map B)).holds v w) (hF : ∀ w, A d (.string ⟨bs.toArray⟩) w) : StepOk Tryz.prog ops Q A a0 w0 o :=
  ok_conv hw hdst x ho hx1 bs (fun v w h _ => by
    obtain ⟨ao, cap, e, hr⟩ := hX v w h
    exact ⟨ao, cap, by rw [e]; simp, hr⟩) hF

theorem ok_runes (hw : Wanted ops A o) (hdst : o.dst = some d) (x : Tmp) (ho : o.op = .convert 9 45 (.tmp x)) (hx1 : (depSlots ops o).contains x = true) (bs : List UInt8) (hm : bs.length ≤ 1000000)
    (hX : ∀ v w, A x v w → v = .string ⟨bs.toArray⟩) (hF : ∀ v w, (cellsF ((dec bs).map R)).holds v w → A d v w) : StepOk Tryz.prog ops Q A a0 w0 o :=
  ok_val hw hdst fun a w hx hf hd => by
    have e := hX _ _ (hd x hx1)
    have hr := run_runes_of_string (P := Tryz.prog) w 9 45 21 ⟨bs.toArray⟩ Tryz.underlying9 Tryz.underlying45 Tryz.underlying21
    rw [runes_of] at hr
    have hdl := dec_len bs
    have hr := hr (by simp; omega)
    have hsz : ((dec bs).map R).toArray.size = ((dec bs).map R).length := by simp
    rw [hsz] at hr
    have hle := grownCap_ge w ((dec bs).map R).length 0 21
    have hmx := grownCap_le_maxLen w ((dec bs).map R).length 0 21 (by simp; unfold maxLen; omega)
    generalize grownCap w ((dec bs).map R).length 0 21 = c at *
    refine ⟨.slice (some ⟨w.heap.size, 0, none⟩) ((dec bs).map R).length c, w.drew.alloc (.cells (((dec bs).map R).toArray ++ Array.replicate (c - ((dec bs).map R).length) (.int .i32 0)) 21), ?_, ?_, (Ext.drew w).trans (Ext.alloc w.drew _)⟩
    · simp only [execOp, ho, Act.eval, e]
      simp only [Sem.run_bind, hr, Result.andThen_ok, Sem.run_pure]
    · exact hF _ _ ⟨_, _, rfl, rd_new w.drew _ c 21 _ hle hmx⟩
end
end Go.Proofs.YtenlampiiodkhaaGreatDoor
