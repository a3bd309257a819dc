/-
  What Decode of package pct tells.
-/
import Derived.Test.YtilmkmplaehcaaaDoorPctE
namespace Go.Proofs.YtilmkmplaehcaaaDoor.Pct
set_option linter.unusedVariables false
open Go.RowKit

/-- A text. -/
abbrev S (bs : List UInt8) : Value := .string ⟨bs.toArray⟩

/-- Is it a digit, and which? -/
def isx (b : UInt8) : Bool := (decide (48 ≤ b.toNat) && decide (b.toNat ≤ 57)) || (decide (97 ≤ b.toNat) && decide (b.toNat ≤ 102)) || (decide (65 ≤ b.toNat) && decide (b.toNat ≤ 70))
def hx (b : UInt8) : Nat := if b.toNat ≤ 57 then b.toNat - 48 else if 97 ≤ b.toNat then b.toNat - 87 else b.toNat - 55

theorem hx_lt : ∀ b : UInt8, isx b = true → hx b < 16 := by
  intro b h
  unfold isx at h
  simp only [Bool.or_eq_true, Bool.and_eq_true, decide_eq_true_eq] at h
  unfold hx
  split
  · omega
  · split <;> omega

/-- The byte that two digits are. -/
def two (a b : UInt8) : UInt8 := UInt8.ofNat (16 * hx a + hx b)

/-- The document's reading. -/
def decd : List UInt8 → List UInt8
  | [] => []
  | [x] => [x]
  | [x, y] => [x, y]
  | x :: a :: b :: r => if (x == 37 && isx a && isx b) = true then two a b :: decd r else x :: decd (a :: b :: r)

theorem decd_nil : decd [] = [] := rfl

/-- What stands at the front, and of how many bytes. -/
def frontIs (l : List UInt8) : Bool := decide (3 ≤ l.length) && l.getD 0 0 == 37 && isx (l.getD 1 0) && isx (l.getD 2 0)

theorem decd_yes {l : List UInt8} (h : frontIs l = true) : decd l = two (l.getD 1 0) (l.getD 2 0) :: decd (l.drop 3) := by
  match l, h with
  | [], h => simp [frontIs] at h
  | [x], h => simp [frontIs] at h
  | [x, y], h => simp [frontIs] at h
  | x :: a :: b :: r, h =>
    have h' : (x == 37 && isx a && isx b) = true := by simpa [frontIs] using h
    rw [decd, if_pos h']
    rfl

theorem decd_no {l : List UInt8} (h : frontIs l = false) (h0 : 0 < l.length) : decd l = l.getD 0 0 :: decd (l.drop 1) := by
  match l, h with
  | [], h => simp at h0
  | [x], h => rfl
  | [x, y], h => rfl
  | x :: a :: b :: r, h =>
    have h' : ¬ (x == 37 && isx a && isx b) = true := by
      intro e
      have : frontIs (x :: a :: b :: r) = true := by simpa [frontIs] using e
      rw [this] at h
      cases h
    rw [decd, if_neg h']
    rfl

theorem decd_len (l : List UInt8) : (decd l).length ≤ l.length := by
  match l with
  | [] => simp [decd]
  | [x] => simp [decd]
  | [x, y] => simp [decd]
  | x :: a :: b :: r =>
    have h1 := decd_len r
    have h2 := decd_len (a :: b :: r)
    rw [decd]
    split <;> simp at * <;> omega

set_option maxHeartbeats 400000 in
set_option maxRecDepth 100000 in
theorem digit_yes (b : UInt8) (w : World) (h : isx b = true) : Calls Tryd.prog 62 #[B b] w fun e w' => e = .returned (.tuple #[.int .u8 (hx b : Int), .bool true]) ∧ w' = w := by
  have hb := b.toNat_lt
  have hh : ((48 ≤ (b.toNat : Int) ∧ (b.toNat : Int) ≤ 57) ∧ (hx b : Int) = b.toNat - 48) ∨ ((97 ≤ (b.toNat : Int) ∧ (b.toNat : Int) ≤ 102) ∧ (hx b : Int) = b.toNat - 97 + 10) ∨ ((65 ≤ (b.toNat : Int) ∧ (b.toNat : Int) ≤ 70) ∧ (hx b : Int) = b.toNat - 65 + 10) := by
    unfold isx at h
    simp only [Bool.or_eq_true, Bool.and_eq_true, decide_eq_true_eq] at h
    unfold hx
    split
    · left; omega
    · split <;> omega
  clear h
  rcases hh with ⟨⟨h1, h2⟩, e⟩ | ⟨⟨h1, h2⟩, e⟩ | ⟨⟨h1, h2⟩, e⟩
  all_goals
    rw [e]
    clear e
    go_enter Tryd.func62, Tryd.ntmps62
    go_wp2
    go_ret2
    exact ⟨by simp, rfl⟩

set_option maxHeartbeats 400000 in
set_option maxRecDepth 100000 in
theorem digit_no (b : UInt8) (w : World) (h : isx b = false) : Calls Tryd.prog 62 #[B b] w fun e w' => e = .returned (.tuple #[.int .u8 0, .bool false]) ∧ w' = w := by
  have hb := b.toNat_lt
  have hh : ¬ (48 ≤ (b.toNat : Int) ∧ (b.toNat : Int) ≤ 57) ∧ ¬ (97 ≤ (b.toNat : Int) ∧ (b.toNat : Int) ≤ 102) ∧ ¬ (65 ≤ (b.toNat : Int) ∧ (b.toNat : Int) ≤ 70) := by
    unfold isx at h
    simp only [Bool.or_eq_false_iff, Bool.and_eq_false_iff, decide_eq_false_iff_not] at h
    omega
  clear h
  obtain ⟨h1, h2, h3⟩ := hh
  go_enter Tryd.func62, Tryd.ntmps62
  go_wp2
  all_goals first
    | (exfalso; omega)
    | (go_ret2
       exact ⟨by simp, rfl⟩)

theorem digit_any (b : UInt8) (w : World) : Calls Tryd.prog 62 #[B b] w fun e w' => e = .returned (.tuple #[.int .u8 (if isx b then (hx b : Int) else 0), .bool (isx b)]) ∧ w' = w := by
  cases h : isx b
  · exact digit_no b w h
  · exact digit_yes b w h

theorem size_S (bs : List UInt8) : (⟨bs.toArray⟩ : ByteArray).size = bs.length := by simp [ByteArray.size]

theorem shl_or : ∀ x y : Fin 16, bits .or .u8 (16 * (x.val : Int)) (y.val : Int) = 16 * (x.val : Int) + (y.val : Int) := by decide +kernel

theorem at_S (l : List UInt8) (k : Nat) (hk : k < (⟨l.toArray⟩ : ByteArray).size) : (⟨l.toArray⟩ : ByteArray)[k] = l.getD k 0 := by
  have h : k < l.length := by rw [size_S] at hk; exact hk
  have : (⟨l.toArray⟩ : ByteArray)[k] = l[k] := by
    show l.toArray[k]'_ = _
    simp
  rw [this]
  simp [List.getD, h]

set_option maxHeartbeats 800000 in
set_option maxRecDepth 100000 in
theorem first_no (l : List UInt8) (w : World) (h0 : 0 < l.length) (hm : l.length ≤ 1000000) (h : frontIs l = false) :
    Calls Tryd.prog 48 #[S l] w fun e w' => e = .returned (.tuple #[B (l.getD 0 0), .int .i64 1]) ∧ w' = w := by
  have i0 := fun h => at_S l 0 h
  have i1 := fun h => at_S l 1 h
  have i2 := fun h => at_S l 2 h
  have hsz := size_S l
  have hf : l.length < 3 ∨ ((l.getD 0 0).toNat : Int) ≠ 37 ∨ isx (l.getD 1 0) = false ∨ isx (l.getD 2 0) = false := by
    unfold frontIs at h
    simp only [Bool.and_eq_false_iff, decide_eq_false_iff_not, beq_eq_false_iff_ne] at h
    rcases h with ((h | h) | h) | h
    · left; omega
    · right; left; intro e; exact h (UInt8.toNat_inj.1 (by simpa using (by omega : (l.getD 0 0).toNat = 37)))
    · right; right; left; exact h
    · right; right; right; exact h
  clear h
  show Calls Tryd.prog 48 #[.string ⟨l.toArray⟩] w _
  generalize l.getD 0 0 = x0 at *
  generalize l.getD 1 0 = x1 at *
  generalize l.getD 2 0 = x2 at *
  generalize (⟨l.toArray⟩ : ByteArray) = z at *
  go_enter Tryd.func48, Tryd.ntmps48
  by_cases g1 : (x0.toNat : Int) = 37
  · by_cases g2 : l.length < 3
    · go_wp2
      go_ret2
      exact ⟨by simp [g1], rfl⟩
    · have D1 := hide (digit_any x1)
      have D2 := hide (digit_any x2)
      have hf : isx x1 = false ∨ isx x2 = false := by
        rcases hf with h | h | h
        · exact absurd h g2
        · exact absurd g1 h
        · exact h
      generalize (if isx x1 = true then (hx x1 : Int) else 0) = q1 at D1
      generalize (if isx x2 = true then (hx x2 : Int) else 0) = q2 at D2
      generalize isx x1 = p1 at *
      generalize isx x2 = p2 at *
      go_wp2_with fail
      refine (unhide D1 _).mono ?_
      rintro e w' ⟨rfl, rfl⟩
      clear D1
      go_wp2_with fail
      refine (unhide D2 _).mono ?_
      rintro e w'' ⟨rfl, rfl⟩
      clear D2
      cases p1
      · go_wp2
        go_ret2
        exact ⟨by simp [g1], rfl⟩
      · have hi2 : p2 = false := by
          rcases hf with h | h
          · cases h
          · exact h
        subst hi2
        go_wp2
        go_ret2
        exact ⟨by simp [g1], rfl⟩
  · go_wp2
    go_ret2
    exact ⟨rfl, rfl⟩

set_option maxHeartbeats 800000 in
set_option maxRecDepth 100000 in
theorem first_yes (l : List UInt8) (w : World) (hm : l.length ≤ 1000000) (h : frontIs l = true) :
    Calls Tryd.prog 48 #[S l] w fun e w' => e = .returned (.tuple #[B (two (l.getD 1 0) (l.getD 2 0)), .int .i64 3]) ∧ w' = w := by
  have i0 := fun h => at_S l 0 h
  have i1 := fun h => at_S l 1 h
  have i2 := fun h => at_S l 2 h
  have hsz := size_S l
  unfold frontIs at h
  simp only [Bool.and_eq_true, decide_eq_true_eq, beq_iff_eq] at h
  obtain ⟨⟨⟨g2, g1⟩, hi1⟩, hi2⟩ := h
  have b1 := hx_lt _ hi1
  have b2 := hx_lt _ hi2
  have D1 := hide (digit_yes _ w hi1)
  have D2 := hide (digit_yes _ w hi2)
  have hor := shl_or ⟨_, b1⟩ ⟨_, b2⟩
  simp only at hor
  have e2 : B (two (l.getD 1 0) (l.getD 2 0)) = .int .u8 (16 * (hx (l.getD 1 0) : Int) + (hx (l.getD 2 0) : Int)) := by
    unfold B two
    congr 1
    rw [UInt8.toNat_ofNat']
    omega
  rw [e2]
  clear e2 hi1 hi2
  show Calls Tryd.prog 48 #[.string ⟨l.toArray⟩] w _
  rw [g1] at i0
  clear g1
  generalize l.getD 1 0 = x1 at *
  generalize l.getD 2 0 = x2 at *
  generalize (⟨l.toArray⟩ : ByteArray) = z at *
  generalize hx x1 = n1 at *
  generalize hx x2 = n2 at *
  go_enter Tryd.func48, Tryd.ntmps48
  go_wp2_with fail
  refine (unhide D1).mono ?_
  rintro e w' ⟨rfl, rfl⟩
  clear D1
  go_wp2_with fail
  refine (unhide D2).mono ?_
  rintro e w'' ⟨rfl, rfl⟩
  clear D2
  go_wp2
  go_ret2
  exact ⟨by rw [← hor, Int.mul_comm]; rfl, rfl⟩

theorem drop_S (l : List UInt8) (k : Nat) : (⟨l.toArray⟩ : ByteArray).extract k (⟨l.toArray⟩ : ByteArray).size = ⟨(l.drop k).toArray⟩ := by
  have h := Lib.extract_data ⟨l.toArray⟩ k (⟨l.toArray⟩ : ByteArray).size
  rw [size_S] at *
  have h2 : ((⟨l.toArray⟩ : ByteArray).extract k l.length).data = (l.drop k).toArray := by
    apply Array.toList_inj.1
    rw [h]
    show List.take (l.length - k) (List.drop k l) = _
    rw [List.take_of_length_le (by simp)]
  exact ByteArray.ext h2

/-- s[k:] -/
theorem run_drop (w : World) (l : List UInt8) (k : Nat) (h : k ≤ l.length) : (Instr.slice 9 (S l) (some (.int .i64 (k : Int))) none none).run Tryd.prog w = .ok (S (l.drop k)) w := by
  rw [run_slice_string_l w 9 ⟨l.toArray⟩ Tryd.underlying9 .i64 (k : Int) (by omega) (by rw [size_S]; omega)]
  rw [Int.toNat_natCast, drop_S]

def strLen : Value → Nat
  | .string s => s.size
  | _ => 0

/-- What one round takes: x, of m bytes. -/
theorem dec_step (l : List UInt8) (h0 : 0 < l.length) (hm : l.length ≤ 1000000) : ∃ (x : UInt8) (m : Nat), 1 ≤ m ∧ m ≤ l.length ∧ x :: decd (l.drop m) = decd l ∧ ∀ w, Calls Tryd.prog 48 #[S l] w fun e w' => e = .returned (.tuple #[B x, .int .i64 (m : Int)]) ∧ w' = w := by
  cases h : frontIs l
  · exact ⟨_, 1, by omega, by omega, (decd_no h h0).symm, fun w => first_no l w h0 hm h⟩
  · have : 3 ≤ l.length := by
      unfold frontIs at h
      simp only [Bool.and_eq_true, decide_eq_true_eq] at h
      exact h.1.1.1
    exact ⟨_, 3, by omega, by omega, (decd_yes h).symm, fun w => first_yes l w hm h⟩

set_option maxHeartbeats 800000 in
set_option maxRecDepth 100000 in
theorem decode_own (l : List UInt8) (w : World) (hm : l.length ≤ 1000000) :
    Calls Tryd.prog 35 #[S l] w fun e w' => ∃ v, e = .returned v ∧ w'.ownsRow w.heap.size 5 1 v (decd l).length ((decd l).map B) ∧ Below w.heap.size w w' := by
  obtain ⟨w0, hmk, own, hx0⟩ := make_own w w.heap.size l.length (by omega) (Nat.le_refl _)
  have hsz := size_S l
  go_enter Tryd.func35, Tryd.ntmps35
  go_wp2
  clear hmk hsz
  go_loopw [0, 3] (fun v o wr => ∃ (rest : List UInt8) (out : List UInt8), v = S rest ∧ out ++ decd rest = decd l ∧ out.length + rest.length ≤ l.length ∧ wr.ownsRow w.heap.size 5 1 o out.length (out.map B) ∧ Below w.heap.size w wr) (fun v _ _ => strLen v)
  case atStart => exact ⟨l, [], rfl, rfl, by simp, own, hx0⟩
  case round =>
    clear own hx0
    obtain ⟨rest, out, rfl, hv, hlen, ownr, hbr⟩ := hrel
    have HV := hide hv
    clear hv
    have hsz := size_S rest
    by_cases h0 : 0 < rest.length
    · obtain ⟨x, m, m1, m2, hdec, hcall⟩ := dec_step rest h0 (by omega)
      have hsl := fun w => run_drop w rest m m2
      have HF := hide hcall
      have HD := hide hdec
      clear hdec hcall
      have RL := RdV.lit wr [B x] 5 (0, 0) (by simp)
      have own2 := owns_below ownr (Ext.alloc wr (.cells #[B x] 5 (0, 0)))
      have hb2 : Below w.heap.size w (wr.alloc (.cells #[B x] 5 (0, 0))) := hbr.trans (Below.mono (Ext.alloc wr (.cells #[B x] 5 (0, 0))) hbr.size)
      have hbase := hb2.size
      have hone : ∀ u ∈ [B x], u.oneCell' = true := by simp [B, Value.oneCell']
      have key : ∀ v' w', w'.ownsRow w.heap.size 5 1 v' (out.length + 1) (out.map B ++ [B x]) → Below w.heap.size (wr.alloc (.cells #[B x] 5 (0, 0))) w' →
          (∃ (rest' : List UInt8) (out' : List UInt8), S (rest.drop m) = S rest' ∧ out' ++ decd rest' = decd l ∧ out'.length + rest'.length ≤ l.length ∧ w'.ownsRow w.heap.size 5 1 v' out'.length (out'.map B) ∧ Below w.heap.size w w') ∧ strLen (S (rest.drop m)) < strLen (S rest) := by
        intro v' w' o' b'
        refine ⟨⟨rest.drop m, out ++ [x], rfl, ?_, by simp; omega, by simpa using o', hb2.trans b'⟩, ?_⟩
        · rw [List.append_assoc, ← unhide HV, ← unhide HD]
          rfl
        · show (⟨(rest.drop m).toArray⟩ : ByteArray).size < (⟨rest.toArray⟩ : ByteArray).size
          rw [size_S, size_S, List.length_drop]
          omega
      have KEY := hide key
      clear key hb2 ownr hbr HV HD
      go_wp2_with fail
      refine (unhide HF _).mono ?_
      rintro e w2 ⟨rfl, rfl⟩
      clear HF
      go_wp2_with (at_builtin; refine wpList_app rfl (.tmp 17) (.tmp 19) 33 5 (.int .u8 0) 1 Tryd.underlying33 infoB rfl rfl w.heap.size _ _ _ rfl own2 _ _ _ [B x] rfl rfl RL hone ?c2 hbase ?_)
      case c2 => omega
      intro v2 w2 o2 b2
      clear own2 RL hone
      have kk := unhide KEY v2 w2 o2 b2
      go_wp2
      exact kk
    · have e : rest = [] := List.eq_nil_of_length_eq_zero (by omega)
      subst e
      have hb := unhide HV
      go_wp2
      go_ret
      rw [← hb]
      exact ⟨_, rfl, by simpa [decd_nil] using ownr, hbr⟩

/-- The bytes of a text, in new memory. -/
theorem decode_any (l : List UInt8) (w : World) (hm : l.length ≤ 1000000) :
    Calls Tryd.prog 35 #[S l] w (Gives w ((decd l).map B)) :=
  (decode_own l w hm).mono fun e w' ⟨v, he, h1, h2⟩ => by subst he; exact gives_of_owned h1 h2
end Go.Proofs.YtilmkmplaehcaaaDoor.Pct
