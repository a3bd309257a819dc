/-
  What the sets of package pct tell of any byte.
-/
import Derived.Test.YtilmkmplaehcaaaDoorOps
import Derived.Lib.Bytealg
namespace Go.Proofs.YtilmkmplaehcaaaDoor.Pct
set_option linter.unusedVariables false
open Go.RowKit

def one (l : List UInt8) (b : UInt8) : Bool := l.contains b

theorem find_eq (w : World) (s : ByteArray) (b : UInt8) : (callFunc 60 #[.string s, B b]).run Tryd.prog w = .ok (.value (.int .i64 (Lib.indexByte s.data.toList b))) w := by
  rw [run_callFunc_extern (e := Extern.BytealgIndexByte.indexByte) Tryd.func60 (by kernel_rfl) (by kernel_rfl) (by kernel_rfl) (by kernel_rfl)]
  rw [Lib.run_indexByteString]
  simp [Result.andThen]

theorem index_nonneg (l : List UInt8) (b : UInt8) : decide (0 ≤ Lib.indexByte l b) = one l b := by
  induction l with
  | nil => simp [Lib.indexByte, one]
  | cons x l ih =>
    have hg := Lib.indexByte_ge l b
    rw [show Lib.indexByte (x :: l) b = if x == b then 0 else if Lib.indexByte l b == -1 then -1 else Lib.indexByte l b + 1 from rfl]
    unfold one at *
    by_cases h : x = b
    · subst h; simp
    · have h' : (x == b) = false := by simpa using h
      have h2 : ¬ b = x := fun e => h e.symm
      simp only [h', Bool.false_eq_true, if_false, List.contains_cons, show (b == x) = false by simpa using h2, Bool.false_or, ← ih]
      split
      · rename_i h3
        have h3 : Lib.indexByte l b = -1 := by simpa using h3
        rw [h3]
      · rename_i h3
        have h3 : Lib.indexByte l b ≠ -1 := by simpa using h3
        simp only [decide_eq_decide]
        omega

set_option maxHeartbeats 400000 in
set_option maxRecDepth 100000 in
theorem idx2 (s : ByteArray) (b : UInt8) (w : World) : Calls Tryd.prog 44 #[.string s, B b] w fun e w' => e = .returned (.int .i64 (Lib.indexByte s.data.toList b)) ∧ w' = w := by
  have hf := find_eq w s b
  go_enter Tryd.func44, Tryd.ntmps44
  go_wp2
  go_ret
  exact ⟨rfl, rfl⟩

set_option maxHeartbeats 400000 in
set_option maxRecDepth 100000 in
theorem idx1 (s : ByteArray) (b : UInt8) (w : World) : Calls Tryd.prog 76 #[.string s, B b] w fun e w' => e = .returned (.int .i64 (Lib.indexByte s.data.toList b)) ∧ w' = w := by
  have HF := hide (idx2 s b w)
  go_enter Tryd.func76, Tryd.ntmps76
  go_wp2_with fail
  refine (unhide HF).mono ?_
  rintro e w' ⟨rfl, rfl⟩
  clear HF
  go_wp2
  go_ret
  exact ⟨rfl, rfl⟩

set_option maxHeartbeats 400000 in
set_option maxRecDepth 100000 in
theorem isOne (s : ByteArray) (b : UInt8) (w : World) : Calls Tryd.prog 70 #[.string s, B b] w fun e w' => e = .returned (.bool (one s.data.toList b)) ∧ w' = w := by
  have HF := hide (idx1 s b w)
  rw [← index_nonneg]
  go_enter Tryd.func70, Tryd.ntmps70
  go_wp2_with fail
  refine (unhide HF).mono ?_
  rintro e w' ⟨rfl, rfl⟩
  clear HF
  go_wp2
  go_ret
  exact ⟨by simp, rfl⟩

def low (b : UInt8) : Bool := decide (b.toNat < 32) || decide (126 < b.toNat)

theorem isOneL (l : List UInt8) (b : UInt8) (w : World) : Calls Tryd.prog 70 #[.string ⟨l.toArray⟩, B b] w fun e w' => e = .returned (.bool (one l b)) ∧ w' = w := isOne ⟨l.toArray⟩ b w

/-- The place of the part of a new thing that takes no room. -/
theorem shape_new (w : World) (o : Array Value) (t : TypeId) (fz : Nat × Nat) : (w.alloc (.cells o t fz)).shape? w.heap.size = some (t, o.size) := by
  unfold World.shape?
  rw [show (w.alloc (.cells o t fz)).heap[w.heap.size]? = some (.cells o t fz) from by show (w.heap.push _)[w.heap.size]? = _; simp]

theorem part_new (w : World) (t : TypeId) (ht : Tryd.prog.cellsOf t = 0) : (partAt ⟨w.heap.size, 0, none⟩ 0 0).run Tryd.prog (w.alloc (.cells #[] t)) = .ok ⟨w.heap.size, 0, none⟩ (w.alloc (.cells #[] t)) := by
  have hb : (byteOf ⟨w.heap.size, 0, none⟩).run Tryd.prog (w.alloc (.cells #[] t)) = .ok 0 (w.alloc (.cells #[] t)) := by
    simp [byteOf, noView, viewAt, shape_new, ht]
  simp [partAt, hb]

set_option maxHeartbeats 400000 in
set_option maxRecDepth 100000 in
theorem control_any (b : UInt8) (w : World) : Calls Tryd.prog 53 #[.agg #[], B b] w fun e w' => e = .returned (.bool (low b)) ∧ Ext w w' := by
  have e1 : low b = (decide ((b.toNat : Int) < 32) || decide (126 < (b.toNat : Int))) := by
    unfold low
    congr 1 <;> exact decide_eq_decide.2 (by omega)
  rw [e1]
  go_enter Tryd.func53, Tryd.ntmps53
  go_wp2
  all_goals
    go_ret
    exact ⟨by simp, Ext.alloc w _⟩

set_option maxHeartbeats 400000 in
set_option maxRecDepth 100000 in
theorem fragment_any (b : UInt8) (w : World) : Calls Tryd.prog 54 #[.agg #[], B b] w fun e w' => e = .returned (.bool (low b || one [32, 34, 60, 62, 96] b)) ∧ Ext w w' := by
  have hp := part_new w 76 (by kernel_rfl)
  go_enter Tryd.func54, Tryd.ntmps54
  go_wp2_with fail
  refine (control_any b _).mono ?_
  rintro e w2 ⟨rfl, hx⟩
  have hx := (Ext.alloc w _).trans hx
  clear hp
  generalize hl : low b = q
  cases q
  · go_wp2_with fail
    refine (isOneL [32, 34, 60, 62, 96] b _).mono ?_
    rintro e w3 ⟨rfl, rfl⟩
    go_wp2
    go_ret
    exact ⟨by rw [hl]; simp, hx⟩
  · go_wp2
    go_ret
    exact ⟨by rw [hl]; simp, hx⟩

set_option maxHeartbeats 400000 in
set_option maxRecDepth 100000 in
theorem query_any (b : UInt8) (w : World) : Calls Tryd.prog 55 #[.agg #[], B b] w fun e w' => e = .returned (.bool (low b || one [32, 34, 35, 60, 62] b)) ∧ Ext w w' := by
  have hp := part_new w 77 (by kernel_rfl)
  go_enter Tryd.func55, Tryd.ntmps55
  go_wp2_with fail
  refine (control_any b _).mono ?_
  rintro e w2 ⟨rfl, hx⟩
  have hx := (Ext.alloc w _).trans hx
  clear hp
  generalize hl : low b = q
  cases q
  · go_wp2_with fail
    refine (isOneL [32, 34, 35, 60, 62] b _).mono ?_
    rintro e w3 ⟨rfl, rfl⟩
    go_wp2
    go_ret
    exact ⟨by rw [hl]; simp, hx⟩
  · go_wp2
    go_ret
    exact ⟨by rw [hl]; simp, hx⟩

set_option maxHeartbeats 400000 in
set_option maxRecDepth 100000 in
theorem special_any (b : UInt8) (w : World) : Calls Tryd.prog 56 #[.agg #[], B b] w fun e w' => e = .returned (.bool ((low b || one [32, 34, 35, 60, 62] b) || ((b.toNat : Int) == 39))) ∧ Ext w w' := by
  have hp := part_new w 79 (by kernel_rfl)
  go_enter Tryd.func56, Tryd.ntmps56
  go_wp2_with fail
  refine (query_any b _).mono ?_
  rintro e w2 ⟨rfl, hx⟩
  have hx := (Ext.alloc w _).trans hx
  clear hp
  generalize hl : (low b || one [32, 34, 35, 60, 62] b) = q
  cases q
  · go_wp2
    go_ret
    exact ⟨by rw [hl]; simp, hx⟩
  · go_wp2
    go_ret
    exact ⟨by rw [hl]; simp, hx⟩

set_option maxHeartbeats 400000 in
set_option maxRecDepth 100000 in
theorem path_any (b : UInt8) (w : World) : Calls Tryd.prog 57 #[.agg #[], B b] w fun e w' => e = .returned (.bool ((low b || one [32, 34, 35, 60, 62] b) || one [63, 94, 96, 123, 125] b)) ∧ Ext w w' := by
  have hp := part_new w 80 (by kernel_rfl)
  go_enter Tryd.func57, Tryd.ntmps57
  go_wp2_with fail
  refine (query_any b _).mono ?_
  rintro e w2 ⟨rfl, hx⟩
  have hx := (Ext.alloc w _).trans hx
  clear hp
  generalize hl : (low b || one [32, 34, 35, 60, 62] b) = q
  cases q
  · go_wp2_with fail
    refine (isOneL [63, 94, 96, 123, 125] b _).mono ?_
    rintro e w3 ⟨rfl, rfl⟩
    go_wp2
    go_ret
    exact ⟨by rw [hl]; simp, hx⟩
  · go_wp2
    go_ret
    exact ⟨by rw [hl]; simp, hx⟩

set_option maxHeartbeats 400000 in
set_option maxRecDepth 100000 in
theorem user_any (b : UInt8) (w : World) : Calls Tryd.prog 58 #[.agg #[], B b] w fun e w' => e = .returned (.bool (((low b || one [32, 34, 35, 60, 62] b) || one [63, 94, 96, 123, 125] b) || one [47, 58, 59, 61, 64, 91, 92, 93, 124] b)) ∧ Ext w w' := by
  have hp := part_new w 82 (by kernel_rfl)
  go_enter Tryd.func58, Tryd.ntmps58
  go_wp2_with fail
  refine (path_any b _).mono ?_
  rintro e w2 ⟨rfl, hx⟩
  have hx := (Ext.alloc w _).trans hx
  clear hp
  generalize hl : ((low b || one [32, 34, 35, 60, 62] b) || one [63, 94, 96, 123, 125] b) = q
  cases q
  · go_wp2_with fail
    refine (isOneL [47, 58, 59, 61, 64, 91, 92, 93, 124] b _).mono ?_
    rintro e w3 ⟨rfl, rfl⟩
    go_wp2
    go_ret
    exact ⟨by rw [hl]; simp, hx⟩
  · go_wp2
    go_ret
    exact ⟨by rw [hl]; simp, hx⟩

def alnum (b : UInt8) : Bool := (decide (65 ≤ (b.toNat : Int)) && decide ((b.toNat : Int) ≤ 90)) || (decide (97 ≤ (b.toNat : Int)) && decide ((b.toNat : Int) ≤ 122)) || (decide (48 ≤ (b.toNat : Int)) && decide ((b.toNat : Int) ≤ 57))

set_option maxHeartbeats 400000 in
set_option maxRecDepth 100000 in
theorem form_any (b : UInt8) (w : World) : Calls Tryd.prog 59 #[.agg #[], B b] w fun e w' => e = .returned (.bool (!(alnum b || one [42, 45, 46, 95] b))) ∧ Ext w w' := by
  have hx := Ext.alloc w (.cells #[] 83)
  have HL := fun w => hide (isOneL [42, 45, 46, 95] b w)
  generalize one [42, 45, 46, 95] b = o at *
  unfold alnum
  go_enter Tryd.func59, Tryd.ntmps59
  go_wp2_with (refine (unhide (HL _)).mono ?_; rintro e w2 ⟨rfl, rfl⟩)
  all_goals
    go_ret
    exact ⟨by cases o <;> simp <;> omega, hx⟩

/-- The document's sets. -/
def inS (s : Int) (b : UInt8) : Bool :=
  if s = 0 then low b
  else if s = 1 then low b || one [32, 34, 60, 62, 96] b
  else if s = 2 then low b || one [32, 34, 35, 60, 62] b
  else if s = 3 then low b || one [32, 34, 35, 60, 62, 39] b
  else if s = 4 then low b || one [32, 34, 35, 60, 62, 63, 94, 96, 123, 125] b
  else if s = 5 then low b || one [32, 34, 35, 60, 62, 63, 94, 96, 123, 125, 47, 58, 59, 61, 64, 91, 92, 93, 124] b
  else if s = 6 then !(alnum b || one [42, 45, 46, 95] b)
  else false

theorem one_app (l m : List UInt8) (b : UInt8) : one (l ++ m) b = (one l b || one m b) := by simp [one]
theorem one_single (x b : UInt8) : one [x] b = ((b.toNat : Int) == (x.toNat : Int)) := by
  unfold one
  rw [List.contains_cons]
  simp only [List.contains_nil, Bool.or_false]
  rw [Bool.eq_iff_iff]
  simp only [beq_iff_eq]
  constructor
  · rintro rfl; rfl
  · intro h
    exact UInt8.toNat_inj.1 (by omega)

set_option maxHeartbeats 800000 in
set_option maxRecDepth 100000 in
theorem in_any (s : Int) (b : UInt8) (w : World) : Calls Tryd.prog 41 #[.int .i64 s, B b] w fun e w' => e = .returned (.bool (inS s b)) ∧ Ext w w' := by
  have C0 := hide (control_any b)
  have C1 := hide (fragment_any b)
  have C2 := hide (query_any b)
  have C3 := hide (special_any b)
  have C4 := hide (path_any b)
  have C5 := hide (user_any b)
  have C6 := hide (form_any b)
  rw [show ((b.toNat : Int) == 39) = one [39] b from (one_single 39 b).symm, Bool.or_assoc, ← one_app] at C3
  rw [Bool.or_assoc, ← one_app] at C4
  rw [Bool.or_assoc, Bool.or_assoc, ← one_app, ← one_app] at C5
  simp only [List.cons_append, List.nil_append] at C3 C4 C5
  go_enter Tryd.func41, Tryd.ntmps41
  unfold inS
  by_cases h0 : s = 0
  · subst h0
    go_wp2_with (refine (unhide C0 _).mono ?_; rintro e w2 ⟨rfl, hx⟩)
    go_ret
    exact ⟨rfl, hx⟩
  by_cases h1 : s = 1
  · subst h1
    go_wp2_with (refine (unhide C1 _).mono ?_; rintro e w2 ⟨rfl, hx⟩)
    go_ret
    exact ⟨rfl, hx⟩
  by_cases h2 : s = 2
  · subst h2
    go_wp2_with (refine (unhide C2 _).mono ?_; rintro e w2 ⟨rfl, hx⟩)
    go_ret
    exact ⟨rfl, hx⟩
  by_cases h3 : s = 3
  · subst h3
    go_wp2_with (refine (unhide C3 _).mono ?_; rintro e w2 ⟨rfl, hx⟩)
    go_ret
    exact ⟨rfl, hx⟩
  by_cases h4 : s = 4
  · subst h4
    go_wp2_with (refine (unhide C4 _).mono ?_; rintro e w2 ⟨rfl, hx⟩)
    go_ret
    exact ⟨rfl, hx⟩
  by_cases h5 : s = 5
  · subst h5
    go_wp2_with (refine (unhide C5 _).mono ?_; rintro e w2 ⟨rfl, hx⟩)
    go_ret
    exact ⟨rfl, hx⟩
  by_cases h6 : s = 6
  · subst h6
    go_wp2_with (refine (unhide C6 _).mono ?_; rintro e w2 ⟨rfl, hx⟩)
    go_ret
    exact ⟨rfl, hx⟩
  go_wp2
  go_ret
  exact ⟨by simp, Ext.refl w⟩
end Go.Proofs.YtilmkmplaehcaaaDoor.Pct
