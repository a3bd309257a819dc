/-
  PctS, PctE, PctD, PctP.
-/
import Derived.Test.YtenlampiiodkhaaGreatDoorBAc
import Derived.Lib.Bytealg
import Derived.Deep.RegionLaw
import Derived.Laws.MakeOwn
namespace Go.Proofs.YtenlampiiodkhaaGreatDoor.Pct
set_option linter.unusedVariables false
open Go.RowKit
def one (l : List UInt8) (b : UInt8) : Bool := l.contains b
theorem find_eq (w : World) (s : ByteArray) (b : UInt8) : (callFunc 178 #[.string s, B b]).run Tryz.prog w = .ok (.value (.int .i64 (Lib.indexByte s.data.toList b))) w := by
  rw [run_callFunc_extern (e := Extern.BytealgIndexByte.indexByte) Tryz.func178 (by kernel_rfl) (by kernel_rfl) (by kernel_rfl) (by kernel_rfl)]; rw [Lib.run_indexByteString]; simp [Result.andThen]
theorem index_nonneg (l : List UInt8) (b : UInt8) : decide (0 ≤ Lib.indexByte l b) = one l b := by
  induction l with
  | nil => simp [Lib.indexByte, one]
  | cons x l ih =>
    have hg := Lib.indexByte_ge l b; rw [show Lib.indexByte (x :: l) b = if x == b then 0 else if Lib.indexByte l b == -1 then -1 else Lib.indexByte l b + 1 from rfl]; unfold one at *; by_cases h : x = b
    · subst h; simp
    · have h' : (x == b) = false := by simpa using h
      have h2 : ¬ b = x := fun e => h e.symm; simp only [h', Bool.false_eq_true, if_false, List.contains_cons, show (b == x) = false by simpa using h2, Bool.false_or, ← ih]
      split
      · rename_i h3; have h3 : Lib.indexByte l b = -1 := by simpa using h3
        rw [h3]
      · rename_i h3; have h3 : Lib.indexByte l b ≠ -1 := by simpa using h3
        simp only [decide_eq_decide]; omega
set_option maxHeartbeats 400000 in
theorem idx2 (s : ByteArray) (b : UInt8) (w : World) : Calls Tryz.prog 138 #[.string s, B b] w fun e w' => e = .returned (.int .i64 (Lib.indexByte s.data.toList b)) ∧ w' = w := by
  have hf := find_eq w s b; go_enter Tryz.func138, Tryz.ntmps138; go_wp2; go_ret; exact ⟨rfl, rfl⟩
set_option maxHeartbeats 400000 in
theorem idx1 (s : ByteArray) (b : UInt8) (w : World) : Calls Tryz.prog 102 #[.string s, B b] w fun e w' => e = .returned (.int .i64 (Lib.indexByte s.data.toList b)) ∧ w' = w := by
  have HF := hide (idx2 s b w); go_enter Tryz.func102, Tryz.ntmps102; go_wp2_with fail
  refine (unhide HF).mono ?_; rintro e w' ⟨rfl, rfl⟩; clear HF; go_wp2; go_ret; exact ⟨rfl, rfl⟩
set_option maxHeartbeats 400000 in
theorem isOne (s : ByteArray) (b : UInt8) (w : World) : Calls Tryz.prog 185 #[.string s, B b] w fun e w' => e = .returned (.bool (one s.data.toList b)) ∧ w' = w := by
  have HF := hide (idx1 s b w); rw [← index_nonneg]; go_enter Tryz.func185, Tryz.ntmps185; go_wp2_with fail
  refine (unhide HF).mono ?_; rintro e w' ⟨rfl, rfl⟩; clear HF; go_wp2; go_ret; exact ⟨by simp, rfl⟩
def low (b : UInt8) : Bool := decide (b.toNat < 32) || decide (126 < b.toNat)
theorem isOneL (l : List UInt8) (b : UInt8) (w : World) : Calls Tryz.prog 185 #[.string ⟨l.toArray⟩, B b] w fun e w' => e = .returned (.bool (one l b)) ∧ w' = w := isOne ⟨l.toArray⟩ b w
theorem shape_new (w : World) (o : Array Value) (t : TypeId) (fz : Nat × Nat) : (w.alloc (.cells o t fz)).shape? w.heap.size = some (t, o.size) := by
  unfold World.shape?; rw [show (w.alloc (.cells o t fz)).heap[w.heap.size]? = some (.cells o t fz) from by show (w.heap.push _)[w.heap.size]? = _; simp]
theorem part_new (w : World) (t : TypeId) (ht : Tryz.prog.cellsOf t = 0) : (partAt ⟨w.heap.size, 0, none⟩ 0 0).run Tryz.prog (w.alloc (.cells #[] t)) = .ok ⟨w.heap.size, 0, none⟩ (w.alloc (.cells #[] t)) := by
  have hb : (byteOf ⟨w.heap.size, 0, none⟩).run Tryz.prog (w.alloc (.cells #[] t)) = .ok 0 (w.alloc (.cells #[] t)) := by
    simp [byteOf, noView, viewAt, shape_new, ht]
  simp [partAt, hb]
set_option maxHeartbeats 400000 in
theorem control_any (b : UInt8) (w : World) : Calls Tryz.prog 149 #[.agg #[], B b] w fun e w' => e = .returned (.bool (low b)) ∧ Ext w w' := by
  have e1 : low b = (decide ((b.toNat : Int) < 32) || decide (126 < (b.toNat : Int))) := by
    unfold low; congr 1 <;> exact decide_eq_decide.2 (by omega)
  rw [e1]; go_enter Tryz.func149, Tryz.ntmps149; go_wp2
  all_goals
    go_ret; exact ⟨by simp, Ext.alloc w _⟩
set_option maxHeartbeats 400000 in
theorem fragment_any (b : UInt8) (w : World) : Calls Tryz.prog 150 #[.agg #[], B b] w fun e w' => e = .returned (.bool (low b || one [32, 34, 60, 62, 96] b)) ∧ Ext w w' := by
  have hp := part_new w 154 (by kernel_rfl); go_enter Tryz.func150, Tryz.ntmps150; go_wp2_with fail
  refine (control_any b _).mono ?_; rintro e w2 ⟨rfl, hx⟩; have hx := (Ext.alloc w _).trans hx; clear hp; generalize hl : low b = q
  cases q
  · go_wp2_with fail
    refine (isOneL [32, 34, 60, 62, 96] b _).mono ?_; rintro e w3 ⟨rfl, rfl⟩; go_wp2; go_ret; exact ⟨by rw [hl]; simp, hx⟩
  · go_wp2; go_ret; exact ⟨by rw [hl]; simp, hx⟩
set_option maxHeartbeats 400000 in
theorem query_any (b : UInt8) (w : World) : Calls Tryz.prog 151 #[.agg #[], B b] w fun e w' => e = .returned (.bool (low b || one [32, 34, 35, 60, 62] b)) ∧ Ext w w' := by
  have hp := part_new w 155 (by kernel_rfl); go_enter Tryz.func151, Tryz.ntmps151; go_wp2_with fail
  refine (control_any b _).mono ?_; rintro e w2 ⟨rfl, hx⟩; have hx := (Ext.alloc w _).trans hx; clear hp; generalize hl : low b = q
  cases q
  · go_wp2_with fail
    refine (isOneL [32, 34, 35, 60, 62] b _).mono ?_; rintro e w3 ⟨rfl, rfl⟩; go_wp2; go_ret; exact ⟨by rw [hl]; simp, hx⟩
  · go_wp2; go_ret; exact ⟨by rw [hl]; simp, hx⟩
set_option maxHeartbeats 400000 in
theorem special_any (b : UInt8) (w : World) : Calls Tryz.prog 152 #[.agg #[], B b] w fun e w' => e = .returned (.bool ((low b || one [32, 34, 35, 60, 62] b) || ((b.toNat : Int) == 39))) ∧ Ext w w' := by
  have hp := part_new w 157 (by kernel_rfl); go_enter Tryz.func152, Tryz.ntmps152; go_wp2_with fail
  refine (query_any b _).mono ?_; rintro e w2 ⟨rfl, hx⟩; have hx := (Ext.alloc w _).trans hx; clear hp; generalize hl : (low b || one [32, 34, 35, 60, 62] b) = q
  cases q
  · go_wp2; go_ret; exact ⟨by rw [hl]; simp, hx⟩
  · go_wp2; go_ret; exact ⟨by rw [hl]; simp, hx⟩
set_option maxHeartbeats 400000 in
theorem path_any (b : UInt8) (w : World) : Calls Tryz.prog 153 #[.agg #[], B b] w fun e w' => e = .returned (.bool ((low b || one [32, 34, 35, 60, 62] b) || one [63, 94, 96, 123, 125] b)) ∧ Ext w w' := by
  have hp := part_new w 158 (by kernel_rfl); go_enter Tryz.func153, Tryz.ntmps153; go_wp2_with fail
  refine (query_any b _).mono ?_; rintro e w2 ⟨rfl, hx⟩; have hx := (Ext.alloc w _).trans hx; clear hp; generalize hl : (low b || one [32, 34, 35, 60, 62] b) = q
  cases q
  · go_wp2_with fail
    refine (isOneL [63, 94, 96, 123, 125] b _).mono ?_; rintro e w3 ⟨rfl, rfl⟩; go_wp2; go_ret; exact ⟨by rw [hl]; simp, hx⟩
  · go_wp2; go_ret; exact ⟨by rw [hl]; simp, hx⟩
set_option maxHeartbeats 400000 in
theorem user_any (b : UInt8) (w : World) : Calls Tryz.prog 154 #[.agg #[], B b] w fun e w' => e = .returned (.bool (((low b || one [32, 34, 35, 60, 62] b) || one [63, 94, 96, 123, 125] b) || one [47, 58, 59, 61, 64, 91, 92, 93, 124] b)) ∧ Ext w w' := by
  have hp := part_new w 160 (by kernel_rfl); go_enter Tryz.func154, Tryz.ntmps154; go_wp2_with fail
  refine (path_any b _).mono ?_; rintro e w2 ⟨rfl, hx⟩; have hx := (Ext.alloc w _).trans hx; clear hp; generalize hl : ((low b || one [32, 34, 35, 60, 62] b) || one [63, 94, 96, 123, 125] b) = q
  cases q
  · go_wp2_with fail
    refine (isOneL [47, 58, 59, 61, 64, 91, 92, 93, 124] b _).mono ?_; rintro e w3 ⟨rfl, rfl⟩; go_wp2; go_ret; exact ⟨by rw [hl]; simp, hx⟩
  · go_wp2; go_ret; exact ⟨by rw [hl]; simp, hx⟩
def alnum (b : UInt8) : Bool := (decide (65 ≤ (b.toNat : Int)) && decide ((b.toNat : Int) ≤ 90)) || (decide (97 ≤ (b.toNat : Int)) && decide ((b.toNat : Int) ≤ 122)) || (decide (48 ≤ (b.toNat : Int)) && decide ((b.toNat : Int) ≤ 57))
set_option maxHeartbeats 400000 in
theorem form_any (b : UInt8) (w : World) : Calls Tryz.prog 155 #[.agg #[], B b] w fun e w' => e = .returned (.bool (!(alnum b || one [42, 45, 46, 95] b))) ∧ Ext w w' := by
  have hx := Ext.alloc w (.cells #[] 161); have HL := fun w => hide (isOneL [42, 45, 46, 95] b w); generalize one [42, 45, 46, 95] b = o at *; unfold alnum; go_enter Tryz.func155, Tryz.ntmps155; go_wp2_with (refine (unhide (HL _)).mono ?_; rintro e w2 ⟨rfl, rfl⟩)
  all_goals
    go_ret; exact ⟨by cases o <;> simp <;> omega, hx⟩
def inS (s : Int) (b : UInt8) : Bool :=
  if s = 0 then low b
  else if s = 1 then low b || one [32, 34, 60, 62, 96] b
  else if s = 2 then low b || one [32, 34, 35, 60, 62] b
  else if s = 3 then low b || one [32, 34, 35, 60, 62, 39] b
  else if s = 4 then low b || one [32, 34, 35, 60, 62, 63, 94, 96, 123, 125] b
  else if s = 5 then low b || one [32, 34, 35, 60, 62, 63, 94, 96, 123, 125, 47, 58, 59, 61, 64, 91, 92, 93, 124] b
  else if s = 6 then !(alnum b || one [42, 45, 46, 95] b)
  else false
theorem one_app (l m : List UInt8) (b : UInt8) : one (l ++ m) b = (one l b || one m b) := by simp [one]
theorem one_single (x b : UInt8) : one [x] b = ((b.toNat : Int) == (x.toNat : Int)) := by
  unfold one; rw [List.contains_cons]; simp only [List.contains_nil, Bool.or_false]; rw [Bool.eq_iff_iff]; simp only [beq_iff_eq]; constructor
  · rintro rfl; rfl
  · intro h; exact UInt8.toNat_inj.1 (by omega)
set_option maxHeartbeats 800000 in
theorem in_any (s : Int) (b : UInt8) (w : World) : Calls Tryz.prog 117 #[.int .i64 s, B b] w fun e w' => e = .returned (.bool (inS s b)) ∧ Ext w w' := by
  have C0 := hide (control_any b); have C1 := hide (fragment_any b); have C2 := hide (query_any b); have C3 := hide (special_any b); have C4 := hide (path_any b); have C5 := hide (user_any b); have C6 := hide (form_any b); rw [show ((b.toNat : Int) == 39) = one [39] b from (one_single 39 b).symm, Bool.or_assoc, ← one_app] at C3; rw [Bool.or_assoc, ← one_app] at C4; rw [Bool.or_assoc, Bool.or_assoc, ← one_app, ← one_app] at C5; simp only [List.cons_append, List.nil_append] at C3 C4 C5; go_enter Tryz.func117, Tryz.ntmps117; unfold inS; by_cases h0 : s = 0
  · subst h0; go_wp2_with (refine (unhide C0 _).mono ?_; rintro e w2 ⟨rfl, hx⟩)
    go_ret; exact ⟨rfl, hx⟩
  by_cases h1 : s = 1
  · subst h1; go_wp2_with (refine (unhide C1 _).mono ?_; rintro e w2 ⟨rfl, hx⟩)
    go_ret; exact ⟨rfl, hx⟩
  by_cases h2 : s = 2
  · subst h2; go_wp2_with (refine (unhide C2 _).mono ?_; rintro e w2 ⟨rfl, hx⟩)
    go_ret; exact ⟨rfl, hx⟩
  by_cases h3 : s = 3
  · subst h3; go_wp2_with (refine (unhide C3 _).mono ?_; rintro e w2 ⟨rfl, hx⟩)
    go_ret; exact ⟨rfl, hx⟩
  by_cases h4 : s = 4
  · subst h4; go_wp2_with (refine (unhide C4 _).mono ?_; rintro e w2 ⟨rfl, hx⟩)
    go_ret; exact ⟨rfl, hx⟩
  by_cases h5 : s = 5
  · subst h5; go_wp2_with (refine (unhide C5 _).mono ?_; rintro e w2 ⟨rfl, hx⟩)
    go_ret; exact ⟨rfl, hx⟩
  by_cases h6 : s = 6
  · subst h6; go_wp2_with (refine (unhide C6 _).mono ?_; rintro e w2 ⟨rfl, hx⟩)
    go_ret; exact ⟨rfl, hx⟩
  go_wp2; go_ret; exact ⟨by simp, Ext.refl w⟩
end Go.Proofs.YtenlampiiodkhaaGreatDoor.Pct
namespace Go.Proofs.YtenlampiiodkhaaGreatDoor.Pct
set_option linter.unusedVariables false
open Go.RowKit
theorem infoB : (Tryz.prog.info? 5).map (fun i => (i.zero, i.size, i.bytes)) = some (some (.int .u8 0), 1, 1) := by kernel_rfl
def dig (n : Nat) : UInt8 := if n < 10 then UInt8.ofNat (48 + n) else UInt8.ofNat (55 + n)
def piece (s : Int) (x : UInt8) : List UInt8 := if s = 6 ∧ x = 32 then [43] else if inS s x then [37, dig (x.toNat / 16), dig (x.toNat % 16)] else [x]
def encd (s : Int) (bs : List UInt8) : List UInt8 := bs.flatMap (piece s)
theorem encd_snoc (s : Int) (bs : List UInt8) (x : UInt8) : encd s (bs ++ [x]) = encd s bs ++ piece s x := by simp [encd]
theorem piece_len (s : Int) (x : UInt8) : (piece s x).length ≤ 3 := by unfold piece; split <;> (try split) <;> simp
theorem encd_len (s : Int) (bs : List UInt8) : (encd s bs).length ≤ 3 * bs.length := by
  induction bs with
  | nil => simp [encd]
  | cons x r ih =>
    have := piece_len s x; have e : encd s (x :: r) = piece s x ++ encd s r := by simp [encd]
    rw [e, List.length_append, List.length_cons]; omega
theorem make_own (w : World) (base c : Nat) (hc : c ≤ 100000000) (hbase : base ≤ w.heap.size) :
    ∃ w', (Instr.makeSlice 22 (.int .i64 0) (.int .i64 (c : Int))).run Tryz.prog w = .ok (.slice (some ⟨w.heap.size, 0, none⟩) 0 c) w' ∧
      w'.ownsRow base 5 1 (.slice (some ⟨w.heap.size, 0, none⟩) 0 c) 0 [] ∧ Ext w w' := by
  obtain ⟨i0, hi, hz0, hz1, hz2⟩ := info_parts infoB; obtain ⟨w', h1, h2, h3⟩ := run_make_own (P := Tryz.prog) w base 22 5 i0 (.int .u8 0) 1 Tryz.underlying22 hi hz0 hz1 .i64 .i64 c (by rw [hz2]; omega) (by unfold maxLen; omega) hbase; exact ⟨w', h1, h2, (Below.refl _ _).grown h3 (Nat.le_refl _) (fun t ht => by cases ht)⟩
abbrev digits : List UInt8 := [48, 49, 50, 51, 52, 53, 54, 55, 56, 57, 65, 66, 67, 68, 69, 70]
theorem digs : ∀ k : Fin 16, digits.getD k.val 0 = dig k.val := by decide +kernel
theorem idx_str (w : World) (bs : List UInt8) (kd : IntKind) (k : Nat) (hk : k < bs.length) : (Instr.index 9 (.string ⟨bs.toArray⟩) (.int kd (k : Int))).run Tryz.prog w = .ok (B (bs.getD k 0)) w := by
  rw [run_index_string w 9 ⟨bs.toArray⟩ kd (k : Int) Tryz.underlying9]; have hsz : (⟨bs.toArray⟩ : ByteArray).size = bs.length := by simp [ByteArray.size]
  rw [dif_pos ⟨by omega, by rw [hsz]; omega⟩]; have e : (⟨bs.toArray⟩ : ByteArray)[((k : Int)).toNat]'(by rw [hsz]; omega) = bs.getD k 0 := by
    have : (⟨bs.toArray⟩ : ByteArray)[((k : Int)).toNat]'(by rw [hsz]; omega) = bs[k] := by
      show bs.toArray[((k : Int)).toNat]'_ = _; simp
    rw [this]; simp [List.getD, hk]
  rw [e]
theorem idx_dig (w : World) (kd : IntKind) (k : Nat) (hk : k < 16) : (Instr.index 9 (.string ⟨#[48, 49, 50, 51, 52, 53, 54, 55, 56, 57, 65, 66, 67, 68, 69, 70]⟩) (.int kd (k : Int))).run Tryz.prog w = .ok (B (dig k)) w := by
  have := idx_str w digits kd k (by simpa using hk); rw [digs ⟨k, hk⟩] at this; exact this
theorem step_app {ops : Array Oper} {o : Oper} {a : Act} {w : World} {K : Act → World → Prop} {Q : Exit → Act → World → Prop} {E : Prop} (hgd : o.guard = none) (s x : Operand) (t e : TypeId) (z : Value) (bytes : Nat)
    (hT : Tryz.prog.underlying t = some (.slice e)) (hI : (Tryz.prog.info? e).map (fun i => (i.zero, i.size, i.bytes)) = some (some z, 1, bytes)) (hzs : z.cells.size = 1)
    (ho : o.op = .call { callee := .builtin .append, args := #[s, x], argTypes := #[t, t] })
    (base : Nat) (v : Value) (n : Nat) (xs : List Value) (hs : a.eval s = v) (hown : w.ownsRow base e 1 v n xs)
    (ad : Addr) (m c : Nat) (ys : List Value) (hx : a.eval x = .slice (some ad) m c) (hl : ys.length = m) (hr : RdV w (some ad) c ys) (hone : ∀ u ∈ ys, u.oneCell' = true) (hb : (n + m) * (bytes + 1) ≤ 140737488355328) (hbase : base ≤ w.heap.size)
    (h : ∀ v' w', w'.ownsRow base e 1 v' (n + m) (xs ++ ys) → Below base w w' → K (a.put o.dst v') w') : if Region.wanted o (yielded ops a.tmps) = true then Oper.wp Tryz.prog o a w K Q else E := by
  have hw : Region.wanted o (yielded ops a.tmps) = true := by simp [Region.wanted, hgd]
  rw [if_pos hw]; obtain ⟨i0, hi, hz0, hz1, hz2⟩ := info_parts hI; have hb1 : (n + m) * bytes ≤ 140737488355328 := Nat.le_trans (Nat.mul_le_mul_left _ (by omega)) hb; have hb2 : n + m ≤ 140737488355328 := Nat.le_trans (by rw [Nat.mul_add, Nat.mul_one]; omega) hb; refine wp_append_own w s x t ho base e i0 z 1 bytes hT hi hz0 hz1 hz2 hzs (by decide) v n xs hs hown ad m c ys hx (by omega) (hr.news ad rfl) hone (by unfold maxLen; omega) hb1 hbase ?_; intro v' w' h1 h2 _; exact h v' w' h1 ((Below.refl _ _).grown h2 hbase (fun t ht => (hown.lt t ht).1))
theorem and15 : ∀ y : Fin 256, bits .and .u8 (y.val : Int) 15 = (y.val : Int) % 16 := by decide +kernel
set_option maxHeartbeats 800000 in
set_option maxRecDepth 100000 in
theorem encode_own (s : Int) (ao : Option Addr) (l cap : Nat) (bs : List UInt8) (w : World) (hl : bs.length = l) (hm : l ≤ 1000000) (h : RdV w ao cap (bs.map B)) :
    Calls Tryz.prog 74 #[.int .i64 s, .slice ao l cap] w fun e w' => e = .returned (.string ⟨(encd s bs).toArray⟩) ∧ Ext w w' := by
  subst hl; have hle := h.le; have hmx := h.max; simp only [List.length_map] at hle; obtain ⟨w0, hmk, own, hx0⟩ := make_own w w.heap.size bs.length (by omega) (Nat.le_refl _); go_enter Tryz.func74, Tryz.ntmps74; go_wp2; clear hmk
  go_loopw [5, 13] (fun o i wr => ∃ (k : Nat), k ≤ bs.length ∧ i = .int .i64 k ∧ wr.ownsRow w.heap.size 5 1 o (encd s (bs.take k)).length ((encd s (bs.take k)).map B) ∧ Below w.heap.size w wr) (fun _ i _ => bs.length - (intOf i).toNat)
  case atStart => exact ⟨0, by omega, rfl, by simpa [encd] using own, hx0⟩
  case round =>
    obtain ⟨k, hk, rfl, ownr, hbr⟩ := hrel; clear own hx0; by_cases hkl : k < bs.length
    · obtain ⟨b, off, rfl, hc⟩ := h.cells (by simp; omega); have c0 : wr.cell? ⟨b, off + k, none⟩ = some (B (bs.getD k 0)) := by
        have := hc k (by simpa using hkl); rw [getB bs k hkl] at this; rw [← this]; exact hbr.cell (p := ⟨b, off + k, none⟩) (cell_lt this)
      clear hc; have HT := hide (take_snoc bs k 0 hkl); have HL := hide (encd_len s (bs.take k)); generalize bs.getD k 0 = x at *; have hbase := hbr.size; have key : ∀ (ys : List UInt8) (wz : World) (v' : Value) (w' : World), piece s x = ys → Below w.heap.size w wz → w'.ownsRow w.heap.size 5 1 v' ((encd s (bs.take k)).length + ys.length) ((encd s (bs.take k)).map B ++ ys.map B) → Below w.heap.size wz w' →
          ((∃ (k' : Nat), k' ≤ bs.length ∧ Value.int .i64 ((k : Int) + 1) = .int .i64 k' ∧ w'.ownsRow w.heap.size 5 1 v' (encd s (bs.take k')).length ((encd s (bs.take k')).map B) ∧ Below w.heap.size w w') ∧ bs.length - ((k : Int) + 1).toNat < bs.length - k) := by
        intro ys wz v' w' hp hbz ho hb'; refine ⟨⟨k + 1, by omega, by simp, ?_, hbz.trans hb'⟩, by omega⟩; rw [unhide HT, encd_snoc, hp, List.length_append, List.map_append]; exact ho
      have KEY := hide key; clear key HT; have hlen := unhide HL; rw [List.length_take, Nat.min_eq_left hk] at hlen; clear HL; generalize encd s (bs.take k) = out at *; by_cases hs6 : s = 6 ∧ x = 32
      · obtain ⟨rfl, rfl⟩ := hs6; have RL := RdV.lit wr [B 43] 5 (0, 0) (by simp); have own2 := owns_below ownr (Ext.alloc wr (.cells #[B 43] 5 (0, 0))); have hb2 : Below w.heap.size w (wr.alloc (.cells #[B 43] 5 (0, 0))) := hbr.trans (Below.mono (Ext.alloc wr _) hbr.size); have hbase2 := hb2.size; have hone : ∀ u ∈ [B 43], u.oneCell' = true := by simp [B, Value.oneCell']
        clear ownr; go_wp2_with (at_builtin; refine wpList_app rfl (.tmp 28) (.tmp 29) 22 5 (.int .u8 0) 1 Tryz.underlying22 infoB rfl rfl w.heap.size _ _ _ rfl own2 _ _ _ [B 43] rfl rfl RL hone ?c2 hbase2 ?_)
        case c2 => omega
        intro v2 w2 o2 b2; clear own2 RL hone; have kk := unhide KEY [43] _ v2 w2 (by unfold piece; simp) hb2 (by simpa using o2) b2; go_wp2; exact kk
      · have hp : piece s x = if inS s x then [37, dig (x.toNat / 16), dig (x.toNat % 16)] else [x] := by unfold piece; rw [if_neg hs6]
        have hs7 : s ≠ 6 ∨ s = 6 ∧ (x.toNat : Int) ≠ 32 := by
          by_cases h6 : s = 6
          · refine .inr ⟨h6, fun e => hs6 ⟨h6, UInt8.toNat_inj.1 (by simpa using (by omega : x.toNat = 32))⟩⟩
          · exact .inl h6
        clear hs6; have HP := hide hp; clear hp; have hxl := x.toNat_lt; have IN := hide (in_any s x); rcases hs7 with hs7 | ⟨rfl, hs7⟩
        all_goals
          go_wp2_with fail
          refine (unhide IN _).mono ?_; rintro e wz ⟨rfl, hxz⟩; clear IN; have ownz := owns_below ownr hxz; have hbz : Below w.heap.size w wz := hbr.trans (Below.mono hxz hbr.size); clear ownr hxz hbr c0 hbase; have hp := unhide HP; clear HP
          cases hi : inS _ x
          · rw [hi] at hp; have RL := RdV.lit wz [B x] 5 (0, 0) (by simp); have own2 := owns_below ownz (Ext.alloc wz (.cells #[B x] 5 (0, 0))); have hb2 : Below w.heap.size w (wz.alloc (.cells #[B x] 5 (0, 0))) := hbz.trans (Below.mono (Ext.alloc wz _) hbz.size); have hbase2 := hb2.size; have hone : ∀ u ∈ [B x], u.oneCell' = true := by simp [B, Value.oneCell']
            have KEY2 := hide (fun v2 w2 => unhide KEY [x] _ v2 w2 hp hb2); clear ownz hbz KEY hp hb2; go_wp2_with (at_builtin; refine wpList_app rfl (.tmp 17) (.tmp 19) 22 5 (.int .u8 0) 1 Tryz.underlying22 infoB rfl rfl w.heap.size _ _ _ rfl own2 _ _ _ [B x] rfl rfl RL hone (by omega) hbase2 ?_)
            intro v2 w2 o2 b2; clear own2 RL hone; have kk := unhide KEY2 v2 w2 (by simpa using o2) b2; go_wp2; exact kk
          · rw [hi] at hp; have d1 : ∀ w, (Instr.index 9 (.string ⟨#[48, 49, 50, 51, 52, 53, 54, 55, 56, 57, 65, 66, 67, 68, 69, 70]⟩) (.int .u8 ((x.toNat : Int) / 16))).run Tryz.prog w = .ok (B (dig (x.toNat / 16))) w := fun w => idx_dig w .u8 (x.toNat / 16) (by omega); have d2 : ∀ w, (Instr.index 9 (.string ⟨#[48, 49, 50, 51, 52, 53, 54, 55, 56, 57, 65, 66, 67, 68, 69, 70]⟩) (.int .u8 ((x.toNat : Int) % 16))).run Tryz.prog w = .ok (B (dig (x.toNat % 16))) w := fun w => idx_dig w .u8 (x.toNat % 16) (by omega); have a15 : bits .and .u8 (x.toNat : Int) 15 = (x.toNat : Int) % 16 := by simpa using and15 ⟨x.toNat, hxl⟩
            have hbase2 := hbz.size; have ownd := owns_below ownz (Ext.drew wz); have hbd : Below w.heap.size w (wz.drew.alloc (.cells #[B 37, B (dig (x.toNat / 16)), B (dig (x.toNat % 16))] 5)) := hbz.trans (Below.mono ((Ext.drew wz).trans (Ext.alloc wz.drew _)) hbz.size); have KEY2 := hide (fun v2 w2 => unhide KEY [37, dig (x.toNat / 16), dig (x.toNat % 16)] _ v2 w2 hp hbd); clear KEY hp ownz hbz hbd; go_wp2_with fail
            go_region_law (
              refine step_app rfl (.tmp 35) (.tmp 42) 22 5 (.int .u8 0) 1 Tryz.underlying22 infoB rfl rfl w.heap.size _ _ (out.map B) ?_ (owns_below ownd (Ext.alloc _ _)) ⟨wz.heap.size, 0, none⟩ 3 3 [B 37, B (dig (x.toNat / 16)), B (dig (x.toNat % 16))] ?_ rfl ?_ ?_ ?_ ?_ ?_
              · simp [Act.eval]
              · simp [Act.eval]
              · exact RdV.lit wz.drew _ _ _ (show 3 ≤ 9223372036854775807 by omega)
              · simp [B, Value.oneCell']
              · omega
              · simp; omega
              intro v2 w2 o2 b2; have kk := unhide KEY2 v2 w2 (by simpa using o2) b2; clear o2 b2)
            all_goals
              go_wp2; exact kk
    · have e : bs.take k = bs := List.take_of_length_le (by omega); rw [e] at ownr; have hr := RdV.of_owned ownr; obtain ⟨a2, c2, rfl, hr2, hl2⟩ := hr; have cs := oconv_str wr a2 _ c2 (encd s bs) rfl hr2; go_wp2; go_ret; exact ⟨rfl, hbr⟩
end Go.Proofs.YtenlampiiodkhaaGreatDoor.Pct
namespace Go.Proofs.YtenlampiiodkhaaGreatDoor.Pct
set_option linter.unusedVariables false
open Go.RowKit
abbrev S (bs : List UInt8) : Value := .string ⟨bs.toArray⟩
def isx (b : UInt8) : Bool := (decide (48 ≤ b.toNat) && decide (b.toNat ≤ 57)) || (decide (97 ≤ b.toNat) && decide (b.toNat ≤ 102)) || (decide (65 ≤ b.toNat) && decide (b.toNat ≤ 70))
def hx (b : UInt8) : Nat := if b.toNat ≤ 57 then b.toNat - 48 else if 97 ≤ b.toNat then b.toNat - 87 else b.toNat - 55
theorem hx_lt : ∀ b : UInt8, isx b = true → hx b < 16 := by
  intro b h; unfold isx at h; simp only [Bool.or_eq_true, Bool.and_eq_true, decide_eq_true_eq] at h; unfold hx
  split
  · omega
  · split <;> omega
def two (a b : UInt8) : UInt8 := UInt8.ofNat (16 * hx a + hx b)
def decd : List UInt8 → List UInt8
  | [] => []
  | [x] => [x]
  | [x, y] => [x, y]
  | x :: a :: b :: r => if (x == 37 && isx a && isx b) = true then two a b :: decd r else x :: decd (a :: b :: r)
theorem decd_nil : decd [] = [] := rfl
def frontIs (l : List UInt8) : Bool := decide (3 ≤ l.length) && l.getD 0 0 == 37 && isx (l.getD 1 0) && isx (l.getD 2 0)
theorem decd_yes {l : List UInt8} (h : frontIs l = true) : decd l = two (l.getD 1 0) (l.getD 2 0) :: decd (l.drop 3) := by
  match l, h with
  | [], h => simp [frontIs] at h
  | [x], h => simp [frontIs] at h
  | [x, y], h => simp [frontIs] at h
  | x :: a :: b :: r, h =>
    have h' : (x == 37 && isx a && isx b) = true := by simpa [frontIs] using h
    rw [decd, if_pos h']; rfl
theorem decd_no {l : List UInt8} (h : frontIs l = false) (h0 : 0 < l.length) : decd l = l.getD 0 0 :: decd (l.drop 1) := by
  match l, h with
  | [], h => simp at h0
  | [x], h => rfl
  | [x, y], h => rfl
  | x :: a :: b :: r, h =>
    have h' : ¬ (x == 37 && isx a && isx b) = true := by
      intro e; have : frontIs (x :: a :: b :: r) = true := by simpa [frontIs] using e
      rw [this] at h
      cases h
    rw [decd, if_neg h']; rfl
theorem decd_len (l : List UInt8) : (decd l).length ≤ l.length := by
  match l with
  | [] => simp [decd]
  | [x] => simp [decd]
  | [x, y] => simp [decd]
  | x :: a :: b :: r =>
    have h1 := decd_len r; have h2 := decd_len (a :: b :: r); rw [decd]
    split <;> simp at * <;> omega
set_option maxHeartbeats 400000 in
set_option maxRecDepth 100000 in
theorem digit_yes (b : UInt8) (w : World) (h : isx b = true) : Calls Tryz.prog 142 #[B b] w fun e w' => e = .returned (.tuple #[.int .u8 (hx b : Int), .bool true]) ∧ w' = w := by
  have hb := b.toNat_lt; have hh : ((48 ≤ (b.toNat : Int) ∧ (b.toNat : Int) ≤ 57) ∧ (hx b : Int) = b.toNat - 48) ∨ ((97 ≤ (b.toNat : Int) ∧ (b.toNat : Int) ≤ 102) ∧ (hx b : Int) = b.toNat - 97 + 10) ∨ ((65 ≤ (b.toNat : Int) ∧ (b.toNat : Int) ≤ 70) ∧ (hx b : Int) = b.toNat - 65 + 10) := by
    unfold isx at h; simp only [Bool.or_eq_true, Bool.and_eq_true, decide_eq_true_eq] at h; unfold hx
    split
    · left; omega
    · split <;> omega
  clear h; rcases hh with ⟨⟨h1, h2⟩, e⟩ | ⟨⟨h1, h2⟩, e⟩ | ⟨⟨h1, h2⟩, e⟩
  all_goals
    rw [e]; clear e; go_enter Tryz.func142, Tryz.ntmps142; go_wp2; go_ret2; exact ⟨by simp, rfl⟩
set_option maxHeartbeats 400000 in
set_option maxRecDepth 100000 in
theorem digit_no (b : UInt8) (w : World) (h : isx b = false) : Calls Tryz.prog 142 #[B b] w fun e w' => e = .returned (.tuple #[.int .u8 0, .bool false]) ∧ w' = w := by
  have hb := b.toNat_lt; have hh : ¬ (48 ≤ (b.toNat : Int) ∧ (b.toNat : Int) ≤ 57) ∧ ¬ (97 ≤ (b.toNat : Int) ∧ (b.toNat : Int) ≤ 102) ∧ ¬ (65 ≤ (b.toNat : Int) ∧ (b.toNat : Int) ≤ 70) := by
    unfold isx at h; simp only [Bool.or_eq_false_iff, Bool.and_eq_false_iff, decide_eq_false_iff_not] at h; omega
  clear h; obtain ⟨h1, h2, h3⟩ := hh; go_enter Tryz.func142, Tryz.ntmps142; go_wp2
  all_goals first
    | (exfalso; omega)
    | (go_ret2
       exact ⟨by simp, rfl⟩)
theorem digit_any (b : UInt8) (w : World) : Calls Tryz.prog 142 #[B b] w fun e w' => e = .returned (.tuple #[.int .u8 (if isx b then (hx b : Int) else 0), .bool (isx b)]) ∧ w' = w := by
  cases h : isx b
  · exact digit_no b w h
  · exact digit_yes b w h
theorem size_S (bs : List UInt8) : (⟨bs.toArray⟩ : ByteArray).size = bs.length := by simp [ByteArray.size]
theorem shl_or : ∀ x y : Fin 16, bits .or .u8 (16 * (x.val : Int)) (y.val : Int) = 16 * (x.val : Int) + (y.val : Int) := by decide +kernel
theorem at_S (l : List UInt8) (k : Nat) (hk : k < (⟨l.toArray⟩ : ByteArray).size) : (⟨l.toArray⟩ : ByteArray)[k] = l.getD k 0 := by
  have h : k < l.length := by rw [size_S] at hk; exact hk
  have : (⟨l.toArray⟩ : ByteArray)[k] = l[k] := by
    show l.toArray[k]'_ = _; simp
  rw [this]; simp [List.getD, h]
set_option maxHeartbeats 800000 in
set_option maxRecDepth 100000 in
theorem first_no (l : List UInt8) (w : World) (h0 : 0 < l.length) (hm : l.length ≤ 1000000) (h : frontIs l = false) :
    Calls Tryz.prog 111 #[S l] w fun e w' => e = .returned (.tuple #[B (l.getD 0 0), .int .i64 1]) ∧ w' = w := by
  have i0 := fun h => at_S l 0 h; have i1 := fun h => at_S l 1 h; have i2 := fun h => at_S l 2 h; have hsz := size_S l; have hf : l.length < 3 ∨ ((l.getD 0 0).toNat : Int) ≠ 37 ∨ isx (l.getD 1 0) = false ∨ isx (l.getD 2 0) = false := by
    unfold frontIs at h; simp only [Bool.and_eq_false_iff, decide_eq_false_iff_not, beq_eq_false_iff_ne] at h; rcases h with ((h | h) | h) | h
    · left; omega
    · right; left; intro e; exact h (UInt8.toNat_inj.1 (by simpa using (by omega : (l.getD 0 0).toNat = 37)))
    · right; right; left; exact h
    · right; right; right; exact h
  clear h; show Calls Tryz.prog 111 #[.string ⟨l.toArray⟩] w _; generalize l.getD 0 0 = x0 at *; generalize l.getD 1 0 = x1 at *; generalize l.getD 2 0 = x2 at *; generalize (⟨l.toArray⟩ : ByteArray) = z at *; go_enter Tryz.func111, Tryz.ntmps111; by_cases g1 : (x0.toNat : Int) = 37
  · by_cases g2 : l.length < 3
    · go_wp2; go_ret2; exact ⟨by simp [g1], rfl⟩
    · have D1 := hide (digit_any x1); have D2 := hide (digit_any x2); have hf : isx x1 = false ∨ isx x2 = false := by
        rcases hf with h | h | h
        · exact absurd h g2
        · exact absurd g1 h
        · exact h
      generalize (if isx x1 = true then (hx x1 : Int) else 0) = q1 at D1; generalize (if isx x2 = true then (hx x2 : Int) else 0) = q2 at D2; generalize isx x1 = p1 at *; generalize isx x2 = p2 at *; go_wp2_with fail
      refine (unhide D1 _).mono ?_; rintro e w' ⟨rfl, rfl⟩; clear D1; go_wp2_with fail
      refine (unhide D2 _).mono ?_; rintro e w'' ⟨rfl, rfl⟩; clear D2
      cases p1
      · go_wp2; go_ret2; exact ⟨by simp [g1], rfl⟩
      · have hi2 : p2 = false := by
          rcases hf with h | h
          · cases h
          · exact h
        subst hi2; go_wp2; go_ret2; exact ⟨by simp [g1], rfl⟩
  · go_wp2; go_ret2; exact ⟨rfl, rfl⟩
set_option maxHeartbeats 800000 in
set_option maxRecDepth 100000 in
theorem first_yes (l : List UInt8) (w : World) (hm : l.length ≤ 1000000) (h : frontIs l = true) :
    Calls Tryz.prog 111 #[S l] w fun e w' => e = .returned (.tuple #[B (two (l.getD 1 0) (l.getD 2 0)), .int .i64 3]) ∧ w' = w := by
  have i0 := fun h => at_S l 0 h; have i1 := fun h => at_S l 1 h; have i2 := fun h => at_S l 2 h; have hsz := size_S l; unfold frontIs at h; simp only [Bool.and_eq_true, decide_eq_true_eq, beq_iff_eq] at h; obtain ⟨⟨⟨g2, g1⟩, hi1⟩, hi2⟩ := h; have b1 := hx_lt _ hi1; have b2 := hx_lt _ hi2; have D1 := hide (digit_yes _ w hi1); have D2 := hide (digit_yes _ w hi2); have hor := shl_or ⟨_, b1⟩ ⟨_, b2⟩; simp only at hor; have e2 : B (two (l.getD 1 0) (l.getD 2 0)) = .int .u8 (16 * (hx (l.getD 1 0) : Int) + (hx (l.getD 2 0) : Int)) := by
    unfold B two; congr 1; rw [UInt8.toNat_ofNat']; omega
  rw [e2]; clear e2 hi1 hi2; show Calls Tryz.prog 111 #[.string ⟨l.toArray⟩] w _; rw [g1] at i0; clear g1; generalize l.getD 1 0 = x1 at *; generalize l.getD 2 0 = x2 at *; generalize (⟨l.toArray⟩ : ByteArray) = z at *; generalize hx x1 = n1 at *; generalize hx x2 = n2 at *; go_enter Tryz.func111, Tryz.ntmps111; go_wp2_with fail
  refine (unhide D1).mono ?_; rintro e w' ⟨rfl, rfl⟩; clear D1; go_wp2_with fail
  refine (unhide D2).mono ?_; rintro e w'' ⟨rfl, rfl⟩; clear D2; go_wp2; go_ret2; exact ⟨by rw [← hor, Int.mul_comm]; rfl, rfl⟩
theorem drop_S (l : List UInt8) (k : Nat) : (⟨l.toArray⟩ : ByteArray).extract k (⟨l.toArray⟩ : ByteArray).size = ⟨(l.drop k).toArray⟩ := by
  have h := Lib.extract_data ⟨l.toArray⟩ k (⟨l.toArray⟩ : ByteArray).size; rw [size_S] at *; have h2 : ((⟨l.toArray⟩ : ByteArray).extract k l.length).data = (l.drop k).toArray := by
    apply Array.toList_inj.1; rw [h]; show List.take (l.length - k) (List.drop k l) = _; rw [List.take_of_length_le (by simp)]
  exact ByteArray.ext h2
theorem run_drop (w : World) (l : List UInt8) (k : Nat) (h : k ≤ l.length) : (Instr.slice 9 (S l) (some (.int .i64 (k : Int))) none none).run Tryz.prog w = .ok (S (l.drop k)) w := by
  rw [run_slice_string_l w 9 ⟨l.toArray⟩ Tryz.underlying9 .i64 (k : Int) (by omega) (by rw [size_S]; omega)]; rw [Int.toNat_natCast, drop_S]
def strLen : Value → Nat
  | .string s => s.size
  | _ => 0
theorem dec_step (l : List UInt8) (h0 : 0 < l.length) (hm : l.length ≤ 1000000) : ∃ (x : UInt8) (m : Nat), 1 ≤ m ∧ m ≤ l.length ∧ x :: decd (l.drop m) = decd l ∧ ∀ w, Calls Tryz.prog 111 #[S l] w fun e w' => e = .returned (.tuple #[B x, .int .i64 (m : Int)]) ∧ w' = w := by
  cases h : frontIs l
  · exact ⟨_, 1, by omega, by omega, (decd_no h h0).symm, fun w => first_no l w h0 hm h⟩
  · have : 3 ≤ l.length := by
      unfold frontIs at h; simp only [Bool.and_eq_true, decide_eq_true_eq] at h; exact h.1.1.1
    exact ⟨_, 3, by omega, by omega, (decd_yes h).symm, fun w => first_yes l w hm h⟩
set_option maxHeartbeats 800000 in
set_option maxRecDepth 100000 in
theorem decode_own (l : List UInt8) (w : World) (hm : l.length ≤ 1000000) :
    Calls Tryz.prog 71 #[S l] w fun e w' => ∃ v, e = .returned v ∧ w'.ownsRow w.heap.size 5 1 v (decd l).length ((decd l).map B) ∧ Below w.heap.size w w' := by
  obtain ⟨w0, hmk, own, hx0⟩ := make_own w w.heap.size l.length (by omega) (Nat.le_refl _); have hsz := size_S l; go_enter Tryz.func71, Tryz.ntmps71; go_wp2; clear hmk hsz
  go_loopw [0, 3] (fun v o wr => ∃ (rest : List UInt8) (out : List UInt8), v = S rest ∧ out ++ decd rest = decd l ∧ out.length + rest.length ≤ l.length ∧ wr.ownsRow w.heap.size 5 1 o out.length (out.map B) ∧ Below w.heap.size w wr) (fun v _ _ => strLen v)
  case atStart => exact ⟨l, [], rfl, rfl, by simp, own, hx0⟩
  case round =>
    clear own hx0; obtain ⟨rest, out, rfl, hv, hlen, ownr, hbr⟩ := hrel; have HV := hide hv; clear hv; have hsz := size_S rest; by_cases h0 : 0 < rest.length
    · obtain ⟨x, m, m1, m2, hdec, hcall⟩ := dec_step rest h0 (by omega); have hsl := fun w => run_drop w rest m m2; have HF := hide hcall; have HD := hide hdec; clear hdec hcall; have RL := RdV.lit wr [B x] 5 (0, 0) (by simp); have own2 := owns_below ownr (Ext.alloc wr (.cells #[B x] 5 (0, 0))); have hb2 : Below w.heap.size w (wr.alloc (.cells #[B x] 5 (0, 0))) := hbr.trans (Below.mono (Ext.alloc wr (.cells #[B x] 5 (0, 0))) hbr.size); have hbase := hb2.size; have hone : ∀ u ∈ [B x], u.oneCell' = true := by simp [B, Value.oneCell']
      have key : ∀ v' w', w'.ownsRow w.heap.size 5 1 v' (out.length + 1) (out.map B ++ [B x]) → Below w.heap.size (wr.alloc (.cells #[B x] 5 (0, 0))) w' →
          (∃ (rest' : List UInt8) (out' : List UInt8), S (rest.drop m) = S rest' ∧ out' ++ decd rest' = decd l ∧ out'.length + rest'.length ≤ l.length ∧ w'.ownsRow w.heap.size 5 1 v' out'.length (out'.map B) ∧ Below w.heap.size w w') ∧ strLen (S (rest.drop m)) < strLen (S rest) := by
        intro v' w' o' b'; refine ⟨⟨rest.drop m, out ++ [x], rfl, ?_, by simp; omega, by simpa using o', hb2.trans b'⟩, ?_⟩
        · rw [List.append_assoc, ← unhide HV, ← unhide HD]; rfl
        · show (⟨(rest.drop m).toArray⟩ : ByteArray).size < (⟨rest.toArray⟩ : ByteArray).size; rw [size_S, size_S, List.length_drop]; omega
      have KEY := hide key; clear key hb2 ownr hbr HV HD; go_wp2_with fail
      refine (unhide HF _).mono ?_; rintro e w2 ⟨rfl, rfl⟩; clear HF; go_wp2_with (at_builtin; refine wpList_app rfl (.tmp 17) (.tmp 19) 22 5 (.int .u8 0) 1 Tryz.underlying22 infoB rfl rfl w.heap.size _ _ _ rfl own2 _ _ _ [B x] rfl rfl RL hone ?c2 hbase ?_)
      case c2 => omega
      intro v2 w2 o2 b2; clear own2 RL hone; have kk := unhide KEY v2 w2 o2 b2; go_wp2; exact kk
    · have e : rest = [] := List.eq_nil_of_length_eq_zero (by omega); subst e; have hb := unhide HV; go_wp2; go_ret; rw [← hb]; exact ⟨_, rfl, by simpa [decd_nil] using ownr, hbr⟩
theorem decode_any (l : List UInt8) (w : World) (hm : l.length ≤ 1000000) :
    Calls Tryz.prog 71 #[S l] w (Gives w ((decd l).map B)) :=
  (decode_own l w hm).mono fun e w' ⟨v, he, h1, h2⟩ => by subst he; exact gives_of_owned h1 h2
end Go.Proofs.YtenlampiiodkhaaGreatDoor.Pct
namespace Go.Proofs.YtenlampiiodkhaaGreatDoor.Pct
set_option linter.unusedVariables false
open Go.RowKit
theorem out_37 : ∀ k : Fin 6, inS (k.val : Int) 37 = false := by decide +kernel
theorem out_dig : ∀ (k : Fin 6) (n : Fin 16), inS (k.val : Int) (dig n.val) = false := by decide +kernel
theorem piece_out (k : Nat) (hk : k < 6) (x : UInt8) : ∀ y ∈ piece (k : Int) x, inS (k : Int) y = false := by
  intro y hy; unfold piece at hy; rw [if_neg (by omega)] at hy; have hx := x.toNat_lt
  cases h : inS (k : Int) x
  · rw [h] at hy; simp only [Bool.false_eq_true, if_false, List.mem_singleton] at hy; rw [hy]; exact h
  · rw [h] at hy; simp only [if_true, List.mem_cons, List.not_mem_nil, or_false] at hy; rcases hy with rfl | rfl | rfl
    · exact out_37 ⟨k, hk⟩
    · exact out_dig ⟨k, hk⟩ ⟨x.toNat / 16, by omega⟩
    · exact out_dig ⟨k, hk⟩ ⟨x.toNat % 16, by omega⟩
theorem encd_out (k : Nat) (hk : k < 6) (bs : List UInt8) : ∀ y ∈ encd (k : Int) bs, inS (k : Int) y = false := by
  intro y hy; unfold encd at hy; obtain ⟨x, _, hx⟩ := List.mem_flatMap.1 hy; exact piece_out k hk x y hx
theorem encd_same (k : Nat) (hk : k < 6) (t : List UInt8) (h : ∀ y ∈ t, inS (k : Int) y = false) : encd (k : Int) t = t := by
  induction t with
  | nil => rfl
  | cons x r ih =>
    have e : encd (k : Int) (x :: r) = piece (k : Int) x ++ encd (k : Int) r := by simp [encd]
    rw [e, ih fun y hy => h y (List.mem_cons_of_mem _ hy)]; unfold piece; rw [if_neg (by omega), if_neg (by rw [h x (List.mem_cons_self ..)]; simp)]; rfl
theorem decd_other (x : UInt8) (r : List UInt8) (h : x ≠ 37) : decd (x :: r) = x :: decd r := by
  have hf : frontIs (x :: r) = false := by
    unfold frontIs; have : ((x :: r).getD 0 0 == 37) = false := by simpa using h
    rw [this]; simp
  exact decd_no hf (by simp)
end Go.Proofs.YtenlampiiodkhaaGreatDoor.Pct
