/-
  Reg4, HoF, HoG.
-/
import Derived.Test.YtenlampiiodkhaaGreatDoorBRb
import Derived.Test.YtenlampiiodkhaaGreatDoorCCb
import Derived.Test.YtenlampiiodkhaaGreatDoorBNb
import Derived.Test.YtenlampiiodkhaaGreatDoorI4Qb
import Derived.Test.YtenlampiiodkhaaGreatDoorJ6Ab
import Derived.Test.YtenlampiiodkhaaGreatDoorBYb
import Derived.Test.YtenlampiiodkhaaGreatDoorCEb
namespace Go.Proofs.YtenlampiiodkhaaGreatDoor
set_option linter.unusedVariables false
open Go.RowKit

/-- Each operation has a slot of its own, and waits for elder ones alone. -/
def fineB4 (ops : Array Oper) (n : Nat) : Bool :=
  (List.range ops.size).all fun i =>
    match ops[i]? with
    | some o =>
      (match o.dst with | some d => decide (d < n) | none => false) &&
      (o.after.toList.all fun e => (!Region.binds .any e || decide (e.on < i))) &&
      ((List.range ops.size).all fun j => i == j || (ops[j]?).map (·.dst) != some o.dst)
    | none => true

structure Fine4 (ops : Array Oper) (n : Nat) : Prop where
  slot : ∀ (i : Nat) (o : Oper), ops[i]? = some o → ∃ d, o.dst = some d ∧ d < n
  low : ∀ (i : Nat) (o : Oper) (e : Edge), ops[i]? = some o → e ∈ o.after → Region.binds .any e = true → e.on < i
  apart : ∀ (i j : Nat) (o o' : Oper), ops[i]? = some o → ops[j]? = some o' → i ≠ j → o'.dst ≠ o.dst

theorem fine_of4 (ops : Array Oper) (n : Nat) (h : fineB4 ops n = true) : Fine4 ops n := by
  have key : ∀ (i : Nat) (o : Oper), ops[i]? = some o → ((match o.dst with | some d => decide (d < n) | none => false) &&
      (o.after.toList.all fun e => (!Region.binds .any e || decide (e.on < i))) && ((List.range ops.size).all fun j => i == j || (ops[j]?).map (·.dst) != some o.dst)) = true := by
    intro i o ho
    have hi : i < ops.size := (Array.getElem?_eq_some_iff.1 ho).1
    have := List.all_eq_true.1 h i (List.mem_range.2 hi)
    simpa only [ho] using this
  refine ⟨fun i o ho => ?_, fun i o e ho he hbd => ?_, fun i j o o' ho ho' hij => ?_⟩
  · have := key i o ho
    simp only [Bool.and_eq_true] at this
    obtain ⟨⟨h1, _⟩, _⟩ := this
    cases hd : o.dst with
    | none => rw [hd] at h1; simp at h1
    | some d => rw [hd] at h1; exact ⟨d, rfl, by simpa using h1⟩
  · have := key i o ho
    simp only [Bool.and_eq_true] at this
    obtain ⟨⟨_, h2⟩, _⟩ := this
    have := List.all_eq_true.1 h2 e (by simpa using he)
    rw [hbd] at this
    simpa using this
  · have := key i o ho
    simp only [Bool.and_eq_true] at this
    obtain ⟨_, h3⟩ := this
    have hj : j < ops.size := (Array.getElem?_eq_some_iff.1 ho').1
    have := List.all_eq_true.1 h3 j (List.mem_range.2 hj)
    simp only [ho', Option.map_some, Bool.or_eq_true, beq_iff_eq, bne_iff_ne, ne_eq, Option.some.injEq] at this
    rcases this with h | h
    · exact absurd h hij
    · exact h

section
variable {P : Program} {ops : Array Oper} {Q : Exit → Act → World → Prop} {A : Tmp → Value → World → Prop} {a0 : Act} {w0 : World}

theorem all_of_ready4 {n : Nat} (fine : Fine4 ops n) {listed : Array Bool} (hs : listed.size = ops.size) (hr : Region.ready .any ops listed = []) : ∀ i, i < ops.size → listed.getD i false = true := by
  intro i
  induction i using Nat.strongRecOn with
  | _ i ih =>
    intro hi
    cases hl : listed.getD i false with
    | true => rfl
    | false =>
      exfalso
      have : i ∈ Region.ready .any ops listed := by
        rw [mem_ready]
        refine ⟨by rw [getD_lt (by omega) true false]; exact hl, ops[i], Array.getElem?_eq_getElem hi, fun e he hbd => ?_⟩
        have hlow := fine.low i ops[i] e (Array.getElem?_eq_getElem hi) he hbd
        exact ih e.on hlow (by omega)
      rw [hr] at this
      cases this

theorem any_of_steps4 (fine : Fine4 ops a0.tmps.size) (hA : ∀ t v w w', A t v w → Ext w w' → A t v w')
    (steps : ∀ (i : Nat) (o : Oper), ops[i]? = some o → StepOk P ops Q A a0 w0 o)
    (hend : ∀ a w, Ext w0 w → a.tmps.size = a0.tmps.size → a.defers = a0.defers → (∀ t, (dstSlots ops).contains t = false → a.tmps.getD t undef = a0.tmps.getD t undef) →
      (∀ t, (dstSlots ops).contains t = true → A t (a.tmps.getD t undef) w) → Q .normal a w) :
    ∀ fuel listed a w, RInv ops A a0 w0 listed a w → listed.size = ops.size → left ops listed ≤ fuel → wpAny P .any ops Q fuel listed a w := by
  have fin : ∀ listed a w, RInv ops A a0 w0 listed a w → (∀ i, i < ops.size → listed.getD i false = true) → Q .normal a w := by
    intro listed a w inv hall
    refine hend a w inv.ext inv.size inv.defers inv.keep fun t ht => ?_
    rw [List.contains_iff_mem] at ht
    unfold dstSlots at ht
    obtain ⟨o, ho, hd⟩ := List.mem_filterMap.1 ht
    obtain ⟨i, hi, e⟩ := List.mem_iff_getElem.1 ho
    have hi' : i < ops.size := by simpa using hi
    exact inv.holds i o t (hall i hi') (by rw [Array.getElem?_eq_getElem hi']; simpa using e) hd
  intro fuel
  induction fuel with
  | zero =>
    intro listed a w inv hs hl
    have hall : ∀ i, i < ops.size → listed.getD i false = true := by
      intro i hi
      have h0 : left ops listed = 0 := by omega
      have := List.countP_eq_zero.1 h0 i (List.mem_range.2 hi)
      rw [getD_lt (by omega) false true]
      simpa using this
    refine ⟨?_, fin listed a w inv hall⟩
    cases hr : Region.ready .any ops listed with
    | nil => rfl
    | cons x xs =>
      exfalso
      have hx : x ∈ Region.ready .any ops listed := by rw [hr]; simp
      obtain ⟨h1, o, ho, _⟩ := mem_ready.1 hx
      have hi : x < ops.size := (Array.getElem?_eq_some_iff.1 ho).1
      rw [getD_lt (by omega) true false, hall x hi] at h1
      cases h1
  | succ fuel ih =>
    intro listed a w inv hs hl
    refine ⟨fun hr => fin listed a w inv (all_of_ready4 fine hs hr), fun i hi => ?_⟩
    obtain ⟨h1, o, ho, hpre⟩ := mem_ready.1 hi
    have hi' : i < ops.size := (Array.getElem?_eq_some_iff.1 ho).1
    obtain ⟨d, hd, hdn⟩ := fine.slot i o ho
    have key := steps i o ho a w inv.ext inv.keep (fun t ht => by
      rw [List.contains_iff_mem] at ht
      unfold depSlots at ht
      obtain ⟨e, he, hb⟩ := List.mem_filterMap.1 ht
      by_cases hbin : Region.binds .any e = true
      · rw [if_pos hbin] at hb
        obtain ⟨oj, hoj, hdj⟩ := Option.bind_eq_some_iff.1 hb
        exact inv.holds e.on oj t (hpre e (by simpa using he) hbin) hoj hdj
      · rw [if_neg hbin] at hb
        cases hb) (wpAny P .any ops Q fuel (listed.setIfInBounds i true)) (fun v w' hv hext => by
      refine ih _ _ _ ?_ (by simpa using hs) ?_
      · refine ⟨inv.ext.trans hext, ?_, ?_, fun t ht => ?_, fun j oj dj hj hoj hdj => ?_⟩
        · rw [hd]; simpa [Act.put] using inv.size
        · rw [hd]; exact inv.defers
        · have htd : t ≠ d := by
            intro e
            rw [e, dst_contains ho hd] at ht
            cases ht
          rw [hd, ← inv.keep t ht]
          simp [Act.put, Array.getElem?_setIfInBounds_ne (Ne.symm htd)]
        · by_cases hij : i = j
          · subst hij
            rw [ho] at hoj
            cases hoj
            rw [hd] at hdj
            cases hdj
            rw [hd]
            have : (a.put (some d) v).tmps.getD d undef = v := by
              have hlt : d < a.tmps.size := by rw [inv.size]; exact hdn
              simp [Act.put, hlt]
            rw [this]
            exact hv d hd
          · have hne : dj ≠ d := by
              intro e
              exact fine.apart i j o oj ho hoj hij (by rw [hd, hdj, e])
            have hj' : listed.getD j false = true := by rw [getD_set_ne false hij] at hj; exact hj
            have := inv.holds j oj dj hj' hoj hdj
            rw [hd]
            have e2 : (a.put (some d) v).tmps.getD dj undef = a.tmps.getD dj undef := by
              simp [Act.put, Array.getElem?_setIfInBounds_ne (Ne.symm hne)]
            rw [e2]
            exact hA _ _ _ _ this hext
      · have hlt : left ops (listed.setIfInBounds i true) < left ops listed := by
          refine countP_lt (fun x hx => ?_) i (List.mem_range.2 hi') (by simp [h1]) ?_
          · by_cases hxi : i = x
            · subst hxi
              simp [h1]
            · rw [getD_set_ne true hxi] at hx
              exact hx
          · have : (listed.setIfInBounds i true).getD i true = true := by
              simp [show i < listed.size by omega]
            simp [this]
        omega)
    unfold wpOp
    simp only [ho]
    split
    · rename_i hw
      rw [if_pos hw] at key
      exact .inl key
    · rename_i hw
      rw [if_neg hw] at key
      exact key

/-- THE RULE. -/
theorem wp_region_open4 {id : Nat} (hm : P.follows .mixedOrders = true) (fine : fineB4 ops a0.tmps.size = true) (hA : ∀ t v w w', A t v w → Ext w w' → A t v w')
    (steps : ∀ (i : Nat) (o : Oper), ops[i]? = some o → StepOk P ops Q A a0 w0 o)
    (hend : ∀ a w, Ext w0 w → a.tmps.size = a0.tmps.size → a.defers = a0.defers → (∀ t, (dstSlots ops).contains t = false → a.tmps.getD t undef = a0.tmps.getD t undef) →
      (∀ t, (dstSlots ops).contains t = true → A t (a.tmps.getD t undef) w) → Q .normal a w) : (Code.region id ops true).wp P Q a0 w0 := by
  refine wp_region_any hm (any_of_steps4 (fine_of4 _ _ fine) hA steps hend ops.size _ a0 _ ⟨Ext.drew w0, rfl, rfl, fun _ _ => rfl, fun i o d hi ho _ => ?_⟩ (by simp) ?_)
  · have : i < ops.size := (Array.getElem?_eq_some_iff.1 ho).1
    simp [this] at hi
  · unfold left
    exact Nat.le_trans (List.countP_le_length) (by simp)

theorem wp_region_open24 {id : Nat} (ds : List Nat) (hds : dstSlots ops = ds) (hm : P.follows .mixedOrders = true) (fine : fineB4 ops a0.tmps.size = true) (hA : ∀ t v w w', A t v w → Ext w w' → A t v w')
    (steps : ∀ (i : Nat) (o : Oper), ops[i]? = some o → StepOk P ops Q A a0 w0 o)
    (hend : ∀ (vs : Nat → Value) w, Ext w0 w → (∀ t, ds.contains t = true → A t (vs t) w) → Q .normal (putAll vs ds a0) w) : (Code.region id ops true).wp P Q a0 w0 := by
  subst hds
  refine wp_region_open4 hm fine hA steps fun a w hx hsz hdef hfix hkn => ?_
  rw [act_puts a (dstSlots ops) a0 hsz hdef hfix]
  exact hend (fun d => a.tmps.getD d undef) w hx hkn
end
end Go.Proofs.YtenlampiiodkhaaGreatDoor
namespace Go.Proofs.YtenlampiiodkhaaGreatDoor
set_option linter.unusedVariables false
open Go.RowKit

section
variable {ops : Array Oper} {Q : Exit → Act → World → Prop} {A : Tmp → Value → World → Prop} {a0 : Act} {w0 : World} {o : Oper} {d : Tmp}
/-- A constant text, and one that a slot holds. -/
theorem ok_catL (hw : Wanted ops A o) (hdst : o.dst = some d) (p : List UInt8) (y : Tmp) (ty ty' : TypeId) (ho : o.op = .binOp .add ty (.const (S p)) (.tmp y) ty') (hy1 : (depSlots ops o).contains y = true)
    (q : List UInt8) (hl : p.length + q.length ≤ 1000) (hY : ∀ v w, A y v w → v = S q) (hF : ∀ w, A d (S (p ++ q)) w) : StepOk Tryz.prog ops Q A a0 w0 o :=
  ok_val hw hdst fun a w hx hf hd => ⟨S (p ++ q), w, by
    have e2 : a.tmps.getD y undef = .string ⟨q.toArray⟩ := hY _ _ (hd y hy1)
    have h1 : (⟨p.toArray⟩ : ByteArray).size = p.length := by simp [ByteArray.size]
    have h2 : (⟨q.toArray⟩ : ByteArray).size = q.length := by simp [ByteArray.size]
    simp only [execOp, ho, Act.eval, e2]
    simp [eqGuard, binOp, Op.stringOp, h1, h2, catB, S]
    try omega, hF w, Ext.refl _⟩
theorem ok_catR (hw : Wanted ops A o) (hdst : o.dst = some d) (x : Tmp) (q : List UInt8) (ty ty' : TypeId) (ho : o.op = .binOp .add ty (.tmp x) (.const (S q)) ty') (hx1 : (depSlots ops o).contains x = true)
    (p : List UInt8) (hl : p.length + q.length ≤ 1000) (hX : ∀ v w, A x v w → v = S p) (hF : ∀ w, A d (S (p ++ q)) w) : StepOk Tryz.prog ops Q A a0 w0 o :=
  ok_val hw hdst fun a w hx hf hd => ⟨S (p ++ q), w, by
    have e1 : a.tmps.getD x undef = .string ⟨p.toArray⟩ := hX _ _ (hd x hx1)
    have h1 : (⟨p.toArray⟩ : ByteArray).size = p.length := by simp [ByteArray.size]
    have h2 : (⟨q.toArray⟩ : ByteArray).size = q.length := by simp [ByteArray.size]
    simp only [execOp, ho, Act.eval, e1]
    simp [eqGuard, binOp, Op.stringOp, h1, h2, catB, S]
    try omega, hF w, Ext.refl _⟩
end

set_option maxHeartbeats 4000000 in
set_option maxRecDepth 100000 in
theorem numbers9_walk (a x0 x1 x2 x3 x4 x5 x6 x7 : Nat) (w : World) (ha : a < 4294967296) (hsm : i6small [x0, x1, x2, x3, x4, x5, x6, x7]) (tb : Tb9 w) :
    Calls Tryz.prog 6 #[.int .u32 (a : Int), .agg #[U x0, U x1, U x2, U x3, U x4, U x5, U x6, U x7]] w fun e w' => e = .returned (.bool true) ∧ Ext w w' := by
  have hxa : Ext w (w.alloc (.cells #[U x0, U x1, U x2, U x3, U x4, U x5, U x6, U x7] 36)) := Ext.alloc _ _
  have hA : (w.alloc (.cells #[U x0, U x1, U x2, U x3, U x4, U x5, U x6, U x7] 36)).heap[w.heap.size]? = some (.cells #[U x0, U x1, U x2, U x3, U x4, U x5, U x6, U x7] 36 (0, 0)) := alloc_new _ _
  have HB := hide (begun9_yes _ (tb.below hxa))
  have TB := hide (fun (w' : World) (hx : Ext w w') => tb.below hx)
  have hs4 := shw_small a ha
  have hs6 := shw6_len [x0, x1, x2, x3, x4, x5, x6, x7] rfl hsm
  have hbl : (bdg 10 a).length ≤ 10 := bdg_len 9 a (by omega)
  have R4 := hide (fun v => rshow_any a v ha)
  have R6 := hide (fun v => rshow6_any x0 x1 x2 x3 x4 x5 x6 x7 v hsm)
  have RT := hide (fun v => Ten_any a v (by omega))
  have hTl : (shL [x0, x1, x2, x3, x4, x5, x6, x7]).length ≤ 100000 := by unfold shL; simp; omega
  have P1 : Hid (∀ v, Ext w v → Calls Tryz.prog 15 #[S (bdg 10 a), .bool true] v fun e w' => e = .returned (.tuple #[S (shw a), .int .i64 0]) ∧ Ext v w') := fun v hv => by
    have := hparse_any (bdg 10 a) true v (by omega) (unhide TB v hv)
    rw [host_ten a ha] at this
    exact this
  have P2 : Hid (∀ sp v, Ext w v → Calls Tryz.prog 15 #[S (shL [x0, x1, x2, x3, x4, x5, x6, x7]), .bool sp] v fun e w' => e = .returned (.tuple #[S (shL [x0, x1, x2, x3, x4, x5, x6, x7]), .int .i64 0]) ∧ Ext v w') := fun sp v hv => by
    have := hparse_any (shL [x0, x1, x2, x3, x4, x5, x6, x7]) sp v hTl (unhide TB v hv)
    rw [host_sh sp rfl hsm] at this
    exact this
  have I1 : Hid (∀ v, Ext w v → Calls Tryz.prog 17 #[S (shw a)] v fun e w' => e = .returned (.tuple #[.int .u32 (a : Int), .bool true]) ∧ Ext v w') := fun v hv => by
    have := hip4_any (shw a) v (by omega) (unhide TB v hv).eight.four
    rw [ip4_shw a ha] at this
    exact this
  have I2 : Hid (∀ v, Ext w v → Calls Tryz.prog 19 #[S (shL [x0, x1, x2, x3, x4, x5, x6, x7])] v fun e w' => e = .returned (.tuple #[.agg #[U x0, U x1, U x2, U x3, U x4, U x5, U x6, U x7], .bool true]) ∧ Ext v w') := fun v hv => by
    have := hip6_any (shL [x0, x1, x2, x3, x4, x5, x6, x7]) v hTl (unhide TB v hv).eight
    rw [ip6_sh rfl hsm] at this
    exact this
  have I3 : Hid (∀ v, Ext w v → Calls Tryz.prog 17 #[S (shL [x0, x1, x2, x3, x4, x5, x6, x7])] v fun e w' => e = .returned (.tuple #[.int .u32 0, .bool false]) ∧ Ext v w') := fun v hv => by
    have := hip4_any (shL [x0, x1, x2, x3, x4, x5, x6, x7]) v hTl (unhide TB v hv).eight.four
    rw [ip4_sh] at this
    exact this
  have I4 : Hid (∀ v, Ext w v → Calls Tryz.prog 19 #[S (shw a)] v fun e w' => e = .returned (.tuple #[.agg #[.int .u16 0, .int .u16 0, .int .u16 0, .int .u16 0, .int .u16 0, .int .u16 0, .int .u16 0, .int .u16 0], .bool false]) ∧ Ext v w') := fun v hv => by
    have := hip6_any (shw a) v (by omega) (unhide TB v hv).eight
    rw [ip6_shw] at this
    exact this
  have hcat : shL [x0, x1, x2, x3, x4, x5, x6, x7] = ([91] ++ shw6 [x0, x1, x2, x3, x4, x5, x6, x7]) ++ [93] := rfl
  have HCAT := hide hcat
  clear tb TB hsm hcat hTl hbl hs4
  generalize shL [x0, x1, x2, x3, x4, x5, x6, x7] = T at *
  generalize shw6 [x0, x1, x2, x3, x4, x5, x6, x7] = z at *
  generalize shw a = s4 at *
  generalize bdg 10 a = tt at *
  have HA := hide hA
  have HX := hide hxa
  have HL6 := hide hs6
  clear hA hxa hs6
  have hcv : IntKind.u64.wrap (a : Int) = (a : Int) := by rw [IntKind.wrap_u64]; omega
  go_enter Tryz.func6, Tryz.ntmps6
  go_wp2_with fail
  refine (unhide HB).mono ?_
  rintro e w1 ⟨rfl, hx1⟩
  clear HB
  have HA1 := hide (heap_ext (unhide HA) hx1)
  have HX1 := hide ((unhide HX).trans hx1)
  clear HA HX hx1
  go_wp2_with fail
  refine wp_region_open24 (A := knows [(23, isF (.int .u32 (a : Int))), (24, isF (S s4)), (25, isF (.agg #[U x0, U x1, U x2, U x3, U x4, U x5, U x6, U x7])), (26, isF (S z)), (27, isF (S ([91] ++ z))), (28, isF (S T)), (5, isF (S s4)), (6, isF (S T))]) [23, 24, 25, 26, 27, 28, 5, 6] (by kernel_rfl) (by kernel_rfl) (by kernel_rfl) (knows_mono _) (steps_of ?_) ?_
  · skip
    refine allOps_cons (ok_fixed (.inl rfl) rfl 0 (.int .u32 (a : Int)) (.inl rfl) (by kernel_rfl) rfl (fun _ _ => rfl)) ?_
    refine allOps_cons (ok_is (.inl rfl) rfl 21 #[.tmp 23] _ (fun args v => run_enter 21 Tryz.f21 Tryz.func21 (by kernel_rfl) (by kernel_rfl) args v) rfl (S s4) (fun b v hx hf hd => by
      rw [argsT1, show b.tmps.getD 23 undef = .int .u32 (a : Int) from hd 23 (by kernel_rfl)]
      exact unhide R4 v) (fun _ => rfl)) ?_
    refine allOps_cons (ok_loadf (.inl rfl) rfl 3 36 rfl (by kernel_rfl) (.pointer (some ⟨w.heap.size, 0, none⟩)) (.agg #[U x0, U x1, U x2, U x3, U x4, U x5, U x6, U x7]) rfl (fun v hv => load_8q (heap_ext (unhide HA1) hv)) (fun _ => rfl)) ?_
    refine allOps_cons (ok_is (.inl rfl) rfl 22 #[.tmp 25] _ (fun args v => run_enter 22 Tryz.f22 Tryz.func22 (by kernel_rfl) (by kernel_rfl) args v) rfl (S z) (fun b v hx hf hd => by
      rw [argsT1, show b.tmps.getD 25 undef = .agg #[U x0, U x1, U x2, U x3, U x4, U x5, U x6, U x7] from hd 25 (by kernel_rfl)]
      exact unhide R6 v) (fun _ => rfl)) ?_
    refine allOps_cons (ok_catL (.inl rfl) rfl [91] 26 _ _ rfl (by kernel_rfl) z (by have := unhide HL6; simp; omega) (fun _ _ h => h) (fun _ => rfl)) ?_
    refine allOps_cons (ok_catR (.inl rfl) rfl 27 [93] _ _ rfl (by kernel_rfl) ([91] ++ z) (by have := unhide HL6; simp; omega) (fun _ _ h => h) (fun _ => by rw [unhide HCAT]; rfl)) ?_
    refine allOps_cons (ok_move (.inl rfl) rfl 24 (.inr rfl) (by kernel_rfl) (fun _ _ h => h)) ?_
    refine allOps_cons (ok_move (.inl rfl) rfl 28 (.inr rfl) (by kernel_rfl) (fun _ _ h => h)) ?_
    exact allOps_nil
  · intro vs wz hx hkn
    have h5 : vs 5 = S s4 := hkn 5 rfl
    have h6 : vs 6 = S T := hkn 6 rfl
    have HXz := hide ((unhide HX1).trans hx)
    have HAz := hide (heap_ext (unhide HA1) hx)
    have HZ1 := hide (Ext.refl wz)
    have RT1 := hide (unhide RT wz)
    simp only [putAll, h5, h6, Act.put, List.setIfInBounds_toArray, List.set_cons_succ, List.set_cons_zero]
    clear hkn h5 h6 hx HX1 HA1 R4 R6 RT HCAT HL6
    go_wp2_with fail
    refine (unhide RT1).mono ?_
    rintro e w2 ⟨rfl, hy⟩
    clear RT1
    have HX2 := hide ((unhide HXz).trans hy)
    have HZw2 := hide ((unhide HZ1).trans hy)
    clear HZ1
    have G := hide (unhide P1 w2 (unhide HX2))
    clear P1 HXz hy
    go_wp2_with fail
    refine (unhide G).mono ?_
    rintro e w3 ⟨rfl, hy⟩
    have HX3 := hide ((unhide HX2).trans hy)
    have HZw3 := hide ((unhide HZw2).trans hy)
    clear HZw2
    clear G HX2 hy
    have G := hide (unhide P2 true w3 (unhide HX3))
    go_wp2_with fail
    refine (unhide G).mono ?_
    rintro e w4 ⟨rfl, hy⟩
    have HX4 := hide ((unhide HX3).trans hy)
    have HZw4 := hide ((unhide HZw3).trans hy)
    clear HZw3
    clear G HX3 hy
    have G := hide (unhide P2 false w4 (unhide HX4))
    clear P2
    go_wp2_with fail
    refine (unhide G).mono ?_
    rintro e w5 ⟨rfl, hy⟩
    have HX5 := hide ((unhide HX4).trans hy)
    have HZw5 := hide ((unhide HZw4).trans hy)
    clear HZw4
    clear G HX4 hy
    have G := hide (unhide I1 w5 (unhide HX5))
    clear I1
    go_wp2_with fail
    refine (unhide G).mono ?_
    rintro e w6 ⟨rfl, hy⟩
    have HX6 := hide ((unhide HX5).trans hy)
    have HZw6 := hide ((unhide HZw5).trans hy)
    clear HZw5
    clear G HX5 hy
    have G := hide (unhide I2 w6 (unhide HX6))
    clear I2
    go_wp2_with fail
    refine (unhide G).mono ?_
    rintro e w7 ⟨rfl, hy⟩
    have HX7 := hide ((unhide HX6).trans hy)
    have HZw7 := hide ((unhide HZw6).trans hy)
    clear G HX6 HZw6 hy
    have hal := Ext.alloc w7 (.cells #[U x0, U x1, U x2, U x3, U x4, U x5, U x6, U x7] 36)
    have hnw := alloc_new w7 (.cells #[U x0, U x1, U x2, U x3, U x4, U x5, U x6, U x7] 36)
    have HX8 := hide ((unhide HX7).trans hal)
    have HB8 := hide (heap_ext (unhide HAz) ((unhide HZw7).trans hal))
    have HN8 := hide hnw
    have G := hide (unhide I3 _ (unhide HX8))
    clear I3 HX7 HZw7 hal hnw HAz
    go_wp2_with fail
    refine (unhide G).mono ?_
    rintro e w9 ⟨rfl, hy⟩
    have HX9 := hide ((unhide HX8).trans hy)
    have HB9 := hide (heap_ext (unhide HB8) hy)
    have HN9 := hide (heap_ext (unhide HN8) hy)
    have G2 := hide (unhide I4 w9 (unhide HX9))
    clear G I4 HX8 HB8 HN8 hy
    go_wp2_with fail
    refine (unhide G2).mono ?_
    rintro e w10 ⟨rfl, hy⟩
    have hal := Ext.alloc w10 (.cells #[.int .u16 0, .int .u16 0, .int .u16 0, .int .u16 0, .int .u16 0, .int .u16 0, .int .u16 0, .int .u16 0] 36)
    have HXE := hide (((unhide HX9).trans hy).trans hal)
    obtain ⟨d0, d1, d2, d3, d4, d5, d6, d7⟩ := cells8of (heap_ext (unhide HB9) (hy.trans hal))
    obtain ⟨n0, n1, n2, n3, n4, n5, n6, n7⟩ := cells8of (heap_ext (unhide HN9) (hy.trans hal))
    have heq := fun v => eql8 v (x0 : Int) (x1 : Int) (x2 : Int) (x3 : Int) (x4 : Int) (x5 : Int) (x6 : Int) (x7 : Int)
    clear G2 HX9 HB9 HN9 hy hal
    go_wp2
    go_ret
    exact ⟨rfl, unhide HXE⟩
end Go.Proofs.YtenlampiiodkhaaGreatDoor
namespace Go.Proofs.YtenlampiiodkhaaGreatDoor
set_option linter.unusedVariables false
open Go.RowKit

def fromH : List (List UInt8) := [[97], [37, 54, 49], [65, 37, 50, 101, 66], [48, 120, 55, 70, 46, 49], [91, 49, 58, 58, 48, 58, 48, 93], [195, 188], [37, 67, 51, 37, 66, 67], [49, 46, 50, 46, 51, 46, 52, 46]]
def toH : List (List UInt8) := [[97], [97], [97, 46, 98], [49, 50, 55, 46, 48, 46, 48, 46, 49], [91, 49, 58, 58, 93], [120, 110, 45, 45, 116, 100, 97], [120, 110, 45, 45, 116, 100, 97], [49, 46, 50, 46, 51, 46, 52]]
def badH : List (List UInt8) := [[], [97, 32, 98], [97, 37, 50, 48, 98], [37], [97, 37, 48, 48], [91], [91, 93], [91, 58, 58, 49], [91, 103, 93], [49, 46, 50, 46, 51, 46, 52, 46, 53], [97, 46, 48, 57], [97, 46, 50, 53, 54, 46, 48, 120, 49, 102, 102, 102, 102, 102, 102, 102, 102], [37, 102, 102]]
theorem fromH_all : ∀ i : Fin 8, hostF true (fromH.getD i.val []) = some (toH.getD i.val []) ∧ (fromH.getD i.val []).length ≤ 100000 := by decide +kernel
theorem badH_all : ∀ i : Fin 13, hostF true (badH.getD i.val []) = none ∧ (badH.getD i.val []).length ≤ 100000 := by decide +kernel
theorem hf_1 : hostF false [65, 37, 52, 49, 195, 188, 1] = some [65, 37, 52, 49, 37, 67, 51, 37, 66, 67, 37, 48, 49] := by decide +kernel
theorem hf_2 : hostF false [] = some [] := by decide +kernel
theorem hf_3 : hostF false [97, 32, 98] = none := by decide +kernel
theorem hf_4 : hostF false [97, 0] = none := by decide +kernel
theorem hf_5 : hostF false [91, 58, 58] = none := by decide +kernel

set_option maxHeartbeats 4000000 in
set_option maxRecDepth 100000 in
theorem forms9_walk (w : World) (tb : Tb9 w) : Calls Tryz.prog 7 #[] w fun e w' => e = .returned (.bool true) ∧ Ext w w' := by
  have HB := hide (begun9_yes w tb)
  have TB := hide (fun (w' : World) (hx : Ext w w') => tb.below hx)
  clear tb
  go_enter Tryz.func7, Tryz.ntmps7
  go_wp2_with fail
  refine (unhide HB).mono ?_
  rintro e w1 ⟨rfl, hx1⟩
  clear HB
  have rG : RdV (w1.alloc (.cells (fromH.map S).toArray 9 (0, 0))) (some ⟨w1.heap.size, 0, none⟩) 8 (fromH.map S) := RdV.lit w1 (fromH.map S) 9 (0, 0) (by decide)
  have xG := Ext.alloc w1 (.cells (fromH.map S).toArray 9 (0, 0))
  have sG : (w1.alloc (.cells (fromH.map S).toArray 9 (0, 0))).heap.size = w1.heap.size + 1 := by simp
  have rN := RdV.lit (w1.alloc (.cells (fromH.map S).toArray 9 (0, 0))) (toH.map S) 9 (0, 0) (by decide)
  have xN := Ext.alloc (w1.alloc (.cells (fromH.map S).toArray 9 (0, 0))) (.cells (toH.map S).toArray 9 (0, 0))
  rw [sG] at rN
  have rG2 := rG.below xN
  have hx2 := hx1.trans (xG.trans xN)
  clear xG xN rG sG
  have RG := hide rG2
  have RN := hide rN
  have HX := hide hx2
  clear rG2 rN hx2
  obtain ⟨w2, hw2⟩ : ∃ w2, w2 = (w1.alloc (.cells (fromH.map S).toArray 9 (0, 0))).alloc (.cells (toH.map S).toArray 9 (0, 0)) := ⟨_, rfl⟩
  rw [← hw2] at RG RN HX
  have HW2 := hide hw2
  clear hw2
  obtain ⟨b1, hb1⟩ : ∃ b1, b1 = w1.heap.size := ⟨_, rfl⟩
  rw [← hb1] at RG RN
  have HB1 := hide hb1
  clear hb1
  go_wp2_with fail
  go_loopw [3] (fun i wr => ∃ (k : Nat), k ≤ 8 ∧ i = .int .i64 k ∧ Ext w2 wr) (fun i _ => 8 - (intOf i).toNat)
  case atStart => exact ⟨0, by omega, rfl, by rw [unhide HW2]; exact Ext.refl _⟩
  case round =>
    obtain ⟨k, hk, rfl, hxr⟩ := hrel
    rw [← unhide HB1]
    by_cases hkl : k < 8
    · have hkl' : (k : Int) < 8 := by omega
      obtain ⟨g1, g3⟩ := fromH_all ⟨k, hkl⟩
      simp only at g1 g3
      have c1 : wr.cell? ⟨b1, k, none⟩ = some (S (fromH.getD k [])) := by
        obtain ⟨b', off', eb, hc⟩ := ((unhide RG).below hxr).cell k hkl
        simp only [Option.some.injEq, Addr.mk.injEq] at eb
        obtain ⟨rfl, rfl, _⟩ := eb
        rw [Nat.zero_add] at hc
        rw [hc, List.getElem?_map, List.getElem?_eq_getElem (show k < fromH.length from hkl)]
        simp [List.getD, show k < fromH.length from hkl]
      have c2 : wr.cell? ⟨b1 + 1, k, none⟩ = some (S (toH.getD k [])) := by
        obtain ⟨b', off', eb, hc⟩ := ((unhide RN).below hxr).cell k hkl
        simp only [Option.some.injEq, Addr.mk.injEq] at eb
        obtain ⟨rfl, rfl, _⟩ := eb
        rw [Nat.zero_add] at hc
        rw [hc, List.getElem?_map, List.getElem?_eq_getElem (show k < toH.length from hkl)]
        simp [List.getD, show k < toH.length from hkl]
      have H1 : Hid (Calls Tryz.prog 15 #[S (fromH.getD k []), .bool true] wr fun e w' => e = .returned (.tuple #[S (toH.getD k []), .int .i64 0]) ∧ Ext wr w') := hparse_lit _ true _ g1 g3 wr (unhide TB wr ((unhide HX).trans hxr))
      have XX := hide hxr
      clear g1 g3 hxr
      generalize fromH.getD k [] = p at *
      generalize toH.getD k [] = n at *
      have C2 := hide (fun (v : World) (hx : Ext wr v) => (show v.cell? ⟨b1 + 1, k, none⟩ = some (S n) from (hx.cell (p := ⟨b1 + 1, k, none⟩) (cell_lt c2)).trans c2))
      clear c2
      go_wp2_with fail
      refine (unhide H1).mono ?_
      rintro e w3 ⟨rfl, hx3⟩
      clear H1 c1
      have c2 := unhide C2 w3 hx3
      have X2 := hide ((unhide XX).trans hx3)
      clear XX hx3 C2
      go_wp2
      exact ⟨⟨k + 1, by omega, by simp, unhide X2⟩, (show 8 - ((k : Int) + 1).toNat < 8 - ((k : Int)).toNat by omega)⟩
    · have hkl' : ¬ (k : Int) < 8 := by omega
      have rB := RdV.lit wr (badH.map S) 9 (0, 0) (by decide)
      have xB := Ext.alloc wr (.cells (badH.map S).toArray 9 (0, 0))
      have HY := hide (((unhide HX).trans hxr).trans xB)
      have RB := hide rB
      clear rB xB hxr
      obtain ⟨w5, hw5⟩ : ∃ w5, w5 = wr.alloc (.cells (badH.map S).toArray 9 (0, 0)) := ⟨_, rfl⟩
      rw [← hw5] at RB HY
      have HW5 := hide hw5
      clear hw5
      obtain ⟨b2, hb2⟩ : ∃ b2, b2 = wr.heap.size := ⟨_, rfl⟩
      rw [← hb2] at RB
      have HB2 := hide hb2
      clear hb2
      go_wp2_with fail
      go_loopw [7] (fun i wq => ∃ (k : Nat), k ≤ 13 ∧ i = .int .i64 k ∧ Ext w5 wq) (fun i _ => 13 - (intOf i).toNat)
      case atStart => exact ⟨0, by omega, rfl, by rw [unhide HW5]; exact Ext.refl _⟩
      case round =>
        obtain ⟨j, hj, rfl, hxq⟩ := hrel
        rw [← unhide HB2]
        by_cases hjl : j < 13
        · have hjl' : (j : Int) < 13 := by omega
          obtain ⟨g1, g3⟩ := badH_all ⟨j, hjl⟩
          simp only at g1 g3
          have c1 : wr.cell? ⟨b2, j, none⟩ = some (S (badH.getD j [])) := by
            obtain ⟨b', off', eb, hc⟩ := ((unhide RB).below hxq).cell j hjl
            simp only [Option.some.injEq, Addr.mk.injEq] at eb
            obtain ⟨rfl, rfl, _⟩ := eb
            rw [Nat.zero_add] at hc
            rw [hc, List.getElem?_map, List.getElem?_eq_getElem (show j < badH.length from hjl)]
            simp [List.getD, show j < badH.length from hjl]
          have H1 : Hid (Calls Tryz.prog 15 #[S (badH.getD j []), .bool true] wr fun e w' => e = .returned (.tuple #[.string ⟨#[]⟩, .int .i64 5]) ∧ Ext wr w') := hparse_lit _ true _ g1 g3 wr (unhide TB wr ((unhide HY).trans hxq))
          have XX := hide hxq
          clear g1 g3 hxq
          generalize badH.getD j [] = p at *
          go_wp2_with fail
          refine (unhide H1).mono ?_
          rintro e w6 ⟨rfl, hx6⟩
          clear H1 c1
          have X2 := hide ((unhide XX).trans hx6)
          clear XX hx6
          go_wp2
          exact ⟨⟨j + 1, by omega, by simp, unhide X2⟩, (show 13 - ((j : Int) + 1).toNat < 13 - ((j : Int)).toNat by omega)⟩
        · have hjl' : ¬ (j : Int) < 13 := by omega
          have HZ := hide ((unhide HY).trans hxq)
          have H1 : Hid (∀ v, Ext w v → Calls Tryz.prog 15 #[.string ⟨#[65, 37, 52, 49, 195, 188, 1]⟩, .bool false] v fun e w' => e = .returned (.tuple #[.string ⟨#[65, 37, 52, 49, 37, 67, 51, 37, 66, 67, 37, 48, 49]⟩, .int .i64 0]) ∧ Ext v w') := fun v hv => hparse_lit _ _ _ hf_1 (by decide) v (unhide TB v hv)
          have H2 : Hid (∀ v, Ext w v → Calls Tryz.prog 15 #[.string ⟨#[]⟩, .bool false] v fun e w' => e = .returned (.tuple #[.string ⟨#[]⟩, .int .i64 0]) ∧ Ext v w') := fun v hv => hparse_lit _ _ _ hf_2 (by decide) v (unhide TB v hv)
          have H3 : Hid (∀ v, Ext w v → Calls Tryz.prog 15 #[.string ⟨#[97, 32, 98]⟩, .bool false] v fun e w' => e = .returned (.tuple #[.string ⟨#[]⟩, .int .i64 5]) ∧ Ext v w') := fun v hv => hparse_lit _ _ _ hf_3 (by decide) v (unhide TB v hv)
          have H4 : Hid (∀ v, Ext w v → Calls Tryz.prog 15 #[.string ⟨#[97, 0]⟩, .bool false] v fun e w' => e = .returned (.tuple #[.string ⟨#[]⟩, .int .i64 5]) ∧ Ext v w') := fun v hv => hparse_lit _ _ _ hf_4 (by decide) v (unhide TB v hv)
          have H5 : Hid (∀ v, Ext w v → Calls Tryz.prog 15 #[.string ⟨#[91, 58, 58]⟩, .bool false] v fun e w' => e = .returned (.tuple #[.string ⟨#[]⟩, .int .i64 5]) ∧ Ext v w') := fun v hv => hparse_lit _ _ _ hf_5 (by decide) v (unhide TB v hv)
          have G := hide (unhide H1 _ (unhide HZ))
          clear hxq H1 TB
          go_wp2_with fail
          refine (unhide G).mono ?_
          rintro e v1 ⟨rfl, hy⟩
          have HZ1 := hide ((unhide HZ).trans hy)
          clear G HZ hy
          have G := hide (unhide H2 _ (unhide HZ1))
          clear H2
          go_wp2_with fail
          refine (unhide G).mono ?_
          rintro e v2 ⟨rfl, hy⟩
          have HZ2 := hide ((unhide HZ1).trans hy)
          clear G HZ1 hy
          have G := hide (unhide H3 _ (unhide HZ2))
          clear H3
          go_wp2_with fail
          refine (unhide G).mono ?_
          rintro e v3 ⟨rfl, hy⟩
          have HZ3 := hide ((unhide HZ2).trans hy)
          clear G HZ2 hy
          have G := hide (unhide H4 _ (unhide HZ3))
          clear H4
          go_wp2_with fail
          refine (unhide G).mono ?_
          rintro e v4 ⟨rfl, hy⟩
          have HZ4 := hide ((unhide HZ3).trans hy)
          clear G HZ3 hy
          have G := hide (unhide H5 _ (unhide HZ4))
          clear H5
          go_wp2_with fail
          refine (unhide G).mono ?_
          rintro e v5 ⟨rfl, hy⟩
          have HZ5 := hide ((unhide HZ4).trans hy)
          clear G HZ4 hy
          go_wp2
          go_ret
          exact ⟨rfl, unhide HZ5⟩
end Go.Proofs.YtenlampiiodkhaaGreatDoor
