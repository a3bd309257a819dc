/-
  I6A, I6U, I6B, I6C.
-/
import Derived.Test.YtenlampiiodkhaaGreatDoorI6Rc
import Derived.Test.YtenlampiiodkhaaGreatDoorBMc
import Derived.Laws.IdiomStrings
import Derived.Laws.CopyOwn
import Derived.Deep.RegionLaw
import Derived.BigRegion
import Derived.Test.YtenlampiiodkhaaGreatDoorBNc
namespace Go.Proofs.YtenlampiiodkhaaGreatDoor
set_option linter.unusedVariables false
open Go.RowKit
structure Tb8 (w : World) : Prop where
  four : Tb4 w
  tz : w.cell? ⟨7, 15, none⟩ = some (.int .u8 4)
  es : ∃ te pe, w.cell? ⟨8, 0, none⟩ = some (.iface te pe)
theorem Tb8.below {w w' : World} (h : Tb8 w) (hx : Ext w w') : Tb8 w' :=
  ⟨h.four.below hx, (hx.cell (p := ⟨7, 15, none⟩) (cell_lt h.tz)).trans h.tz, by
    obtain ⟨te, pe, he⟩ := h.es; exact ⟨te, pe, (hx.cell (p := ⟨8, 0, none⟩) (cell_lt he)).trans he⟩⟩
def TbF (b : Nat) (w : World) : Prop := ∀ w', Below b w w' → Tb8 w'
theorem TbF.on {b : Nat} {w w' : World} (h : TbF b w) (hb : Below b w w') : TbF b w' := fun w2 h2 => h w2 (hb.trans h2)
theorem TbF.tb {b : Nat} {w : World} (h : TbF b w) : Tb8 w := h w (Below.refl _ _)
theorem TbF.of {b : Nat} {w : World} (h : Tb8 w) (hb : w.heap.size ≤ b) : TbF b w := fun w' hx => h.below (Below.mono hx hb)
def rdX (s : List UInt8) (k : Nat) (ps : List Nat) (g : Int) : Array Value := #[S s, .int .i64 (k : Int), U (ps.getD 0 0), U (ps.getD 1 0), U (ps.getD 2 0), U (ps.getD 3 0), U (ps.getD 4 0), U (ps.getD 5 0), U (ps.getD 6 0), U (ps.getD 7 0), .int .i64 (ps.length : Int), .int .i64 g]
def Rd (W : World) (b : Nat) (s : List UInt8) (k : Nat) (ps : List Nat) (g : Int) : Prop := W.heap[b]? = some (.cells (rdX s k ps g) 128 (0, 0))
theorem Rd.lt {W : World} {b : Nat} {s : List UInt8} {k : Nat} {ps : List Nat} {g : Int} (h : Rd W b s k ps g) : b < W.heap.size := by
  rcases Nat.lt_or_ge b W.heap.size with h' | h'
  · exact h'
  · unfold Rd at h; rw [Array.getElem?_eq_none h'] at h
    cases h
theorem Rd.cell {W : World} {b : Nat} {s : List UInt8} {k : Nat} {ps : List Nat} {g : Int} (h : Rd W b s k ps g) (i : Nat) : W.cell? ⟨b, i, none⟩ = (rdX s k ps g)[i]? := by
  unfold Rd at h; simp [World.cell?, h]
theorem Rd.froz {W : World} {b : Nat} {s : List UInt8} {k : Nat} {ps : List Nat} {g : Int} (h : Rd W b s k ps g) (i : Nat) : W.frozen? ⟨b, i, none⟩ = false := by
  unfold Rd at h; simp [World.frozen?, h]
theorem Rd.text {W : World} {b : Nat} {s : List UInt8} {k : Nat} {ps : List Nat} {g : Int} (h : Rd W b s k ps g) : W.cell? ⟨b, 0, none⟩ = some (S s) := h.cell 0
theorem Rd.at {W : World} {b : Nat} {s : List UInt8} {k : Nat} {ps : List Nat} {g : Int} (h : Rd W b s k ps g) : W.cell? ⟨b, 1, none⟩ = some (.int .i64 (k : Int)) := h.cell 1
theorem Rd.count {W : World} {b : Nat} {s : List UInt8} {k : Nat} {ps : List Nat} {g : Int} (h : Rd W b s k ps g) : W.cell? ⟨b, 10, none⟩ = some (.int .i64 (ps.length : Int)) := h.cell 10
theorem Rd.gap {W : World} {b : Nat} {s : List UInt8} {k : Nat} {ps : List Nat} {g : Int} (h : Rd W b s k ps g) : W.cell? ⟨b, 11, none⟩ = some (.int .i64 g) := h.cell 11
theorem Rd.drewN {W : World} {b : Nat} {s : List UInt8} {k : Nat} {ps : List Nat} {g : Int} (h : Rd W b s k ps g) (n : Nat) : Rd (W.drewN n) b s k ps g := h
theorem Rd.ext {W W' : World} {b : Nat} {s : List UInt8} {k : Nat} {ps : List Nat} {g : Int} (h : Rd W b s k ps g) (hx : Ext W W') : Rd W' b s k ps g := (hx.block b h.lt).trans h
theorem Rd.setAt {W : World} {b : Nat} {s : List UInt8} {k : Nat} {ps : List Nat} {g : Int} (h : Rd W b s k ps g) (k' : Nat) : Rd (W.setCell ⟨b, 1, none⟩ (.int .i64 (k' : Int))) b s k' ps g := by
  unfold Rd at *; simp [World.setCell, Array.getElem?_modify, h]; rfl
theorem Rd.setGap {W : World} {b : Nat} {s : List UInt8} {k : Nat} {ps : List Nat} {g : Int} (h : Rd W b s k ps g) (g' : Int) : Rd (W.setCell ⟨b, 11, none⟩ (.int .i64 g')) b s k ps g' := by
  unfold Rd at *; simp [World.setCell, Array.getElem?_modify, h]; rfl
theorem below_set {B b i : Nat} {v : Value} {w : World} (hB : B ≤ b) : Below B w (w.setCell ⟨b, i, none⟩ v) :=
  ⟨rfl, rfl, rfl, by simp [World.setCell], fun k hk => by simp [World.setCell, Array.getElem?_modify, show b ≠ k by omega]⟩
def wdO (s : List UInt8) : List UInt8 := (Lib.cut s [58]).1
theorem wd_facts (s : List UInt8) : noCol (wdO s) ∧ s = wdO s ++ s.drop (wdO s).length ∧ (s.drop (wdO s).length = [] ∨ ∃ r, s.drop (wdO s).length = 58 :: r) := by
  unfold wdO Lib.cut; have hge := Lib.indexByte_ge s 58; by_cases h : Lib.indexByte s 58 = -1
  · have h2 : ¬ 0 ≤ Lib.index s [58] := by rw [Lib.index_one]; omega
    rw [if_neg h2]; refine ⟨fun x hx e => ?_, by simp, .inl (by simp)⟩; obtain ⟨j, hj, rfl⟩ := List.mem_iff_getElem.1 hx; have := Lib.indexByte_none h j; rw [List.getElem?_eq_getElem hj, e] at this; exact this rfl
  · obtain ⟨o, ho⟩ : ∃ o : Nat, Lib.indexByte s 58 = o := ⟨(Lib.indexByte s 58).toNat, by omega⟩; have h2 : 0 ≤ Lib.index s [58] := by rw [Lib.index_one]; omega
    rw [if_pos h2]; obtain ⟨h3, h4⟩ := Lib.indexByte_some ho; have hol : o < s.length := (List.getElem?_eq_some_iff.1 h3).1; have e : (Lib.index s [58]).toNat = o := by rw [Lib.index_one, ho]; rfl
    rw [e]; have hl : (s.take o).length = o := by rw [List.length_take]; omega
    refine ⟨fun x hx e => ?_, by rw [hl, List.take_append_drop], .inr ⟨s.drop (o + 1), ?_⟩⟩
    · obtain ⟨j, hj, rfl⟩ := List.mem_iff_getElem.1 hx; rw [hl] at hj; rw [List.getElem_take] at e; have := h4 j hj; rw [List.getElem?_eq_getElem (by omega), e] at this; exact this rfl
    · show s.drop (s.take o).length = _; rw [hl, List.drop_eq_getElem_cons hol]; congr 1; rw [List.getElem?_eq_getElem hol] at h3; exact Option.some.inj h3
theorem wd_len (s : List UInt8) : (wdO s).length ≤ s.length := by
  have := (wd_facts s).2.1; have := congrArg List.length this; rw [List.length_append] at this; omega
theorem has_46 (p : List UInt8) : decide (0 ≤ Lib.indexByte p 46) = decide ((46 : UInt8) ∈ p) := by
  have hge := Lib.indexByte_ge p 46; by_cases h : Lib.indexByte p 46 = -1
  · have h2 : ¬ (46 : UInt8) ∈ p := fun hx => by
      obtain ⟨j, hj, e⟩ := List.mem_iff_getElem.1 hx; have := Lib.indexByte_none h j; rw [List.getElem?_eq_getElem hj, e] at this; exact this rfl
    rw [decide_eq_false h2, decide_eq_false (by omega)]
  · obtain ⟨o, ho⟩ : ∃ o : Nat, Lib.indexByte p 46 = o := ⟨(Lib.indexByte p 46).toNat, by omega⟩; have h2 : (46 : UInt8) ∈ p := List.mem_of_getElem? (Lib.indexByte_some ho).1; rw [decide_eq_true h2, decide_eq_true (by omega)]
set_option maxHeartbeats 1000000 in
set_option maxRecDepth 100000 in
theorem ended_any (b : Nat) (s : List UInt8) (k : Nat) (ps : List Nat) (g : Int) (W : World) (h : Rd W b s k ps g) (hk : k ≤ s.length) (hs : s.length ≤ 100000) :
    Calls Tryz.prog 161 #[.pointer (some ⟨b, 0, none⟩)] W fun e w' => e = .returned (.bool (decide (s.drop k = []))) ∧ Rd w' b s k ps g ∧ Below b W w' := by
  have c0 := h.text; have c1 := h.at; have hsz := size_S s; have e1 : ((k : Int) == (s.length : Int)) = decide (s.drop k = []) := by
    by_cases hq : k = s.length
    · rw [decide_eq_true (by rw [hq]; simp)]; simp [hq]
    · rw [decide_eq_false (by simp; omega)]; rw [beq_eq_false_iff_ne]; omega
  have HR := hide h; clear h; generalize decide (s.drop k = []) = z at *; go_enter Tryz.func161, Tryz.ntmps161; go_wp2_with fail
  go_quiet (fail)
  go_wp2; go_ret; exact ⟨rfl, (unhide HR).drewN _, below_drewN (Below.refl _ _) _⟩
set_option maxHeartbeats 2000000 in
set_option maxRecDepth 100000 in
theorem take_any (b : Nat) (s : List UInt8) (k : Nat) (ps : List Nat) (g : Int) (c : List UInt8) (W : World) (h : Rd W b s k ps g) (hk : k ≤ s.length) (hs : s.length ≤ 100000) (hc : c.length ≤ 2) :
    Calls Tryz.prog 160 #[.pointer (some ⟨b, 0, none⟩), S c] W fun e w' => e = .returned (.bool (c.isPrefixOf (s.drop k))) ∧ Rd w' b s (if c.isPrefixOf (s.drop k) = true then k + c.length else k) ps g ∧ Below b W w' := by
  have c0 := h.text; have c1 := h.at; have f1 := h.froz 1; have hsz := size_S s; have hsc := size_S c; have HD := hide (fun v => run_drop v s k hk); have HP : Hid (∀ w, Calls Tryz.prog 40 #[S (s.drop k), S c] w fun e w' => e = .returned (.bool (c.isPrefixOf (s.drop k))) ∧ w' = w) := fun w => Tryz.strings_HasPrefix ⟨(s.drop k).toArray⟩ ⟨c.toArray⟩ w; have HR := hide h; clear h; generalize c.isPrefixOf (s.drop k) = z at *; generalize s.drop k = t at *; go_enter Tryz.func160, Tryz.ntmps160; have hd := unhide HD; go_wp2_with fail
  go_quiet ((go_at_call 40; exact Calls.quiet_of_same (unhide HP _)))
  cases z with
  | false =>
    clear HP HD hd; go_wp2; go_ret; exact ⟨rfl, (unhide HR).drewN _, below_drewN (Below.refl _ _) _⟩
  | true =>
    clear HP HD hd; have HR2 := hide (((unhide HR).drewN nq).setAt (k + c.length)); have HB2 : Hid (Below b W ((W.drewN nq).setCell ⟨b, 1, none⟩ (.int .i64 ((k + c.length : Nat) : Int)))) := (below_drewN (Below.refl _ _) _).trans (below_set (Nat.le_refl _)); rw [show ((k + c.length : Nat) : Int) = (k : Int) + (c.length : Int) by omega] at HR2 HB2; go_wp2; go_ret; exact ⟨rfl, unhide HR2, unhide HB2⟩
set_option maxHeartbeats 2000000 in
set_option maxRecDepth 100000 in
theorem word_any (b : Nat) (s : List UInt8) (k : Nat) (ps : List Nat) (g : Int) (W : World) (h : Rd W b s k ps g) (hk : k ≤ s.length) (hs : s.length ≤ 100000) (tb : TbF b W) :
    Calls Tryz.prog 191 #[.pointer (some ⟨b, 0, none⟩)] W fun e w' => e = .returned (S (wdO (s.drop k))) ∧ Rd w' b s (k + (wdO (s.drop k)).length) ps g ∧ Below b W w' := by
  have c0 := h.text; have c1 := h.at; have f1 := h.froz 1; have hsz := size_S s; have HD := hide (fun v => run_drop v s k hk); obtain ⟨m, hm⟩ := tb.tb.four.max; obtain ⟨u, v, HP⟩ : ∃ u v, Hid (∀ q, Calls Tryz.prog 207 #[S (s.drop k), .string ⟨#[58]⟩] (W.drewN q) fun e w' => e = .returned (.tuple #[S (wdO (s.drop k)), u, v]) ∧ ∃ n, w' = (W.drewN q).drewN n) :=
    ⟨_, _, fun q => Tryz.strings_Cut ⟨(s.drop k).toArray⟩ ⟨#[58]⟩ m (W.drewN q) (by rw [size_S]; simp; omega) hm⟩
  have hwl := wd_len (s.drop k); rw [List.length_drop] at hwl; have HR := hide h; clear h; generalize wdO (s.drop k) = z at *; generalize s.drop k = t at *; have hsc := size_S z; go_enter Tryz.func191, Tryz.ntmps191; have hd := unhide HD; go_wp2_with fail
  go_quiet ((go_at_call 207; exact Calls.quiet_of (unhide HP _)))
  clear HP HD hd; have HR2 := hide (((unhide HR).drewN nq).setAt (k + z.length)); have HB2 : Hid (Below b W ((W.drewN nq).setCell ⟨b, 1, none⟩ (.int .i64 ((k + z.length : Nat) : Int)))) := (below_drewN (Below.refl _ _) _).trans (below_set (Nat.le_refl _)); rw [show ((k + z.length : Nat) : Int) = (k : Int) + (z.length : Int) by omega] at HR2 HB2; go_wp2; go_ret; exact ⟨rfl, unhide HR2, unhide HB2⟩
end Go.Proofs.YtenlampiiodkhaaGreatDoor
namespace Go.Proofs.YtenlampiiodkhaaGreatDoor
set_option linter.unusedVariables false
open Go.RowKit
theorem conv_bytes6 (w : World) (bs : List UInt8) (hm : bs.length ≤ 1000000) : ∃ c w', (convert 9 22 (S bs)).run Tryz.prog w = .ok (.slice (some ⟨w.heap.size, 0, none⟩) bs.length c) w' ∧ RdV w' (some ⟨w.heap.size, 0, none⟩) c (bs.map B) ∧ Ext w w' := by
  have hr := run_bytes_of_string (P := Tryz.prog) w 9 22 5 ⟨bs.toArray⟩ Tryz.underlying9 Tryz.underlying22 Tryz.underlying5; have hsz : (⟨bs.toArray⟩ : ByteArray).size = bs.length := by simp [ByteArray.size]
  rw [hsz] at hr; have hle := grownCap_ge w bs.length 0 5; have hmx := grownCap_le_maxLen w bs.length 0 5 (by unfold maxLen; omega); refine ⟨_, _, hr, ⟨by simpa using hle, by unfold maxLen at hmx; omega, fun e => (by cases e), fun i hi => ⟨w.heap.size, 0, rfl, ?_⟩⟩, (Ext.drew w).trans (Ext.alloc w.drew _)⟩; have hi' : i < bs.length := by simpa using hi
  rw [Nat.zero_add]; have e : w.heap.size = w.drew.heap.size := rfl; rw [e, World.cell?_alloc_mark]; unfold bytesRow; rw [Array.getElem?_append_left (by simp; omega)]; simp [B, hi']
def lwV (x : UInt8) : Nat := x.toNat ||| 32
theorem lw_bits : ∀ x : Fin 256, bits .or .u8 ((x.val : Nat) : Int) 32 = ((x.val ||| 32 : Nat) : Int) := by decide +kernel
theorem lower_any (x : UInt8) (w : World) : Calls Tryz.prog 219 #[B x] w fun e w' => e = .returned (.int .u8 (lwV x : Int)) ∧ w' = w := by
  have h := Tryz.internal_strconv_lower (x.toNat : Int) w; rw [lw_bits ⟨x.toNat, x.toNat_lt⟩] at h; exact h
theorem byte_of (p : UInt8 → Prop) (h : ∀ x : Fin 256, p (UInt8.ofNat x.val)) (x : UInt8) : p x := by
  have e : UInt8.ofNat x.toNat = x := by simp
  have := h ⟨x.toNat, x.toNat_lt⟩; simpa only [e] using this
theorem dig_A (x : UInt8) : 48 ≤ x.toNat → x.toNat ≤ 57 → dgV x = x.toNat - 48 := by
  intro h1 h2; unfold dgV; rw [if_pos ⟨h1, h2⟩]
theorem dig_B (x : UInt8) : ¬ (48 ≤ x.toNat ∧ x.toNat ≤ 57) → 97 ≤ lwV x → lwV x ≤ 122 → (lwV x ≤ 102 ∧ dgV x = lwV x - 87) ∨ (102 < lwV x ∧ dgV x = 16) := by
  refine byte_of (fun x => ¬ (48 ≤ x.toNat ∧ x.toNat ≤ 57) → 97 ≤ lwV x → lwV x ≤ 122 → (lwV x ≤ 102 ∧ dgV x = lwV x - 87) ∨ (102 < lwV x ∧ dgV x = 16)) ?_ x; unfold lwV; decide +kernel
theorem dig_C (x : UInt8) : ¬ (48 ≤ x.toNat ∧ x.toNat ≤ 57) → ¬ (97 ≤ lwV x ∧ lwV x ≤ 122) → dgV x = 16 := by
  refine byte_of (fun x => ¬ (48 ≤ x.toNat ∧ x.toNat ≤ 57) → ¬ (97 ≤ lwV x ∧ lwV x ≤ 122) → dgV x = 16) ?_ x; unfold lwV; decide +kernel
theorem lwV_95 (x : UInt8) (h : x.toNat = 95) : lwV x = 127 := by
  unfold lwV; rw [h]; decide
theorem lwV_le (x : UInt8) : lwV x ≤ 255 := by
  refine byte_of (fun x => lwV x ≤ 255) ?_ x; unfold lwV; decide +kernel
theorem val_lt16 : ∀ (l : List UInt8), (∀ x ∈ l, dgV x < 16) → val 16 l < 16 ^ l.length := by
  intro l; rw [← List.reverse_reverse l]; generalize l.reverse = r
  induction r with
  | nil => intro _; decide
  | cons x r ih =>
    intro h; rw [List.reverse_cons] at h ⊢; have h1 := ih fun y hy => h y (by simp at hy ⊢; exact .inl hy); have h2 := h x (by simp); rw [val_snoc, List.length_append, List.length_singleton, Nat.pow_succ]; omega
theorem hexW_is {p : List UInt8} (h0 : p ≠ []) (h4 : p.length ≤ 4) (h : ∀ x ∈ p, dgV x < 16) : hexW p = some (val 16 p) := by
  unfold hexW; rw [if_pos ⟨h0, h4, by unfold okD; rw [List.all_eq_true]; intro x hx; simpa using h x hx⟩]
theorem hexW_not {p : List UInt8} {x : UInt8} (hx : x ∈ p) (h : dgV x = 16) : hexW p = none := by
  unfold hexW; rw [if_neg]; rintro ⟨_, _, h3⟩; unfold okD at h3; rw [List.all_eq_true] at h3; have := h3 x hx; rw [h] at this; simp at this
def numE (o : Option Nat) (bad : Value → Prop) (e : Ending) : Prop :=
  match o with
  | some v => e = .returned (.tuple #[.int .u64 (v : Int), .nilIface])
  | none => ∃ x : Value, bad x ∧ e = .returned (.tuple #[.int .u64 0, x])
set_option maxHeartbeats 4000000 in
set_option maxRecDepth 100000 in
theorem iparse_any (p : List UInt8) (w : World) (hp : p.length ≤ 4) : Calls Tryz.prog 214 #[S p, .int .i64 16, .int .i64 16] w fun e w' => numE (hexW p) (fun x => x = .iface 219 (.int .i64 2)) e ∧ Ext w w' := by
  have yes : ∀ v : Nat, hexW p = some v → numE (hexW p) (fun x => x = .iface 219 (.int .i64 2)) (.returned (.tuple #[.int .u64 (v : Int), .nilIface])) := fun v h => by rw [h]; rfl
  have no : hexW p = none → numE (hexW p) (fun x => x = .iface 219 (.int .i64 2)) (.returned (.tuple #[.int .u64 0, .iface 219 (.int .i64 2)])) := fun h => by rw [h]; exact ⟨_, rfl, rfl⟩
  have NO := hide no; have YES := hide yes; clear no yes; by_cases hp0 : p = []
  · have HN := hide (unhide NO (by rw [hp0]; exact hexW_nil)); clear NO YES; generalize numE (hexW p) (fun x => x = .iface 219 (.int .i64 2)) = Q at *; subst hp0; show Calls Tryz.prog 214 #[.string ⟨#[]⟩, .int .i64 16, .int .i64 16] w _; go_enter Tryz.func214, Tryz.ntmps214; go_wp2; go_ret2; exact ⟨unhide HN, Ext.refl _⟩
  · have hie : p.isEmpty = false := by simpa using hp0
    have HY := hide (fun h => unhide YES _ (hexW_is hp0 hp h)); have HN := hide (fun x (hx : x ∈ p) h => unhide NO (hexW_not hx h)); clear NO YES; generalize numE (hexW p) (fun x => x = .iface 219 (.int .i64 2)) = Q at *; obtain ⟨c, w1, hcv, hrd, hx1⟩ := conv_bytes6 w p (by omega); have HRD := hide hrd; have hsz := size_S p; have hle := hrd.le; have hmx := hrd.max; rw [List.length_map] at hle; clear hrd; go_enter Tryz.func214, Tryz.ntmps214; go_wp2_with fail
    go_loopw [12, 13, 101] (fun u n i wr => ∃ (k : Nat) (v : Int), k ≤ p.length ∧ i = .int .i64 k ∧ u = .bool false ∧ n = .int .u64 v ∧ Hid (∀ x ∈ p.take k, dgV x < 16) ∧ Hid (v = (val 16 (p.take k) : Int)) ∧ wr = w1) (fun _ _ i _ => p.length - (intOf i).toNat)
    case atStart => exact ⟨0, 0, by omega, rfl, rfl, rfl, hide (by simp), hide rfl, rfl⟩
    case round =>
      obtain ⟨k, v, hk, rfl, rfl, rfl, HOK, HV, hw⟩ := hrel; subst hw; by_cases hkl : k < p.length
      · have hkl' : (k : Int) < (p.length : Int) := by omega
        obtain ⟨bb, off, hgo, hc⟩ := (unhide HRD).cells (by simp; omega); simp only [Option.some.injEq, Addr.mk.injEq] at hgo; obtain ⟨rfl, rfl, _⟩ := hgo; have c0 : wr.cell? ⟨w.heap.size, k, none⟩ = some (B (p.getD k 0)) := by
          have := hc k (by simpa using hkl); rw [getB p k hkl, Nat.zero_add] at this; exact this
        clear hc; have HT := hide (take_snoc p k 0 hkl); have HMM := hide (getD_mem p k hkl); have hvb : 0 ≤ v ∧ v < 4096 := by
          have h1 := val_lt16 (p.take k) (unhide HOK); have h2 : (p.take k).length ≤ 3 := by rw [List.length_take]; omega
          have h3 : 16 ^ (p.take k).length ≤ 16 ^ 3 := Nat.pow_le_pow_right (by decide) h2; have h4 := unhide HV; omega
        obtain ⟨hv0, hv1⟩ := hvb; have hxl := (p.getD k 0).toNat_lt; have HSN := hide (fun (hx : dgV (p.getD k 0) < 16) => (show (∀ y ∈ p.take (k + 1), dgV y < 16) ∧ v * 16 + (dgV (p.getD k 0) : Int) = (val 16 (p.take (k + 1)) : Int) by
          rw [unhide HT]; refine ⟨fun y hy => ?_, ?_⟩
          · rcases List.mem_append.1 hy with hy | hy
            · exact unhide HOK y hy
            · rw [List.mem_singleton] at hy; rw [hy]; exact hx
          · rw [val_snoc]; have := unhide HV; omega))
        clear HOK HV HT; generalize p.getD k 0 = x at *; have HBAD := hide (fun h => unhide HN x (unhide HMM) h); have LOW := hide (fun w => lower_any x w); have hl255 := lwV_le x; by_cases hA : 48 ≤ x.toNat ∧ x.toNat ≤ 57
        · have hdg := dig_A x hA.1 hA.2; obtain ⟨hs1, hs2⟩ := unhide HSN (by omega); have KK : Hid (∀ z : Int, z = v * 16 + (dgV x : Int) → ((∃ (k' : Nat) (v' : Int), k' ≤ p.length ∧ Value.int .i64 ((k : Int) + 1) = .int .i64 k' ∧ Value.bool false = .bool false ∧ Value.int .u64 z = .int .u64 v' ∧ Hid (∀ x ∈ p.take k', dgV x < 16) ∧ Hid (v' = (val 16 (p.take k') : Int)) ∧ wr = wr) ∧ p.length - ((k : Int) + 1).toNat < p.length - k)) :=
            fun z hz => ⟨⟨k + 1, z, by omega, by simp, rfl, rfl, hs1, by rw [hz]; exact hs2, rfl⟩, by omega⟩
          have q1 : (48 : Int) ≤ (x.toNat : Int) := by omega
          have q2 : (x.toNat : Int) ≤ 57 := by omega
          have q3 : ((x.toNat : Int) == 95) = false := by rw [beq_eq_false_iff_ne]; omega
          have KQ := hide (unhide KK (v * 16 + ((x.toNat : Int) - 48)) (by omega)); clear KK hs1 hs2 HSN HBAD LOW hdg HN HY HMM HRD hA; go_wp2; obtain ⟨⟨k', v', e1, e2, _, e4, e5, e6, _⟩, hm⟩ := unhide KQ; exact ⟨⟨k', v', e1, e2, rfl, e4, e5, e6, by first | rfl | trivial⟩, hm⟩
        · have hAB : (48 : Int) ≤ (x.toNat : Int) → ¬ (x.toNat : Int) ≤ 57 := fun h1 h2 => hA ⟨by omega, by omega⟩; by_cases hB : 97 ≤ lwV x ∧ lwV x ≤ 122
          · have hn95 : ((x.toNat : Int) == 95) = false := by
              rw [beq_eq_false_iff_ne]; intro h; have := lwV_95 x (by omega); omega
            have q1 : (97 : Int) ≤ (lwV x : Int) := by omega
            have q2 : (lwV x : Int) ≤ 122 := by omega
            rcases dig_B x hA hB.1 hB.2 with ⟨hl2, hdg⟩ | ⟨hl2, hdg⟩
            · obtain ⟨hs1, hs2⟩ := unhide HSN (by omega); have KK : Hid (∀ z : Int, z = v * 16 + (dgV x : Int) → ((∃ (k' : Nat) (v' : Int), k' ≤ p.length ∧ Value.int .i64 ((k : Int) + 1) = .int .i64 k' ∧ Value.bool false = .bool false ∧ Value.int .u64 z = .int .u64 v' ∧ Hid (∀ x ∈ p.take k', dgV x < 16) ∧ Hid (v' = (val 16 (p.take k') : Int)) ∧ wr = wr) ∧ p.length - ((k : Int) + 1).toNat < p.length - k)) :=
                fun z hz => ⟨⟨k + 1, z, by omega, by simp, rfl, rfl, hs1, by rw [hz]; exact hs2, rfl⟩, by omega⟩
              have KQ := hide (unhide KK (v * 16 + ((lwV x : Int) - 97 + 10)) (by omega)); have q3 : (lwV x : Int) ≤ 102 := by omega
              clear KK hs1 hs2 HSN HBAD hdg HN HY HMM HRD hA hB hl2; have hbits := lw_bits ⟨x.toNat, x.toNat_lt⟩; change bits .or .u8 (x.toNat : Int) 32 = (lwV x : Int) at hbits; by_cases h48 : (48 : Int) ≤ (x.toNat : Int)
              · have h57 := hAB h48; clear hAB LOW; generalize lwV x = l at *; go_wp2; obtain ⟨⟨k', v', e1, e2, _, e4, e5, e6, _⟩, hm⟩ := unhide KQ; exact ⟨⟨k', v', e1, e2, rfl, e4, e5, e6, by first | rfl | trivial⟩, hm⟩
              · clear hAB LOW; generalize lwV x = l at *; go_wp2; obtain ⟨⟨k', v', e1, e2, _, e4, e5, e6, _⟩, hm⟩ := unhide KQ; exact ⟨⟨k', v', e1, e2, rfl, e4, e5, e6, by first | rfl | trivial⟩, hm⟩
            · have HE := hide (unhide HBAD hdg); have q3 : ¬ (lwV x : Int) ≤ 102 := by omega
              clear HSN HBAD hdg HN HY HMM HRD hA hB hl2; have hbits := lw_bits ⟨x.toNat, x.toNat_lt⟩; change bits .or .u8 (x.toNat : Int) 32 = (lwV x : Int) at hbits; by_cases h48 : (48 : Int) ≤ (x.toNat : Int)
              · have h57 := hAB h48; clear hAB LOW; generalize lwV x = l at *; go_wp2; go_ret2; exact ⟨unhide HE, hx1⟩
              · clear hAB LOW; generalize lwV x = l at *; go_wp2; go_ret2; exact ⟨unhide HE, hx1⟩
          · have HE := hide (unhide HBAD (dig_C x hA hB)); have hB2 : (97 : Int) ≤ (lwV x : Int) → ¬ (lwV x : Int) ≤ 122 := fun h1 h2 => hB ⟨by omega, by omega⟩; clear HSN HBAD HN HY HMM HRD hA hB; have hbits := lw_bits ⟨x.toNat, x.toNat_lt⟩; change bits .or .u8 (x.toNat : Int) 32 = (lwV x : Int) at hbits; clear LOW; generalize lwV x = l at *; by_cases h95 : ((x.toNat : Int) == 95) = true
            · by_cases h48 : (48 : Int) ≤ (x.toNat : Int)
              · have h57 := hAB h48; clear hAB; by_cases h97 : (97 : Int) ≤ (l : Int)
                · have h122 := hB2 h97; clear hB2; go_wp2; go_ret2; exact ⟨unhide HE, hx1⟩
                · clear hB2; go_wp2; go_ret2; exact ⟨unhide HE, hx1⟩
              · rw [beq_iff_eq] at h95; omega
            · rw [Bool.not_eq_true] at h95; by_cases h48 : (48 : Int) ≤ (x.toNat : Int)
              · have h57 := hAB h48; clear hAB; by_cases h97 : (97 : Int) ≤ (l : Int)
                · have h122 := hB2 h97; clear hB2; go_wp2; go_ret2; exact ⟨unhide HE, hx1⟩
                · clear hB2; go_wp2; go_ret2; exact ⟨unhide HE, hx1⟩
              · clear hAB; by_cases h97 : (97 : Int) ≤ (l : Int)
                · have h122 := hB2 h97; clear hB2; go_wp2; go_ret2; exact ⟨unhide HE, hx1⟩
                · clear hB2; go_wp2; go_ret2; exact ⟨unhide HE, hx1⟩
      · have hkl' : ¬ (k : Int) < (p.length : Int) := by omega
        have e : p.take k = p := List.take_of_length_le (by omega); rw [e] at HOK HV; have HE := hide (unhide HY (unhide HOK)); have hv2 := unhide HV; subst hv2; clear HOK HV HY HN HRD e; generalize (val 16 p : Int) = v at *; go_wp2; go_ret2; exact ⟨unhide HE, hx1⟩
end Go.Proofs.YtenlampiiodkhaaGreatDoor
namespace Go.Proofs.YtenlampiiodkhaaGreatDoor
set_option linter.unusedVariables false
open Go.RowKit
set_option maxHeartbeats 1000000 in
set_option maxRecDepth 100000 in
theorem parse16_any (p : List UInt8) (w : World) (hp : p.length ≤ 4) (tb : Tb8 w) : Calls Tryz.prog 209 #[S p, .int .i64 16, .int .i64 16] w fun e w' => numE (hexW p) (fun x => ∃ N, x = .iface 221 (.pointer (some ⟨N, 0, none⟩))) e ∧ Ext w w' := by
  have HI := hide (iparse_any p w hp); have HE : Hid (∀ w2, Ext w w2 → Calls Tryz.prog 215 #[.string ⟨#[80, 97, 114, 115, 101, 85, 105, 110, 116]⟩, S p, .int .i64 16, .int .i64 16, .iface 219 (.int .i64 2)] w2 fun e w' => (∃ N, e = .returned (.iface 221 (.pointer (some ⟨N, 0, none⟩)))) ∧ Ext w w') := fun w2 hx => by
    obtain ⟨te, pe, he⟩ := (tb.below hx).es; refine (Tryz.strconv_toError_syntax _ ⟨p.toArray⟩ 16 16 (.iface te pe) w2 (by rw [size_S]; omega) he (.inr ⟨te, pe, rfl⟩)).mono ?_; rintro e w' ⟨N, rfl, _, _, hb⟩; exact ⟨⟨N, rfl⟩, hx.trans hb⟩
  have yes : ∀ v : Nat, hexW p = some v → numE (hexW p) (fun x => ∃ N, x = .iface 221 (.pointer (some ⟨N, 0, none⟩))) (.returned (.tuple #[.int .u64 (v : Int), .nilIface])) := fun v h => by rw [h]; rfl
  have no : ∀ N, hexW p = none → numE (hexW p) (fun x => ∃ N, x = .iface 221 (.pointer (some ⟨N, 0, none⟩))) (.returned (.tuple #[.int .u64 0, .iface 221 (.pointer (some ⟨N, 0, none⟩))])) := fun N h => by rw [h]; exact ⟨_, ⟨N, rfl⟩, rfl⟩
  have NO := hide no; have YES := hide yes; clear no yes; generalize numE (hexW p) (fun x => ∃ N, x = .iface 221 (.pointer (some ⟨N, 0, none⟩))) = Q at *; go_enter Tryz.func209, Tryz.ntmps209; go_wp2_with fail
  refine (unhide HI).mono ?_; rintro e w2 ⟨he, hx⟩; clear HI
  cases hh : hexW p with
  | some v =>
    rw [hh] at he; obtain rfl : e = .returned (.tuple #[.int .u64 (v : Int), .nilIface]) := he; have HY := hide (unhide YES v hh); clear hh HE YES NO; go_wp2; go_ret2; exact ⟨unhide HY, hx⟩
  | none =>
    rw [hh] at he; obtain ⟨x, rfl, rfl⟩ := he; have HN := hide (fun N => unhide NO N hh); clear hh YES NO; go_wp2_with fail
    refine (unhide HE _ hx).mono ?_; rintro e w3 ⟨⟨N, rfl⟩, hx3⟩; clear HE; go_wp2; go_ret2; exact ⟨unhide HN N, hx3⟩
theorem rdX_add (s : List UInt8) (k : Nat) (ps vs : List Nat) (g : Int) (h1 : vs.length = 1 ∨ vs.length = 2) (h : ps.length + vs.length ≤ 8) :
    (splice (rdX s k ps g).toList (2 + ps.length) (vs.map U)).toArray.setIfInBounds 10 (.int .i64 ((ps.length : Int) + (vs.length : Int))) = rdX s k (ps ++ vs) g := by
  rcases h1 with h1 | h1
  · match vs, h1 with
    | [x], _ =>
      match ps with
      | [] => rfl
      | [_] => rfl
      | [_, _] => rfl
      | [_, _, _] => rfl
      | [_, _, _, _] => rfl
      | [_, _, _, _, _] => rfl
      | [_, _, _, _, _, _] => rfl
      | [_, _, _, _, _, _, _] => rfl
      | _ :: _ :: _ :: _ :: _ :: _ :: _ :: _ :: _ => simp at h
  · match vs, h1 with
    | [x, y], _ =>
      match ps with
      | [] => rfl
      | [_] => rfl
      | [_, _] => rfl
      | [_, _, _] => rfl
      | [_, _, _, _] => rfl
      | [_, _, _, _, _] => rfl
      | [_, _, _, _, _, _] => rfl
      | _ :: _ :: _ :: _ :: _ :: _ :: _ :: _ => simp at h
theorem splice_behind {α : Type} {L cs : List α} {off i : Nat} (h1 : off ≤ L.length) (h : off + cs.length ≤ i) : (splice L off cs)[i]? = L[i]? := by
  unfold splice; rw [List.getElem?_append_right (by rw [List.length_take]; omega), List.getElem?_append_right (by rw [List.length_take]; omega), List.getElem?_drop, List.length_take]; congr 1; omega
theorem arr_len : Tryz.prog.arrayLen 36 = 8 := by kernel_rfl
theorem arr_elem : Tryz.prog.elem 36 = 35 := by kernel_rfl
theorem arr_und : Tryz.prog.underlying 36 = some (TypeDesc.array (Tryz.prog.arrayLen 36) (Tryz.prog.elem 36)) := by kernel_rfl
theorem arr_size (w : World) : (sizeOf (Tryz.prog.elem 36)).run Tryz.prog w = .ok 1 w := by
  rw [arr_elem]
  kernel_rfl
theorem arr_from (w : World) (b o n : Nat) (hn : n < 8) : (Instr.sliceAt 36 (.pointer (some ⟨b, o, none⟩)) (some (.int .i64 (n : Int))) none none).run Tryz.prog w = .ok (.slice (some ⟨b, o + n, none⟩) (8 - n) (8 - n)) w := by
  rw [run_sliceAt_array_l w _ _ arr_und .i64 (n : Int) (by omega) (by rw [arr_len]; omega), arr_size, arr_len]; show Result.ok (slicedAt ⟨b, o, none⟩ (n : Int).toNat 8 8 1) w = _; unfold slicedAt; rw [Int.toNat_natCast, if_neg (by omega), Nat.mul_one, Addr.add_lit]
theorem arr_from8 (w : World) (b o n : Nat) (hn : n = 8) : (Instr.sliceAt 36 (.pointer (some ⟨b, o, none⟩)) (some (.int .i64 (n : Int))) none none).run Tryz.prog w = .ok (.slice (some ⟨b, o, none⟩) 0 0) w := by
  rw [run_sliceAt_array_l w _ _ arr_und .i64 (n : Int) (by omega) (by rw [arr_len]; omega), arr_size, arr_len]; show Result.ok (slicedAt ⟨b, o, none⟩ (n : Int).toNat 8 8 1) w = _; unfold slicedAt; rw [Int.toNat_natCast, if_pos hn.symm, hn]
theorem arr_to (w : World) (b o n : Nat) (hn : n ≤ 8) : (Instr.sliceAt 36 (.pointer (some ⟨b, o, none⟩)) none (some (.int .i64 (n : Int))) none).run Tryz.prog w = .ok (.slice (some ⟨b, o, none⟩) n 8) w := by
  rw [run_sliceAt_array_h w _ _ arr_und .i64 (n : Int) (by omega) (by rw [arr_len]; omega), arr_size, arr_len]; show Result.ok (slicedAt ⟨b, o, none⟩ 0 (n : Int).toNat 8 1) w = _; unfold slicedAt; rw [Int.toNat_natCast, if_neg (by omega), Nat.zero_mul, Addr.add_lit]; rfl
theorem arr_all (w : World) (b o : Nat) : (Instr.sliceAt 36 (.pointer (some ⟨b, o, none⟩)) none none none).run Tryz.prog w = .ok (.slice (some ⟨b, o, none⟩) 8 8) w := by
  rw [run_sliceAt_array_all w _ _ arr_und, arr_size, arr_len]; show Result.ok (slicedAt ⟨b, o, none⟩ 0 8 8 1) w = _; unfold slicedAt; rw [if_neg (by omega), Nat.zero_mul, Addr.add_lit]; rfl
theorem arr_mid (w : World) (b o l h : Nat) (hl : l < 8) (hlh : l ≤ h) (hh : h ≤ 8) : (Instr.sliceAt 36 (.pointer (some ⟨b, o, none⟩)) (some (.int .i64 (l : Int))) (some (.int .i64 (h : Int))) none).run Tryz.prog w = .ok (.slice (some ⟨b, o + l, none⟩) (h - l) (8 - l)) w := by
  rw [run_sliceAt_array_lh w _ _ arr_und .i64 .i64 (l : Int) (h : Int) (by omega) (by omega) (by rw [arr_len]; omega), arr_size, arr_len]; show Result.ok (slicedAt ⟨b, o, none⟩ (l : Int).toNat (h : Int).toNat 8 1) w = _; unfold slicedAt; rw [Int.toNat_natCast, Int.toNat_natCast, if_neg (by omega), Nat.mul_one, Addr.add_lit]
theorem infoU1 : (Tryz.prog.info? 35).map (·.size) = some 1 := by kernel_rfl
set_option maxHeartbeats 2000000 in
set_option maxRecDepth 100000 in
theorem add_any (b : Nat) (s : List UInt8) (k : Nat) (ps vs : List Nat) (g : Int) (q : Nat) (W : World) (h : Rd W b s k ps g) (h1 : vs.length = 1 ∨ vs.length = 2) (h8 : ps.length ≤ 8)
    (hrd : RdV W (some ⟨q, 0, none⟩) vs.length (vs.map U)) :
    Calls Tryz.prog 208 #[.pointer (some ⟨b, 0, none⟩), .slice (some ⟨q, 0, none⟩) vs.length vs.length] W fun e w' =>
      (if ps.length + vs.length ≤ 8 then e = .returned (.bool true) ∧ Rd w' b s k (ps ++ vs) g else e = .returned (.bool false)) ∧ Below b W w' := by
  have c10 := h.count; have f10 := h.froz 10; by_cases hc : ps.length + vs.length ≤ 8
  · have hc' : ¬ (8 : Int) < (ps.length : Int) + (vs.length : Int) := by omega
    have hsub : (8 : Int) - (ps.length : Int) = ((8 - ps.length : Nat) : Int) := by omega
    have KEY : Hid (∀ w', Hid (w'.heap[b]? = some (.cells (splice (rdX s k ps g).toList (2 + ps.length) (vs.map U)).toArray 128 (0, 0))) → Below b W w' →
        w'.cell? ⟨b, 10, none⟩ = some (.int .i64 (ps.length : Int)) ∧ w'.frozen? ⟨b, 10, none⟩ = false ∧ Rd (w'.setCell ⟨b, 10, none⟩ (.int .i64 ((ps.length : Int) + (vs.length : Int)))) b s k (ps ++ vs) g ∧ Below b W (w'.setCell ⟨b, 10, none⟩ (.int .i64 ((ps.length : Int) + (vs.length : Int))))) := by
      intro w' hg hb; have hg := unhide hg; have hl : (splice (rdX s k ps g).toList (2 + ps.length) (vs.map U)).length = 12 := by
        rw [length_splice _ _ _ (by rw [List.length_map]; show 2 + ps.length + vs.length ≤ 12; omega)]; rfl
      refine ⟨?_, by simp [World.frozen?, hg], ?_, hb.trans (below_set (Nat.le_refl _))⟩
      · have e := splice_behind (L := (rdX s k ps g).toList) (cs := vs.map U) (off := 2 + ps.length) (i := 10) (by show 2 + ps.length ≤ 12; omega) (by rw [List.length_map]; omega); have e2 : (splice (rdX s k ps g).toList (2 + ps.length) (vs.map U))[10]? = some (.int .i64 (ps.length : Int)) := e; simp [World.cell?, hg, e2]
      · unfold Rd; rw [← rdX_add s k ps vs g h1 hc]; simp [World.setCell, Array.getElem?_modify, hg]
    have hg0 : W.drew.heap[b]? = some (.cells (rdX s k ps g).toList.toArray 128 (0, 0)) := h; have hsrc : ∀ j v, (vs.map U)[j]? = some v → W.drew.cell? ((⟨q, 0, none⟩ : Addr).add j) = some v := hrd.news _ rfl; have hone : ∀ v ∈ vs.map U, v.oneCell' = true := by
      intro v hv; obtain ⟨x, _, rfl⟩ := List.mem_map.1 hv; rfl
    have hlen : (vs.map U).length = vs.length := List.length_map _; have hfit : 2 + ps.length + vs.length ≤ 12 := by omega
    have hcur : (rdX s k ps g).toList.length = 12 := rfl; generalize vs.map U = cs at *; generalize (rdX s k ps g).toList = cur at *; have hsl := fun v => arr_from v b 2 ps.length (by omega); have hwr : IntKind.i64.wrap ((ps.length : Int) + (vs.length : Int)) = (ps.length : Int) + (vs.length : Int) := by rw [IntKind.wrap_i64]; omega
    clear h hrd; simp only [if_pos hc]; go_enter Tryz.func208, Tryz.ntmps208; go_wp2_with fail
    go_region_law (first
      | (refine step_copy_splice rfl (.tmp 24) (.tmp 25) 90 90 rfl 35 Tryz.underlying90 infoU1 (some ⟨b, 2 + ps.length, none⟩) (some ⟨q, 0, none⟩) (8 - ps.length) (8 - ps.length) vs.length vs.length ?_ ?_ b (2 + ps.length) cur 128 hg0 cs ?_ ?_ ?_ hone b W ?_ (Nat.le_refl _) ?_
         · simp [Act.eval, Act.put]
         · simp [Act.eval, Act.put]
         · rw [hlen]; show vs.length = min vs.length (8 - ps.length); omega
         · exact fun _ => ⟨rfl, _, rfl, hsrc⟩
         · rw [hlen, hcur]; omega
         · exact (Below.refl _ _).drew
         intro w4 hg4 hb4; obtain ⟨c4, f4, r4, b4⟩ := unhide KEY w4 hg4 hb4; have R4 := hide (And.intro r4 b4); rw [hlen]; clear hg4 hb4 r4 b4))
    all_goals
      clear KEY; go_wp2; go_ret; exact ⟨⟨rfl, (unhide R4).1⟩, (unhide R4).2⟩
  · have hc' : (8 : Int) < (ps.length : Int) + (vs.length : Int) := by omega
    simp only [if_neg hc]; clear h hrd; go_enter Tryz.func208, Tryz.ntmps208; go_wp2; go_ret; exact ⟨rfl, Below.refl _ _⟩
end Go.Proofs.YtenlampiiodkhaaGreatDoor
namespace Go.Proofs.YtenlampiiodkhaaGreatDoor
set_option linter.unusedVariables false
open Go.RowKit
theorem hexW_lt {p : List UInt8} {v : Nat} (h : hexW p = some v) : v < 65536 := by
  obtain ⟨_, h2, h3, h4⟩ := hexW_parts h; unfold okD at h3; rw [List.all_eq_true] at h3; have h5 := val_lt16 p fun x hx => by simpa using h3 x hx
  have h6 : 16 ^ p.length ≤ 16 ^ 4 := Nat.pow_le_pow_right (by decide) h2; omega
theorem hexW_long {p : List UInt8} (h : 4 < p.length) : hexW p = none := by
  unfold hexW; rw [if_neg]; rintro ⟨_, h2, _⟩; omega
def addO (o : Option (List Nat)) (b : Nat) (s : List UInt8) (k : Nat) (ps : List Nat) (g : Int) (e : Ending) (w' : World) : Prop :=
  match o with
  | some vs => if ps.length + vs.length ≤ 8 then e = .returned (.bool true) ∧ Rd w' b s k (ps ++ vs) g else e = .returned (.bool false)
  | none => e = .returned (.bool false)
theorem addO_no {o : Option (List Nat)} {b : Nat} {s : List UInt8} {k : Nat} {ps : List Nat} {g : Int} {w' : World} (h : o = none) : addO o b s k ps g (.returned (.bool false)) w' := by
  rw [h]; rfl
theorem addO_bad {o : Option (List Nat)} {vs : List Nat} {b : Nat} {s : List UInt8} {k : Nat} {ps : List Nat} {g : Int} {w' : World} (h : o = some vs) (hc : ¬ ps.length + vs.length ≤ 8) : addO o b s k ps g (.returned (.bool false)) w' := by
  rw [h]; show (if ps.length + vs.length ≤ 8 then _ else _); rw [if_neg hc]
theorem addO_yes {o : Option (List Nat)} {vs : List Nat} {b : Nat} {s : List UInt8} {k : Nat} {ps : List Nat} {g : Int} {w' : World} (h : o = some vs) (hc : ps.length + vs.length ≤ 8) (hr : Rd w' b s k (ps ++ vs) g) : addO o b s k ps g (.returned (.bool true)) w' := by
  rw [h]; show (if ps.length + vs.length ≤ 8 then _ else _); rw [if_pos hc]; exact ⟨rfl, hr⟩
set_option maxHeartbeats 2000000 in
set_option maxRecDepth 100000 in
theorem addPiece_any (b : Nat) (s : List UInt8) (k : Nat) (ps : List Nat) (g : Int) (p : List UInt8) (W : World) (h : Rd W b s k ps g) (h8 : ps.length ≤ 8) (hp : p.length ≤ 100000) (tb : TbF b W) :
    Calls Tryz.prog 194 #[.pointer (some ⟨b, 0, none⟩), S p] W fun e w' => addO ((hexW p).map fun v => [v]) b s k ps g e w' ∧ Below b W w' := by
  have hsz := size_S p; by_cases h4 : p.length ≤ 4
  · have h4' : ¬ (4 : Int) < (p.length : Int) := by omega
    have HP := hide (parse16_any p W h4 tb.tb); have HV := hide (fun v (hv : hexW p = some v) => hexW_lt hv); have HR := hide h; have hblt := h.lt; clear h; go_enter Tryz.func194, Tryz.ntmps194; go_wp2_with fail
    refine (unhide HP).mono ?_; rintro e w2 ⟨he, hx⟩; clear HP; have hb2 : Below b W w2 := Below.mono hx (by omega); have HR2 := hide ((unhide HR).ext hx)
    cases hh : hexW p with
    | some v =>
      have hv := unhide HV v hh; have HO : Hid ((hexW p).map (fun v => [v]) = some [v]) := by
        show _ = _; rw [hh]; rfl
      rw [hh] at he; obtain rfl : e = .returned (.tuple #[.int .u64 (v : Int), .nilIface]) := he; have RL := RdV.lit w2 [U v] 35 (0, 0) (by simp); have HA := hide (add_any b s k ps [v] g w2.heap.size (w2.alloc (.cells #[U v] 35)) ((unhide HR2).ext (Ext.alloc _ _)) (.inl rfl) h8 RL); have hb3 : Below b W (w2.alloc (.cells #[U v] 35)) := hb2.trans (Below.mono (Ext.alloc w2 _) (by have := hb2.size; omega)); have hwv : IntKind.u16.wrap (v : Int) = (v : Int) := by rw [IntKind.wrap_u16]; omega
      clear HV hh RL HR HR2; go_wp2_with fail
      refine (unhide HA).mono ?_; rintro e w4 ⟨he, hb4⟩; clear HA; by_cases hc : ps.length + [v].length ≤ 8
      · rw [if_pos hc] at he; obtain ⟨rfl, hr4⟩ := he; have HE := hide hr4; clear hr4; go_wp2; go_ret; exact ⟨addO_yes (unhide HO) hc (unhide HE), hb3.trans hb4⟩
      · rw [if_neg hc] at he; subst he; go_wp2; go_ret; exact ⟨addO_bad (unhide HO) hc, hb3.trans hb4⟩
    | none =>
      rw [hh] at he; obtain ⟨x, ⟨N, rfl⟩, rfl⟩ := he; have HO : Hid ((hexW p).map (fun v => [v]) = none) := by
        show _ = _; rw [hh]; rfl
      clear HV hh HR HR2; go_wp2; go_ret; exact ⟨addO_no (unhide HO), hb2⟩
  · have h4' : (4 : Int) < (p.length : Int) := by omega
    rw [hexW_long (by omega)]; clear h; show Calls Tryz.prog 194 _ W fun e w' => addO none b s k ps g e w' ∧ Below b W w'; go_enter Tryz.func194, Tryz.ntmps194; go_wp2; go_ret; exact ⟨addO_no rfl, Below.refl _ _⟩
theorem prs_lt {p : List UInt8} {n : Nat} (h : prs p = some n) : n < 4294967296 := parO_lt (List.length_pos_iff.2 (pcs_ne _ _)) h
theorem shr16 (n : Nat) (h : n < 4294967296) : (n : Int) / 65536 = ((n / 65536 : Nat) : Int) ∧ n / 65536 < 65536 := ⟨by omega, by omega⟩
theorem cut16 (n : Nat) : IntKind.u16.wrap (n : Int) = ((n % 65536 : Nat) : Int) := by
  rw [IntKind.wrap_u16]; omega
set_option maxHeartbeats 4000000 in
set_option maxRecDepth 100000 in
theorem addNumbers_any (b : Nat) (s : List UInt8) (k : Nat) (ps : List Nat) (g : Int) (p : List UInt8) (W : World) (h : Rd W b s k ps g) (h8 : ps.length ≤ 8) (hp : p.length ≤ 100000) (tb : TbF b W) :
    Calls Tryz.prog 193 #[.pointer (some ⟨b, 0, none⟩), S p] W fun e w' => addO (fourW p) b s k ps g e w' ∧ Below b W w' := by
  have hfo := four_eq p fun n hn => prs_lt hn; rw [← hfo]; clear hfo; have HP := hide (parse_any p W hp tb.tb.four); have hblt := h.lt; have HR := hide h; have HT := hide tb; clear h tb; go_enter Tryz.func193, Tryz.ntmps193; go_wp2_with fail
  refine (unhide HP).mono ?_; rintro e w2 ⟨rfl, hx⟩; clear HP; have hb2 : Below b W w2 := Below.mono hx (by omega); have HR2 := hide ((unhide HR).ext hx); have hbl2 : b ≤ w2.heap.size := by have := hb2.size; omega
  cases hh : prs p with
  | none =>
    have HO : Hid (fourP p = none) := by
      show _ = _; unfold fourP; rw [hh]; rfl
    have ez : numV none = 0 := rfl; have ee : perr none = 5 := rfl; rw [ez, ee]; clear hh HR HR2 HT ez ee; go_wp2; go_ret; exact ⟨addO_no (unhide HO), hb2⟩
  | some n =>
    have hn := prs_lt hh; have hf : fourP p = if shw n = p then some [n / 65536, n % 65536] else none := by unfold fourP; rw [hh]; rfl
    have HS := hide (show_any n w2 hn ((unhide HT).on hb2).tb.four); have ez : numV (some n) = (n : Int) := rfl; have ee : perr (some n) = 0 := rfl; rw [ez, ee]; clear hh HR HT ez ee; by_cases hs : shw n = p
    · rw [if_pos hs] at hf; have HO := hide hf; clear hf; obtain ⟨s1, s2⟩ := shr16 n hn; have s3 := cut16 n; have s4 : n % 65536 < 65536 := Nat.mod_lt _ (by decide); have hw1 : IntKind.u16.wrap ((n / 65536 : Nat) : Int) = ((n / 65536 : Nat) : Int) := by rw [IntKind.wrap_u16]; omega
      rw [hs] at HS; clear hs; generalize n / 65536 = x at *; generalize n % 65536 = y at *; go_wp2_with fail
      refine (unhide HS).mono ?_; rintro e w3 ⟨rfl, hx3⟩; clear HS; have hb3 : Below b W w3 := hb2.trans (Below.mono hx3 hbl2); have HR3 := hide ((unhide HR2).ext hx3); have RL := RdV.lit w3 [U x, U y] 35 (0, 0) (by simp); have HA := hide (add_any b s k ps [x, y] g w3.heap.size (w3.alloc (.cells #[U x, U y] 35)) ((unhide HR3).ext (Ext.alloc _ _)) (.inr rfl) h8 RL); have hb4 : Below b W (w3.alloc (.cells #[U x, U y] 35)) := hb3.trans (Below.mono (Ext.alloc w3 _) (by have := hb3.size; omega)); clear RL HR2 HR3; go_wp2_with fail
      refine (unhide HA).mono ?_; rintro e w4 ⟨he, hb5⟩; clear HA; by_cases hc : ps.length + [x, y].length ≤ 8
      · rw [if_pos hc] at he; obtain ⟨rfl, hr4⟩ := he; have HE := hide hr4; clear hr4; go_wp2; go_ret; exact ⟨addO_yes (unhide HO) hc (unhide HE), hb4.trans hb5⟩
      · rw [if_neg hc] at he; subst he; go_wp2; go_ret; exact ⟨addO_bad (unhide HO) hc, hb4.trans hb5⟩
    · rw [if_neg hs] at hf; have HO := hide hf; have hne : (shw n == p) = false := by simpa using hs
      clear hf hs; generalize shw n = q at *; go_wp2_with fail
      refine (unhide HS).mono ?_; rintro e w3 ⟨rfl, hx3⟩; clear HS; have hb3 : Below b W w3 := hb2.trans (Below.mono hx3 hbl2); go_wp2; go_ret; exact ⟨addO_no (unhide HO), hb3⟩
end Go.Proofs.YtenlampiiodkhaaGreatDoor
