/-
  J6E, J6F.
-/
import Derived.Test.YtenlampiiodkhaaGreatDoorCPc
import Derived.BigRegion
namespace Go.Proofs.YtenlampiiodkhaaGreatDoor
set_option linter.unusedVariables false
open Go.RowKit
def Ar4 (W : World) (b : Nat) (xs : List Nat) : Prop := xs.length = 4 ∧ W.heap[b]? = some (.cells (xs.map U).toArray 162 (0, 0))
theorem Ar4.cell {W : World} {b : Nat} {xs : List Nat} (h : Ar4 W b xs) (i : Nat) (hi : i < 4) : W.cell? ⟨b, i, none⟩ = some (U (xs.getD i 0)) := by
  rw [cells8 h.2 i (by rw [List.length_map, h.1]; exact hi)]; simp [List.getD, show i < xs.length by rw [h.1]; exact hi]
theorem Ar4.froz {W : World} {b : Nat} {xs : List Nat} (h : Ar4 W b xs) (i : Nat) : W.frozen? ⟨b, i, none⟩ = false := froz8 h.2 i
theorem Ar4.set {W : World} {b : Nat} {xs : List Nat} (h : Ar4 W b xs) (i y : Nat) : Ar4 ((W.setCell ⟨b, i, none⟩ (U y)).drew) b (xs.set i y) := by
  refine ⟨by rw [List.length_set]; exact h.1, ?_⟩; have := set_heap (i := i) (v := U y) h.2; show (W.setCell ⟨b, i, none⟩ (U y)).heap[b]? = _; rw [this, List.setIfInBounds_toArray, List.map_set]
theorem Ar4.new (w : World) : Ar4 (w.alloc (.cells #[.int .u16 0, .int .u16 0, .int .u16 0, .int .u16 0] 162)) w.heap.size [0, 0, 0, 0] := ⟨rfl, alloc_new _ _⟩
theorem dgV_ten (y : UInt8) (h1 : 48 ≤ y.toNat) (h2 : y.toNat ≤ 57) : dgV y = y.toNat - 48 := by
  unfold dgV; rw [if_pos ⟨h1, h2⟩]
theorem dgV_not (y : UInt8) (h : ¬ (48 ≤ y.toNat ∧ y.toNat ≤ 57)) : ¬ dgV y < 10 := by
  unfold dgV; rw [if_neg h]
  split
  · omega
  · split <;> omega
theorem fourL_bad {ps : List (List UInt8)} {i : Nat} (hi : i < 4) (h : tenW (ps.getD i []) = none) : fourL ps = none := by
  match ps, h with
  | [a, b, c, d], h =>
    rw [fourL_four]
    match i, hi, h with
    | 0, _, h =>
      rw [show tenW a = none from h]; rfl
    | 1, _, h =>
      rw [show tenW b = none from h]
      cases tenW a <;> rfl
    | 2, _, h =>
      rw [show tenW c = none from h]
      cases tenW a <;> cases tenW b <;> rfl
    | 3, _, h =>
      rw [show tenW d = none from h]
      cases tenW a <;> cases tenW b <;> cases tenW c <;> rfl
  | [], _ => rfl
  | [_], _ => rfl
  | [_, _], _ => rfl
  | [_, _, _], _ => rfl
  | _ :: _ :: _ :: _ :: _ :: _, _ => rfl
theorem fourL_short {ps : List (List UInt8)} (h : ps.length ≠ 4) : fourL ps = none := by
  match ps, h with
  | [_, _, _, _], h => exact absurd rfl h
  | [], _ => rfl
  | [_], _ => rfl
  | [_, _], _ => rfl
  | [_, _, _], _ => rfl
  | _ :: _ :: _ :: _ :: _ :: _, _ => rfl
theorem fourL_yes {ps : List (List UInt8)} {xs : List Nat} (hl : ps.length = 4) (h : ∀ i, i < 4 → tenW (ps.getD i []) = some (xs.getD i 0)) : fourL ps = some [xs.getD 0 0 * 256 + xs.getD 1 0, xs.getD 2 0 * 256 + xs.getD 3 0] := by
  match ps, hl, h with
  | [a, b, c, d], _, h =>
    rw [fourL_four, show tenW a = some (xs.getD 0 0) from h 0 (by decide), show tenW b = some (xs.getD 1 0) from h 1 (by decide), show tenW c = some (xs.getD 2 0) from h 2 (by decide), show tenW d = some (xs.getD 3 0) from h 3 (by decide)]; rfl
theorem tenW_small {p : List UInt8} {v : Nat} (h : tenW p = some v) : v ≤ 255 := (tenW_is h).2
theorem set_self (xs : List Nat) (i : Nat) (h : xs.getD i 0 = 0) (hl : i < xs.length) : xs.set i 0 = xs := by
  apply List.ext_getElem?; intro j; rw [List.getElem?_set]; by_cases e : i = j
  · subst e; rw [if_pos rfl, if_pos hl, List.getElem?_eq_getElem hl]; simp [List.getD, hl] at h; rw [h]
  · rw [if_neg e]
theorem getD_set_same (xs : List Nat) (i y : Nat) (hl : i < xs.length) : (xs.set i y).getD i 0 = y := by simp [List.getD, hl]
theorem getD_set_other (xs : List Nat) (i j y : Nat) (h : i ≠ j) : (xs.set i y).getD j 0 = xs.getD j 0 := by simp [List.getD, h]
theorem at_bytes (l : List UInt8) (k : Nat) (hk : k < (⟨l.toArray⟩ : ByteArray).size) : (⟨l.toArray⟩ : ByteArray)[k] = l.getD k 0 := by
  have h : k < l.length := by rw [size_S] at hk; exact hk
  show l.toArray[k] = _; simp [List.getD, h]
theorem set_set (xs : List Nat) (i y z : Nat) : (xs.set i y).set i z = xs.set i z := by simp
theorem or_low16 (k x y : Nat) (hy : y < 2 ^ k) (hx : 2 ^ k * x + y < 65536) : bits .or .u16 ((2 ^ k * x : Nat) : Int) (y : Int) = ((2 ^ k * x + y : Nat) : Int) := by
  rw [u16_or_nat _ _ (by omega) (by omega), ← Nat.two_pow_add_eq_or_of_lt hy]
theorem or8 (a b : Nat) (ha : a ≤ 255) (hb : b ≤ 255) : bits .or .u16 ((a : Int) * 256) (b : Int) = ((a * 256 + b : Nat) : Int) := by
  have := or_low16 8 a b (by omega) (by omega); rw [show ((2 ^ 8 * a : Nat) : Int) = (a : Int) * 256 by omega] at this; rw [this]; omega
def Tells4 (t : List UInt8) (v : World) : Ending → World → Prop := fun e w' => ∃ (ao : Option Addr) (n cap : Nat) (ok : Bool), e = .returned (.tuple #[.slice ao n cap, .bool ok]) ∧ ok = (fourW t).isSome ∧ (∀ l, fourW t = some l → n = l.length ∧ RdV w' ao cap (l.map U)) ∧ (fourW t = none → ao = none ∧ n = 0 ∧ cap = 0) ∧ n ≤ 2 ∧ (∀ b off, ao = some ⟨b, off, none⟩ → v.heap.size ≤ b) ∧ Ext v w'
theorem no4 {t : List UInt8} {v w' : World} (h : fourW t = none) (hx : Ext v w') : Tells4 t v (.returned (.tuple #[.slice none 0 0, .bool false])) w' :=
  ⟨none, 0, 0, false, rfl, by rw [h]; rfl, fun l hl => (by rw [h] at hl; cases hl), fun _ => ⟨rfl, rfl, rfl⟩, by omega, fun _ _ e => (by cases e), hx⟩
set_option maxHeartbeats 4000000 in
set_option maxRecDepth 100000 in
theorem rfour_any (s : List UInt8) (w : World) (hs : s.length ≤ 100000) : Calls Tryz.prog 118 #[S s] w (Tells4 s w) := by
  have HC := hide (rcut_any s 46 w (by omega)); have NO : Hid (∀ w', fourL (pcs 46 s) = none → Ext w w' → Tells4 s w (.returned (.tuple #[.slice none 0 0, .bool false])) w') := fun w' h hx => no4 h hx; have YES : Hid (∀ (ao : Option Addr) (w' : World) (x y : Nat), fourL (pcs 46 s) = some [x, y] → RdV w' ao 2 ([x, y].map U) → (∀ b off, ao = some ⟨b, off, none⟩ → w.heap.size ≤ b) → Ext w w' → Tells4 s w (.returned (.tuple #[.slice ao 2 2, .bool true])) w') := fun ao w' x y h hr hb hx =>
    ⟨ao, 2, 2, true, rfl, (by rw [show fourW s = some [x, y] from h]; rfl), fun l hl => (by rw [show fourW s = some [x, y] from h] at hl; cases hl; exact ⟨rfl, hr⟩), fun hl => (by rw [show fourW s = some [x, y] from h] at hl; cases hl), by omega, hb, hx⟩
  have hpl := fun p hp => pcs_len 46 s p hp; generalize pcs 46 s = ps at *; generalize Tells4 s w = Q at *; go_enter Tryz.func118, Tryz.ntmps118; go_wp2_with fail
  refine (unhide HC).mono ?_; rintro e w1 ⟨v, rfl, own, hx1⟩; clear HC; obtain ⟨ao, cap, rfl, hr, _⟩ := RdV.of_owned own; clear own; by_cases h4 : ps.length = 4
  · have h4b : ((ps.length : Int) == 4) = true := by rw [h4]; rfl
    have h4' : (ps.length : Int) = 4 := by omega
    obtain ⟨g, off, rfl, hc⟩ := hr.cells (by rw [List.length_map, h4]; omega); have hgl : g < w1.heap.size := cell_lt (a := ⟨g, off + 0, none⟩) (by have := hc 0 (by rw [List.length_map, h4]; omega); rw [List.getElem?_eq_getElem (by rw [List.length_map, h4]; omega)] at this; exact this); have hle := hr.le; have hmx := hr.max; rw [List.length_map, h4] at hle; have HCS := hide (fun (i : Nat) (hi : i < 4) => (show w1.cell? ⟨g, off + i, none⟩ = some (S (ps.getD i [])) by
      rw [hc i (by rw [List.length_map, h4]; exact hi), List.getElem?_map, List.getElem?_eq_getElem (by rw [h4]; exact hi)]; simp [List.getD, show i < ps.length by rw [h4]; exact hi]))
    have HPL := hide (fun (i : Nat) (hi : i < 4) => (show (ps.getD i []).length ≤ 100000 by
      have := hpl (ps.getD i []) (by simp [List.getD, show i < ps.length by rw [h4]; exact hi]); omega))
    have hA := Ar4.new w1; have hB : Below w1.heap.size w1 (w1.alloc (.cells #[.int .u16 0, .int .u16 0, .int .u16 0, .int .u16 0] 162)) := (Below.refl _ _).alloc (Nat.le_refl _) _; have HBAD := hide (fun (i : Nat) (hi : i < 4) (hn : tenW (ps.getD i []) = none) => fourL_bad hi hn); have HYES := hide (fun (xs : List Nat) (h : ∀ i, i < 4 → tenW (ps.getD i []) = some (xs.getD i 0)) => fourL_yes h4 h); have H4 := hide h4; rw [h4]; clear hc hr hpl h4 h4b h4' hs; go_wp2_with fail
    generalize w1.alloc (.cells #[.int .u16 0, .int .u16 0, .int .u16 0, .int .u16 0] 162) = w2 at *; generalize hvb : w1.heap.size = vb at *; have hwv : w.heap.size ≤ vb := by have := hx1.size; omega
    clear hvb
    go_loopw [6] (fun i wr => ∃ (i' : Nat) (xs : List Nat), i' ≤ 4 ∧ i = .int .i64 (i' : Int) ∧ Hid (Ar4 wr vb xs) ∧ Hid (∀ j, j < i' → tenW (ps.getD j []) = some (xs.getD j 0)) ∧ Hid (∀ j, i' ≤ j → xs.getD j 0 = 0) ∧ Below vb w1 wr) (fun i _ => 4 - (intOf i).toNat)
    case atStart => exact ⟨0, [0, 0, 0, 0], by omega, rfl, hA, hide (fun j hj => absurd hj (by omega)), hide (fun j _ => by match j with | 0 => rfl | 1 => rfl | 2 => rfl | 3 => rfl | _ + 4 => rfl), hB⟩
    case round =>
      clear hA hB; obtain ⟨i, xs, hi, rfl, HA, HT, HZ, hbr⟩ := hrel; obtain ⟨w5, hw5⟩ : ∃ w5, w5 = wr := ⟨_, rfl⟩; subst hw5; have HEX : Hid (∀ w', Below vb w1 w' → Ext w w') := fun w' hb => Ext.then hx1 hb hwv; by_cases hi4 : i < 4
      · have hi4' : (i : Int) < 4 := by omega
        have hi4'' : (i : Int) < (4 : Nat) := by omega
        have HPN := hide (fun (hn : tenW (ps.getD i []) = none) => unhide HBAD i hi4 hn); have hpl := unhide HPL i hi4; have HC0 := hide (fun w' (hb : Below vb w1 w') => (hb.cell (p := ⟨g, off + i, none⟩) hgl).trans (unhide HCS i hi4)); have c1 := unhide HC0 w5 hbr; have HN2 : Hid (∀ x, tenW (ps.getD i []) = some x → ∀ j, j < i + 1 → tenW (ps.getD j []) = some ((xs.set i x).getD j 0)) := fun x hx j hj => by
          by_cases e : j = i
          · rw [e, hx, getD_set_same xs i x (by rw [(unhide HA).1]; exact hi4)]
          · rw [getD_set_other xs i j x (by omega)]; exact unhide HT j (by omega)
        have HZ2 : Hid (∀ x j, i + 1 ≤ j → (xs.set i x).getD j 0 = 0) := fun x j hj => by
          rw [getD_set_other xs i j x (by omega)]; exact unhide HZ j (by omega)
        have HA0 : Hid (Ar4 w5 vb (xs.set i 0)) := by
          show Ar4 _ _ _; rw [set_self xs i (unhide HZ i (Nat.le_refl _)) (by rw [(unhide HA).1]; exact hi4)]; exact HA
        clear HBAD HYES HPL HCS HT HZ HA H4; generalize ps.getD i [] = p at *; have hsz := size_S p; have HIX := hide (fun (v : World) (k : Nat) (hk : k < p.length) => idx_str v p .i64 k hk); have HTN : Hid (¬ (p ≠ [] ∧ p.length ≤ 3 ∧ ¬ (1 < p.length ∧ p.getD 0 0 = 48) ∧ okD 10 p = true ∧ val 10 p ≤ 255) → tenW p = none) := fun h => by
          unfold tenW; rw [if_neg h]
        have HTY : Hid ((p ≠ [] ∧ p.length ≤ 3 ∧ ¬ (1 < p.length ∧ p.getD 0 0 = 48) ∧ okD 10 p = true ∧ val 10 p ≤ 255) → tenW p = some (val 10 p)) := fun h => by
          unfold tenW; rw [if_pos h]
        by_cases hp0 : p.length < 1
        · have hp0' : (p.length : Int) < 1 := by omega
          have HN := hide (unhide NO w5 (unhide HPN (unhide HTN (fun h => h.1 (List.eq_nil_of_length_eq_zero (by omega))))) (unhide HEX w5 hbr)); clear NO YES HPN HTN HTY HN2 HZ2 HA0 HC0 HEX HIX; go_wp2; exact unhide HN
        · have hp0' : ¬ (p.length : Int) < 1 := by omega
          by_cases hp3 : p.length ≤ 3
          · have hp3' : ¬ (3 : Int) < (p.length : Int) := by omega
            by_cases hp1 : 1 < p.length
            · have hp1' : (1 : Int) < (p.length : Int) := by omega
              have i0 : (Instr.index 9 (S p) (.int .i64 0)).run Tryz.prog w5 = .ok (B (p.getD 0 0)) w5 := unhide HIX w5 0 (by omega); by_cases h48 : p.getD 0 0 = 48
              · have e48 : (((p.getD 0 0).toNat : Int) == 48) = true := by rw [h48]; rfl
                have e48' : ((p.getD 0 0).toNat : Int) = 48 := by rw [h48]; rfl
                have HN := hide (unhide NO w5 (unhide HPN (unhide HTN (fun h => h.2.2.1 ⟨hp1, h48⟩))) (unhide HEX w5 hbr)); clear NO YES HPN HTN HTY HN2 HZ2 HA0 HC0 HEX HIX h48; generalize p.getD 0 0 = y at *; go_wp2; exact unhide HN
              · have e48 : (((p.getD 0 0).toNat : Int) == 48) = false := by
                  rw [beq_eq_false_iff_ne]; intro e; exact h48 (UInt8.toNat_inj.1 (by show (p.getD 0 0).toNat = 48; omega))
                have e48' : ¬ ((p.getD 0 0).toNat : Int) = 48 := by
                  intro e; exact h48 (UInt8.toNat_inj.1 (by show (p.getD 0 0).toNat = 48; omega))
                have HNZ : Hid (¬ (1 < p.length ∧ p.getD 0 0 = 48)) := fun h => h48 h.2; clear h48; generalize p.getD 0 0 = y at *; go_wp2_with fail
                go_loopw [7] (fun k w' => ∃ (k' x : Nat), k' ≤ p.length ∧ k = .int .i64 (k' : Int) ∧ Hid (∀ z ∈ p.take k', dgV z < 10) ∧ Hid (x = val 10 (p.take k')) ∧ Hid (x < 10 ^ k') ∧ Hid (Ar4 w' vb (xs.set i x)) ∧ Below vb w1 w') (fun k _ => p.length - (intOf k).toNat)
                case atStart => exact ⟨0, 0, by omega, rfl, hide (by simp), hide rfl, hide (by decide), HA0, hbr⟩
                case round =>
                  obtain ⟨k, x, hk, rfl, HOK, HV, HP, HAx, hbx⟩ := hrel; obtain ⟨w6, hw6⟩ : ∃ w6, w6 = wr := ⟨_, rfl⟩; subst hw6; have c2 := unhide HC0 w6 hbx; have a1 := (unhide HAx).cell i hi4; rw [getD_set_same xs i x (by have := (unhide HAx).1; rw [List.length_set] at this; omega)] at a1; clear c1 HA0 hbr; by_cases hkl : k < p.length
                  · have hkl' : (k : Int) < (p.length : Int) := by omega
                    have hx0 := unhide HIX w6 k hkl; have HTK := hide (take_snoc p k 0 hkl); have HMM := hide (getD_mem p k hkl); have HZZ := hide (at_bytes p k); have hxl : x ≤ 99 := by
                      have h1 := unhide HP; have h2 : 10 ^ k ≤ 10 ^ 2 := Nat.pow_le_pow_right (by decide) (by omega); omega
                    have HVS := hide (show val 10 (p.take (k + 1)) = x * 10 + dgV (p.getD k 0) by rw [unhide HTK, val_snoc, ← unhide HV]); generalize p.getD k 0 = z at *; by_cases hz1 : z.toNat < 48
                    · have hz1' : (z.toNat : Int) < 48 := by omega
                      have HN := hide (unhide NO w6 (unhide HPN (unhide HTN (fun h => by
                        have := List.all_eq_true.1 h.2.2.2.1 z (unhide HMM); simp at this; exact dgV_not z (by omega) this))) (unhide HEX w6 hbx))
                      clear NO YES HPN HTN HTY HN2 HZ2 HC0 HEX HIX HOK HV HP HAx HTK HMM HVS HNZ HZZ; go_wp2; exact unhide HN
                    · have hz1' : ¬ (z.toNat : Int) < 48 := by omega
                      by_cases hz2 : z.toNat ≤ 57
                      · have hz2' : ¬ (57 : Int) < (z.toNat : Int) := by omega
                        have hd := dgV_ten z (by omega) hz2; have f1 := (unhide HAx).froz i; have KK : Hid (∃ (k' x' : Nat), k' ≤ p.length ∧ Value.int .i64 ((k : Int) + 1) = .int .i64 (k' : Int) ∧ Hid (∀ z ∈ p.take k', dgV z < 10) ∧ Hid (x' = val 10 (p.take k')) ∧ Hid (x' < 10 ^ k') ∧ Hid (Ar4 ((w6.setCell ⟨vb, i, none⟩ (U (x * 10 + dgV z))).drew) vb (xs.set i x')) ∧ Below vb w1 ((w6.setCell ⟨vb, i, none⟩ (U (x * 10 + dgV z))).drew)) := by
                          refine ⟨k + 1, x * 10 + dgV z, by omega, by simp, ?_, (unhide HVS).symm, ?_, ?_, ?_⟩
                          · show ∀ y ∈ p.take (k + 1), dgV y < 10; rw [unhide HTK]; intro y hy; rcases List.mem_append.1 hy with hy | hy
                            · exact unhide HOK y hy
                            · rw [List.mem_singleton] at hy; rw [hy, hd]; omega
                          · show x * 10 + dgV z < 10 ^ (k + 1); have h1 := unhide HP; rw [Nat.pow_succ, hd]; omega
                          · have := (unhide HAx).set i (x * 10 + dgV z); rw [set_set] at this; exact this
                          · exact (hbx.setCell (p := ⟨vb, i, none⟩) (Nat.le_refl _) _).drew
                        have hnum : ((x * 10 + dgV z : Nat) : Int) = (x : Int) * 10 + ((z.toNat : Int) - 48) := by rw [hd]; omega
                        unfold U at KK; rw [hnum] at KK; clear hnum; have K2 := hide (And.intro (unhide KK) (show p.length - ((k : Int) + 1).toNat < p.length - ((k : Int)).toNat by omega)); clear KK NO YES HPN HTN HTY HN2 HZ2 HC0 HEX HOK HV HP HAx HTK HMM HVS HNZ HIX hd; have q1 : IntKind.u16.wrap ((x : Int) * 10) = (x : Int) * 10 := by rw [IntKind.wrap_u16]; omega
                        have hzz := unhide HZZ; have m2 : ((z.toNat : Int) - 48) % 256 = (z.toNat : Int) - 48 := by omega
                        have q2 : IntKind.u8.wrap ((z.toNat : Int) - 48) = (z.toNat : Int) - 48 := by rw [IntKind.wrap_u8]; omega
                        have q3 : IntKind.u16.wrap ((z.toNat : Int) - 48) = (z.toNat : Int) - 48 := by rw [IntKind.wrap_u16]; omega
                        have q4 : IntKind.u16.wrap ((x : Int) * 10 + ((z.toNat : Int) - 48)) = (x : Int) * 10 + ((z.toNat : Int) - 48) := by rw [IntKind.wrap_u16]; omega
                        have q5 : IntKind.i64.wrap ((k : Int) + 1) = (k : Int) + 1 := by rw [IntKind.wrap_i64]; omega
                        go_wp2_with fail
                        go_region
                        clear a1 c2 f1 hx0 hzz m2 HZZ; generalize (w6.setCell ⟨vb, i, none⟩ (.int .u16 ((x : Int) * 10 + ((z.toNat : Int) - 48)))).drew = w7 at *; go_wp2; exact unhide K2
                      · have hz2' : (57 : Int) < (z.toNat : Int) := by omega
                        have HN := hide (unhide NO w6 (unhide HPN (unhide HTN (fun h => by
                          have := List.all_eq_true.1 h.2.2.2.1 z (unhide HMM); simp at this; exact dgV_not z (by omega) this))) (unhide HEX w6 hbx))
                        clear NO YES HPN HTN HTY HN2 HZ2 HC0 HEX HIX HOK HV HP HAx HTK HMM HVS HNZ HZZ; go_wp2; exact unhide HN
                  · have hkl' : ¬ (k : Int) < (p.length : Int) := by omega
                    have hok := unhide HOK; have hv := unhide HV; rw [List.take_of_length_le (by omega)] at hok hv; have HALL : Hid (okD 10 p = true) := by
                      show okD 10 p = true; unfold okD; rw [List.all_eq_true]; intro y hy; simpa using hok y hy
                    have hxl : x ≤ 999 := by
                      have h1 := unhide HP; have h2 : 10 ^ k ≤ 10 ^ 3 := Nat.pow_le_pow_right (by decide) (by omega); omega
                    by_cases h255 : x ≤ 255
                    · have h255' : ¬ (255 : Int) < (x : Int) := by omega
                      have htw : tenW p = some x := by
                        rw [unhide HTY ⟨fun e => hp0 (by rw [e]; decide), hp3, unhide HNZ, unhide HALL, by omega⟩, hv]
                      have K2 := hide (And.intro (show ∃ (i' : Nat) (xs' : List Nat), i' ≤ 4 ∧ Value.int .i64 ((i : Int) + 1) = .int .i64 (i' : Int) ∧ Hid (Ar4 w6 vb xs') ∧ Hid (∀ j, j < i' → tenW (ps.getD j []) = some (xs'.getD j 0)) ∧ Hid (∀ j, i' ≤ j → xs'.getD j 0 = 0) ∧ Below vb w1 w6 from ⟨i + 1, xs.set i x, by omega, by simp, HAx, hide (unhide HN2 x htw), hide (unhide HZ2 x), hbx⟩) (show 4 - ((i : Int) + 1).toNat < 4 - ((i : Int)).toNat by omega)); clear NO YES HPN HTN HTY HN2 HZ2 HC0 HEX HIX HOK HV HP HAx HNZ HALL hok hv htw; go_wp2; exact unhide K2
                    · have h255' : (255 : Int) < (x : Int) := by omega
                      have HN := hide (unhide NO w6 (unhide HPN (unhide HTN (fun h => h255 (by rw [hv]; exact h.2.2.2.2)))) (unhide HEX w6 hbx)); clear NO YES HPN HTN HTY HN2 HZ2 HC0 HEX HIX HOK HV HP HAx HNZ HALL hok hv; go_wp2; exact unhide HN
            · have hp1' : ¬ (1 : Int) < (p.length : Int) := by omega
              have HNZ : Hid (¬ (1 < p.length ∧ p.getD 0 0 = 48)) := fun h => hp1 h.1; go_wp2_with fail
              go_loopw [7] (fun k w' => ∃ (k' x : Nat), k' ≤ p.length ∧ k = .int .i64 (k' : Int) ∧ Hid (∀ z ∈ p.take k', dgV z < 10) ∧ Hid (x = val 10 (p.take k')) ∧ Hid (x < 10 ^ k') ∧ Hid (Ar4 w' vb (xs.set i x)) ∧ Below vb w1 w') (fun k _ => p.length - (intOf k).toNat)
              case atStart => exact ⟨0, 0, by omega, rfl, hide (by simp), hide rfl, hide (by decide), HA0, hbr⟩
              case round =>
                obtain ⟨k, x, hk, rfl, HOK, HV, HP, HAx, hbx⟩ := hrel; obtain ⟨w6, hw6⟩ : ∃ w6, w6 = wr := ⟨_, rfl⟩; subst hw6; have c2 := unhide HC0 w6 hbx; have a1 := (unhide HAx).cell i hi4; rw [getD_set_same xs i x (by have := (unhide HAx).1; rw [List.length_set] at this; omega)] at a1; clear c1 HA0 hbr; by_cases hkl : k < p.length
                · have hkl' : (k : Int) < (p.length : Int) := by omega
                  have hx0 := unhide HIX w6 k hkl; have HTK := hide (take_snoc p k 0 hkl); have HMM := hide (getD_mem p k hkl); have HZZ := hide (at_bytes p k); have hxl : x ≤ 99 := by
                    have h1 := unhide HP; have h2 : 10 ^ k ≤ 10 ^ 2 := Nat.pow_le_pow_right (by decide) (by omega); omega
                  have HVS := hide (show val 10 (p.take (k + 1)) = x * 10 + dgV (p.getD k 0) by rw [unhide HTK, val_snoc, ← unhide HV]); generalize p.getD k 0 = z at *; by_cases hz1 : z.toNat < 48
                  · have hz1' : (z.toNat : Int) < 48 := by omega
                    have HN := hide (unhide NO w6 (unhide HPN (unhide HTN (fun h => by
                      have := List.all_eq_true.1 h.2.2.2.1 z (unhide HMM); simp at this; exact dgV_not z (by omega) this))) (unhide HEX w6 hbx))
                    clear NO YES HPN HTN HTY HN2 HZ2 HC0 HEX HIX HOK HV HP HAx HTK HMM HVS HNZ HZZ; go_wp2; exact unhide HN
                  · have hz1' : ¬ (z.toNat : Int) < 48 := by omega
                    by_cases hz2 : z.toNat ≤ 57
                    · have hz2' : ¬ (57 : Int) < (z.toNat : Int) := by omega
                      have hd := dgV_ten z (by omega) hz2; have f1 := (unhide HAx).froz i; have KK : Hid (∃ (k' x' : Nat), k' ≤ p.length ∧ Value.int .i64 ((k : Int) + 1) = .int .i64 (k' : Int) ∧ Hid (∀ z ∈ p.take k', dgV z < 10) ∧ Hid (x' = val 10 (p.take k')) ∧ Hid (x' < 10 ^ k') ∧ Hid (Ar4 ((w6.setCell ⟨vb, i, none⟩ (U (x * 10 + dgV z))).drew) vb (xs.set i x')) ∧ Below vb w1 ((w6.setCell ⟨vb, i, none⟩ (U (x * 10 + dgV z))).drew)) := by
                        refine ⟨k + 1, x * 10 + dgV z, by omega, by simp, ?_, (unhide HVS).symm, ?_, ?_, ?_⟩
                        · show ∀ y ∈ p.take (k + 1), dgV y < 10; rw [unhide HTK]; intro y hy; rcases List.mem_append.1 hy with hy | hy
                          · exact unhide HOK y hy
                          · rw [List.mem_singleton] at hy; rw [hy, hd]; omega
                        · show x * 10 + dgV z < 10 ^ (k + 1); have h1 := unhide HP; rw [Nat.pow_succ, hd]; omega
                        · have := (unhide HAx).set i (x * 10 + dgV z); rw [set_set] at this; exact this
                        · exact (hbx.setCell (p := ⟨vb, i, none⟩) (Nat.le_refl _) _).drew
                      have hnum : ((x * 10 + dgV z : Nat) : Int) = (x : Int) * 10 + ((z.toNat : Int) - 48) := by rw [hd]; omega
                      unfold U at KK; rw [hnum] at KK; clear hnum; have K2 := hide (And.intro (unhide KK) (show p.length - ((k : Int) + 1).toNat < p.length - ((k : Int)).toNat by omega)); clear KK NO YES HPN HTN HTY HN2 HZ2 HC0 HEX HOK HV HP HAx HTK HMM HVS HNZ HIX hd; have q1 : IntKind.u16.wrap ((x : Int) * 10) = (x : Int) * 10 := by rw [IntKind.wrap_u16]; omega
                      have hzz := unhide HZZ; have m2 : ((z.toNat : Int) - 48) % 256 = (z.toNat : Int) - 48 := by omega
                      have q2 : IntKind.u8.wrap ((z.toNat : Int) - 48) = (z.toNat : Int) - 48 := by rw [IntKind.wrap_u8]; omega
                      have q3 : IntKind.u16.wrap ((z.toNat : Int) - 48) = (z.toNat : Int) - 48 := by rw [IntKind.wrap_u16]; omega
                      have q4 : IntKind.u16.wrap ((x : Int) * 10 + ((z.toNat : Int) - 48)) = (x : Int) * 10 + ((z.toNat : Int) - 48) := by rw [IntKind.wrap_u16]; omega
                      have q5 : IntKind.i64.wrap ((k : Int) + 1) = (k : Int) + 1 := by rw [IntKind.wrap_i64]; omega
                      go_wp2_with fail
                      go_region
                      clear a1 c2 f1 hx0 hzz m2 HZZ; generalize (w6.setCell ⟨vb, i, none⟩ (.int .u16 ((x : Int) * 10 + ((z.toNat : Int) - 48)))).drew = w7 at *; go_wp2; exact unhide K2
                    · have hz2' : (57 : Int) < (z.toNat : Int) := by omega
                      have HN := hide (unhide NO w6 (unhide HPN (unhide HTN (fun h => by
                        have := List.all_eq_true.1 h.2.2.2.1 z (unhide HMM); simp at this; exact dgV_not z (by omega) this))) (unhide HEX w6 hbx))
                      clear NO YES HPN HTN HTY HN2 HZ2 HC0 HEX HIX HOK HV HP HAx HTK HMM HVS HNZ HZZ; go_wp2; exact unhide HN
                · have hkl' : ¬ (k : Int) < (p.length : Int) := by omega
                  have hok := unhide HOK; have hv := unhide HV; rw [List.take_of_length_le (by omega)] at hok hv; have HALL : Hid (okD 10 p = true) := by
                    show okD 10 p = true; unfold okD; rw [List.all_eq_true]; intro y hy; simpa using hok y hy
                  have hxl : x ≤ 999 := by
                    have h1 := unhide HP; have h2 : 10 ^ k ≤ 10 ^ 3 := Nat.pow_le_pow_right (by decide) (by omega); omega
                  by_cases h255 : x ≤ 255
                  · have h255' : ¬ (255 : Int) < (x : Int) := by omega
                    have htw : tenW p = some x := by
                      rw [unhide HTY ⟨fun e => hp0 (by rw [e]; decide), hp3, unhide HNZ, unhide HALL, by omega⟩, hv]
                    have K2 := hide (And.intro (show ∃ (i' : Nat) (xs' : List Nat), i' ≤ 4 ∧ Value.int .i64 ((i : Int) + 1) = .int .i64 (i' : Int) ∧ Hid (Ar4 w6 vb xs') ∧ Hid (∀ j, j < i' → tenW (ps.getD j []) = some (xs'.getD j 0)) ∧ Hid (∀ j, i' ≤ j → xs'.getD j 0 = 0) ∧ Below vb w1 w6 from ⟨i + 1, xs.set i x, by omega, by simp, HAx, hide (unhide HN2 x htw), hide (unhide HZ2 x), hbx⟩) (show 4 - ((i : Int) + 1).toNat < 4 - ((i : Int)).toNat by omega)); clear NO YES HPN HTN HTY HN2 HZ2 HC0 HEX HIX HOK HV HP HAx HNZ HALL hok hv htw; go_wp2; exact unhide K2
                  · have h255' : (255 : Int) < (x : Int) := by omega
                    have HN := hide (unhide NO w6 (unhide HPN (unhide HTN (fun h => h255 (by rw [hv]; exact h.2.2.2.2)))) (unhide HEX w6 hbx)); clear NO YES HPN HTN HTY HN2 HZ2 HC0 HEX HIX HOK HV HP HAx HNZ HALL hok hv; go_wp2; exact unhide HN
          · have hp3' : (3 : Int) < (p.length : Int) := by omega
            have HN := hide (unhide NO w5 (unhide HPN (unhide HTN (fun h => hp3 h.2.1))) (unhide HEX w5 hbr)); clear NO YES HPN HTN HTY HN2 HZ2 HA0 HC0 HEX HIX; go_wp2; exact unhide HN
      · have hi4' : ¬ (i : Int) < 4 := by omega
        have e4 : i = 4 := by omega
        have hA := unhide HA; have hval := unhide HYES xs (fun j hj => unhide HT j (by omega)); have d0 := hA.cell 0 (by decide); have d1 := hA.cell 1 (by decide); have d2 := hA.cell 2 (by decide); have d3 := hA.cell 3 (by decide); have s0 : xs.getD 0 0 ≤ 255 := tenW_small (unhide HT 0 (by omega)); have s1 : xs.getD 1 0 ≤ 255 := tenW_small (unhide HT 1 (by omega)); have s2 : xs.getD 2 0 ≤ 255 := tenW_small (unhide HT 2 (by omega)); have s3 : xs.getD 3 0 ≤ 255 := tenW_small (unhide HT 3 (by omega)); clear HBAD HYES HPL HCS HT HZ HA H4 hA NO; generalize xs.getD 0 0 = x0 at *; generalize xs.getD 1 0 = x1 at *; generalize xs.getD 2 0 = x2 at *; generalize xs.getD 3 0 = x3 at *; have HV2 := hide hval; clear hval; have o1 := or8 x0 x1 s0 s1; have o2 := or8 x2 x3 s2 s3; have HX2 := hide (unhide HEX w5 hbr); go_wp2; have hcast : ([x0 * 256 + x1, x2 * 256 + x3].map U) = [.int .u16 ((x0 : Int) * 256 + (x1 : Int)), .int .u16 ((x2 : Int) * 256 + (x3 : Int))] := by simp [U]
        refine unhide YES _ _ (x0 * 256 + x1) (x2 * 256 + x3) (unhide HV2) ?_ ?_ (Ext.trans (unhide HX2) (Ext.alloc _ _))
        · rw [hcast]; exact RdV.lit w5 _ 35 (0, 0) (by simp)
        · intro b off' e; have := (unhide HX2).size; simp only [Option.some.injEq, Addr.mk.injEq] at e; omega
  · have h4b : ((ps.length : Int) == 4) = false := by rw [beq_eq_false_iff_ne]; omega
    have h4' : ¬ (ps.length : Int) = 4 := by omega
    have HN := hide (unhide NO w1 (fourL_short h4) hx1); have hle := hr.le; have hmx := hr.max; rw [List.length_map] at hle; clear NO YES hr hpl; go_wp2; exact unhide HN
end Go.Proofs.YtenlampiiodkhaaGreatDoor
namespace Go.Proofs.YtenlampiiodkhaaGreatDoor
set_option linter.unusedVariables false
open Go.RowKit
theorem infoU6 : (Tryz.prog.info? 35).map (fun i => (i.zero, i.size, i.bytes)) = some (some (.int .u16 0), 1, 2) := by kernel_rfl
theorem own_base {w : World} {base e n cap : Nat} {ao : Option Addr} {xs : List Value} (h : w.ownsRow base e 1 (.slice ao n cap) n xs) : ∀ b off, ao = some ⟨b, off, none⟩ → base ≤ b := by
  intro b off e1; rcases h.2 with ⟨h1, _⟩ | ⟨g, c, cur, h1, h2, _⟩
  · simp only [Value.slice.injEq] at h1; rw [h1.1] at e1
    cases e1
  · simp only [Value.slice.injEq] at h1; rw [h1.1] at e1; simp only [Option.some.injEq, Addr.mk.injEq] at e1; omega
theorem one_U (l : List Nat) : ∀ u ∈ l.map U, u.oneCell' = true := by
  intro u hu; obtain ⟨x, _, rfl⟩ := List.mem_map.1 hu; rfl
theorem or4 (a b : Nat) (ha : a ≤ 4095) (hb : b < 16) : bits .or .u16 ((a : Int) * 16) (b : Int) = (a : Int) * 16 + (b : Int) := by
  have := or_low16 4 a b (by omega) (by omega); rw [show ((2 ^ 4 * a : Nat) : Int) = (a : Int) * 16 by omega] at this; rw [this]; omega
theorem drop_at6 (ps : List (List UInt8)) (k : Nat) (h : k < ps.length) : ps.drop k = ps.getD k [] :: ps.drop (k + 1) := by
  rw [List.drop_eq_getElem_cons h]; simp [List.getD, h]
theorem pcsG_word {tail : Bool} {p : List UInt8} {t : List (List UInt8)} (h : ¬ (tail = true ∧ t = [] ∧ (46 : UInt8) ∈ p)) : pcsG tail (p :: t) = (hexW p).bind fun v => (pcsG tail t).map fun l => v :: l := by
  rw [pcsG, if_neg h]
theorem pcsG_four {tail : Bool} {p : List UInt8} {t : List (List UInt8)} (h : tail = true ∧ t = [] ∧ (46 : UInt8) ∈ p) : pcsG tail (p :: t) = fourW p := by
  rw [pcsG, if_pos h]
theorem pc_bad {o : Option (List Nat)} {vs : List Nat} {q : Option (List Nat)} (h : o = q.map (vs ++ ·)) (hq : q = none) : o = none := by rw [h, hq]; rfl
theorem pc_more {o : Option (List Nat)} {vs : List Nat} {v : Nat} {q : Option (List Nat)} (h : o = ((some v).bind fun v => q.map fun l => v :: l).map (vs ++ ·)) : o = q.map ((vs ++ [v]) ++ ·) := by
  rw [h]
  cases q with
  | none => rfl
  | some l => simp
theorem no6 {tail : Bool} {t : List UInt8} {v w' : World} (h : piecesO tail t = none) (hx : Ext v w') : Tells6 tail t v (.returned (.tuple #[.slice none 0 0, .bool false])) w' :=
  ⟨none, 0, 0, false, rfl, by rw [h]; rfl, fun l hl => (by rw [h] at hl; cases hl), by omega, fun _ _ e => (by cases e), hx⟩
theorem nox6 {tail : Bool} {t : List UInt8} {v w' : World} (h : piecesO tail t = none) (ao : Option Addr) (n cap : Nat) (hn : n ≤ 1000) (hb : ∀ b off, ao = some ⟨b, off, none⟩ → v.heap.size ≤ b) (hx : Ext v w') : Tells6 tail t v (.returned (.tuple #[.slice ao n cap, .bool false])) w' :=
  ⟨ao, n, cap, false, rfl, by rw [h]; rfl, fun l hl => (by rw [h] at hl; cases hl), hn, hb, hx⟩
theorem yes6 {tail : Bool} {t : List UInt8} {v w' : World} {l : List Nat} (h : piecesO tail t = some l) (ao : Option Addr) (n cap : Nat) (hnl : n = l.length) (hn : n ≤ 1000) (hr : RdV w' ao cap (l.map U)) (hb : ∀ b off, ao = some ⟨b, off, none⟩ → v.heap.size ≤ b) (hx : Ext v w') : Tells6 tail t v (.returned (.tuple #[.slice ao n cap, .bool true])) w' :=
  ⟨ao, n, cap, true, rfl, by rw [h]; rfl, fun l2 hl => (by rw [h] at hl; cases hl; exact ⟨hnl, hr⟩), hn, hb, hx⟩
set_option maxHeartbeats 4000000 in
set_option maxRecDepth 100000 in
theorem rpieces_any (tail : Bool) (s : List UInt8) (w : World) (hs : s.length ≤ 200) : Calls Tryz.prog 75 #[S s, .bool tail] w (Tells6 tail s w) := by
  by_cases hs0 : s = []
  · subst hs0; have HY : Hid (∀ w', Ext w w' → Tells6 tail [] w (.returned (.tuple #[.slice none 0 0, .bool true])) w') := fun w' hx => yes6 (l := []) (by rfl) none 0 0 rfl (by omega) (RdV.nothing w') (fun _ _ e => by cases e) hx; have he := Ext.refl w; generalize Tells6 tail [] w = Q at *; go_enter Tryz.func75, Tryz.ntmps75; go_wp2; exact unhide HY w he
  · have HC := hide (rcut_any s 58 w (by omega)); have hpo : piecesO tail s = pcsG tail (pcs 58 s) := by
      unfold piecesO; rw [if_neg hs0]
    have NO : Hid (∀ w', pcsG tail (pcs 58 s) = none → Ext w w' → Tells6 tail s w (.returned (.tuple #[.slice none 0 0, .bool false])) w') := fun w' h hx => no6 (hpo.trans h) hx; have NOX : Hid (∀ (ao : Option Addr) (n cap : Nat) (w' : World), pcsG tail (pcs 58 s) = none → n ≤ 1000 → (∀ b off, ao = some ⟨b, off, none⟩ → w.heap.size ≤ b) → Ext w w' → Tells6 tail s w (.returned (.tuple #[.slice ao n cap, .bool false])) w') := fun ao n cap w' h hn hb hx => nox6 (hpo.trans h) ao n cap hn hb hx; have YES : Hid (∀ (l : List Nat) (ao : Option Addr) (n cap : Nat) (w' : World), pcsG tail (pcs 58 s) = some l → n = l.length → n ≤ 1000 → RdV w' ao cap (l.map U) → (∀ b off, ao = some ⟨b, off, none⟩ → w.heap.size ≤ b) → Ext w w' → Tells6 tail s w (.returned (.tuple #[.slice ao n cap, .bool true])) w') := fun l ao n cap w' h h1 h2 h3 h4 h5 => yes6 (hpo.trans h) ao n cap h1 h2 h3 h4 h5; have hpl := fun p hp => pcs_len 58 s p hp; have hn0 := List.length_pos_iff.2 (pcs_ne 58 s); have hn1 : (pcs 58 s).length ≤ 201 := by
      rw [pcs_count]; have : Lib.countByte s 58 ≤ s.length := List.count_le_length; omega
    have hse : ¬ ((⟨s.toArray⟩ : ByteArray) = ⟨#[]⟩) := fun e => hs0 (by
      have := congrArg (fun b : ByteArray => b.data.toList) e; simpa using this)
    have hie : s.isEmpty = false := by simpa using hs0
    clear hpo hs0; generalize pcs 58 s = ps at *; generalize Tells6 tail s w = Q at *; go_enter Tryz.func75, Tryz.ntmps75; go_wp2_with fail
    refine (unhide HC).mono ?_; rintro e w1 ⟨v, rfl, own, hx1⟩; clear HC hse hie; obtain ⟨ao, cap, rfl, hr, _⟩ := RdV.of_owned own; clear own; obtain ⟨g, off, rfl, hc⟩ := hr.cells (by rw [List.length_map]; omega); have hgl : g < w1.heap.size := cell_lt (a := ⟨g, off + 0, none⟩) (by have := hc 0 (by rw [List.length_map]; omega); rw [List.getElem?_eq_getElem (by rw [List.length_map]; omega)] at this; exact this); have hle := hr.le; have hmx := hr.max; rw [List.length_map] at hle; have HCS := hide (fun (i : Nat) (hi : i < ps.length) => (show w1.cell? ⟨g, off + i, none⟩ = some (S (ps.getD i [])) by
      rw [hc i (by rw [List.length_map]; exact hi), List.getElem?_map, List.getElem?_eq_getElem hi]; simp [List.getD, hi]))
    have HPL := hide (fun (i : Nat) (hi : i < ps.length) => (show (ps.getD i []).length ≤ 200 by
      have := hpl (ps.getD i []) (by simp [List.getD, hi]); omega))
    have HDR := hide (fun (i : Nat) (hi : i < ps.length) => drop_at6 ps i hi); have HEX : Hid (∀ w', Below w1.heap.size w1 w' → Ext w w') := fun w' hb => Ext.then hx1 hb hx1.size; have HWV := hide hx1.size; clear hc hr hpl hs; generalize hM : ps.length = M at *; have hMS := hide hM; clear hM; generalize hvb : w1.heap.size = vb at *; have HVB := hide hvb; clear hvb; go_wp2_with fail
    go_loopw [7, 8] (fun o i wr => ∃ (k : Nat) (vs : List Nat), k ≤ M ∧ i = .int .i64 (k : Int) ∧ Hid (vs.length = k) ∧ Hid (pcsG tail ps = (pcsG tail (ps.drop k)).map (vs ++ ·)) ∧ wr.ownsRow vb 35 1 o k (vs.map U) ∧ Below vb w1 wr) (fun _ i _ => M - (intOf i).toNat)
    case atStart => exact ⟨0, [], by omega, rfl, hide rfl, hide (show pcsG tail ps = _ by cases h : pcsG tail ps <;> simp [h]), World.ownsRow_nil _ _ _ _, Below.refl _ _⟩
    case round =>
      obtain ⟨k, vs, hk, rfl, HVL, HPC, own, hbr⟩ := hrel; obtain ⟨w5, hw5⟩ : ∃ w5, w5 = wr := ⟨_, rfl⟩; subst hw5; obtain ⟨ao, oc, rfl, hro, _⟩ := RdV.of_owned own; have hvl := unhide HVL; by_cases hkM : k < M
      · have hkM' : (k : Int) < (M : Int) := by omega
        have hd := unhide HDR k hkM; have hpl := unhide HPL k hkM; have HC0 := hide (fun w' (hb : Below vb w1 w') => (hb.cell (p := ⟨g, off + k, none⟩) hgl).trans (unhide HCS k hkM)); have c1 := unhide HC0 w5 hbr; have hvs5 : vb ≤ w5.heap.size := by have := hbr.size; have := unhide HVB; omega
        have htl : (ps.drop (k + 1) = []) ↔ k + 1 = M := by
          rw [List.drop_eq_nil_iff, unhide hMS]; omega
        rw [hd] at HPC; clear HCS HPL HDR hd; generalize ps.getD k [] = p at *; have hsz := size_S p; have HIX := hide (fun (v : World) (k : Nat) (hk : k < p.length) => idx_str v p .i64 k hk)
        cases tail with
        | false =>
          have HPW := hide (show pcsG false ps = ((hexW p).bind fun v => (pcsG false (ps.drop (k + 1))).map fun l => v :: l).map (vs ++ ·) by rw [← pcsG_word (by simp)]; exact unhide HPC); clear htl HPC; have HWN : Hid (¬ (p ≠ [] ∧ p.length ≤ 4 ∧ okD 16 p = true) → pcsG false ps = none) := fun h => pc_bad (unhide HPW) (by
            unfold hexW; rw [if_neg h]; rfl)
          have HWY : Hid ((p ≠ [] ∧ p.length ≤ 4 ∧ okD 16 p = true) → pcsG false ps = (pcsG false (ps.drop (k + 1))).map ((vs ++ [val 16 p]) ++ ·)) := fun h => pc_more (by
            have := unhide HPW; unfold hexW at this; rw [if_pos h] at this; exact this)
          clear HPW; by_cases hp0 : p.length < 1
          · have hp0' : (p.length : Int) < 1 := by omega
            have HN := hide (unhide NO w5 (unhide HWN (fun h => h.1 (List.eq_nil_of_length_eq_zero (by omega)))) (unhide HEX w5 hbr)); clear NO NOX YES HWN HWY own hro HC0 HIX; go_wp2; exact unhide HN
          · have hp0' : ¬ (p.length : Int) < 1 := by omega
            by_cases hp4 : p.length ≤ 4
            · have hp4' : ¬ (4 : Int) < (p.length : Int) := by omega
              clear hro; go_wp2_with fail
              go_loopw [11, 12] (fun x j w' => ∃ (j' x' : Nat), j' ≤ p.length ∧ j = .int .i64 (j' : Int) ∧ x = .int .u16 (x' : Int) ∧ Hid (∀ z ∈ p.take j', dgV z < 16) ∧ Hid (x' = val 16 (p.take j')) ∧ Hid (x' < 16 ^ j') ∧ w' = w5) (fun _ j _ => p.length - (intOf j).toNat)
              case atStart => exact ⟨0, 0, by omega, rfl, rfl, hide (by simp), hide rfl, hide (by decide), rfl⟩
              case round =>
                obtain ⟨j, x, hj, rfl, rfl, HOK, HV, HP, hw⟩ := hrel; have hw3 := hw.symm; clear hw; subst hw3; by_cases hjl : j < p.length
                · have hjl' : (j : Int) < (p.length : Int) := by omega
                  have hx0 := unhide HIX w5 j hjl; have HTK := hide (take_snoc p j 0 hjl); have HMM := hide (getD_mem p j hjl); have CC := hide (hex_any (p.getD j 0) w5); have hxl : x ≤ 4095 := by
                    have h1 := unhide HP; have h2 : 16 ^ j ≤ 16 ^ 3 := Nat.pow_le_pow_right (by decide) (by omega); omega
                  have HVS := hide (show val 16 (p.take (j + 1)) = x * 16 + dgV (p.getD j 0) by rw [unhide HTK, val_snoc, ← unhide HV]); unfold hexI at CC; generalize p.getD j 0 = z at *; by_cases hz : dgV z < 16
                  · rw [if_pos hz] at CC; have K2 : Hid (∀ y : Nat, (y : Int) = (x : Int) * 16 + (dgV z : Int) → (∃ (j' x' : Nat), j' ≤ p.length ∧ Value.int .i64 ((j : Int) + 1) = .int .i64 (j' : Int) ∧ Value.int .u16 ((x : Int) * 16 + (dgV z : Int)) = .int .u16 (x' : Int) ∧ Hid (∀ z ∈ p.take j', dgV z < 16) ∧ Hid (x' = val 16 (p.take j')) ∧ Hid (x' < 16 ^ j') ∧ w5 = w5) ∧ p.length - ((j : Int) + 1).toNat < p.length - ((j : Int)).toNat) := by
                      intro y hy; have hyy : y = x * 16 + dgV z := by omega
                      refine ⟨⟨j + 1, y, by omega, by simp, by rw [hy], ?_, ?_, ?_, rfl⟩, by omega⟩
                      · show ∀ y ∈ p.take (j + 1), dgV y < 16; rw [unhide HTK]; intro y hy; rcases List.mem_append.1 hy with hy | hy
                        · exact unhide HOK y hy
                        · rw [List.mem_singleton] at hy; rw [hy]; exact hz
                      · rw [hyy]; exact (unhide HVS).symm
                      · show y < 16 ^ (j + 1); have h1 := unhide HP; rw [Nat.pow_succ, hyy]; omega
                    have K3 := hide (unhide K2 (x * 16 + dgV z) (by omega)); clear K2 NO NOX YES HWN HWY own HC0 HIX HOK HV HP HTK HMM HVS; generalize dgV z = d at *; have q0 : ¬ (d : Int) < 0 := by omega
                    have q1 : IntKind.u16.wrap (d : Int) = (d : Int) := by rw [IntKind.wrap_u16]; omega
                    have q2 := or4 x d hxl hz; go_wp2_with fail
                    refine (unhide CC).mono ?_; rintro e w6 ⟨rfl, hw⟩; subst hw; clear CC; go_wp2; exact unhide K3
                  · rw [if_neg hz] at CC; have HN := hide (unhide NO w5 (unhide HWN (fun h => by
                      have := List.all_eq_true.1 h.2.2 z (unhide HMM); simp at this; exact hz this)) (unhide HEX w5 hbr))
                    clear NO NOX YES HWN HWY own HC0 HIX HOK HV HP HTK HMM HVS; go_wp2_with fail
                    refine (unhide CC).mono ?_; rintro e w6 ⟨rfl, hw⟩; subst hw; clear CC; go_wp2; exact unhide HN
                · have hjl' : ¬ (j : Int) < (p.length : Int) := by omega
                  have hok := unhide HOK; have hv := unhide HV; rw [List.take_of_length_le (by omega)] at hok hv; have hall : okD 16 p = true := by
                    unfold okD; rw [List.all_eq_true]; intro y hy; simpa using hok y hy
                  have hpc := unhide HWY ⟨fun e => hp0 (by rw [e]; decide), hp4, hall⟩; rw [← hv] at hpc; have HPN := hide hpc; have RL := RdV.lit w5 [U x] 35 (0, 0) (by simp); have hal : Ext w5 (w5.alloc (.cells #[U x] 35 (0, 0))) := Ext.alloc w5 _; have own2 := owns_below own hal; have hv6 : vb ≤ (w5.alloc (.cells #[U x] 35 (0, 0))).heap.size := by have := hal.size; omega
                  have hbx : Below vb w1 (w5.alloc (.cells #[U x] 35 (0, 0))) := hbr.trans (Below.mono hal hvs5); have KEY : Hid (∀ v' w', w'.ownsRow vb 35 1 v' (k + 1) (vs.map U ++ [U x]) → Below vb (w5.alloc (.cells #[U x] 35 (0, 0))) w' → (∃ (k' : Nat) (vs' : List Nat), k' ≤ M ∧ Value.int .i64 ((k : Int) + 1) = .int .i64 (k' : Int) ∧ Hid (vs'.length = k') ∧ Hid (pcsG false ps = (pcsG false (ps.drop k')).map (vs' ++ ·)) ∧ w'.ownsRow vb 35 1 v' k' (vs'.map U) ∧ Below vb w1 w') ∧ M - ((k : Int) + 1).toNat < M - ((k : Int)).toNat) := by
                    intro v' w' o' b'; exact ⟨⟨k + 1, vs ++ [x], by omega, by simp, hide (by rw [List.length_append, hvl]; rfl), HPN, by rw [List.map_append]; exact o', hbx.trans b'⟩, by omega⟩
                  have hone : ∀ u ∈ [U x], u.oneCell' = true := one_U [x]; clear NO NOX YES HWN HWY own HC0 HIX HOK HV HP hok hv hall hpc HPN hal hbx; go_wp2_with (at_builtin; refine wpList_app rfl (.tmp 88) (.tmp 90) 90 35 (.int .u16 0) 2 Tryz.underlying90 infoU6 rfl rfl vb _ _ _ rfl own2 _ _ _ [U x] rfl rfl RL hone (by omega) hv6 ?_)
                  intro v' w' o' b'; have kk := hide (unhide KEY v' w' o' b'); clear KEY o' b' own2 RL hone; go_wp2; exact unhide kk
            · have hp4' : (4 : Int) < (p.length : Int) := by omega
              have HN := hide (unhide NO w5 (unhide HWN (fun h => hp4 h.2.1)) (unhide HEX w5 hbr)); clear NO NOX YES HWN HWY own hro HC0 HIX; go_wp2; exact unhide HN
        | true =>
          by_cases hlast : k + 1 = M
          · have hlb : ((k : Int) == (M : Int) - 1) = true := by simp; omega
            have HH := hide (rhas_any p 46 w5 (by omega))
            cases h46 : p.contains 46 with
            | true =>
              rw [h46] at HH; have hm46 : (46 : UInt8) ∈ p := List.contains_iff_mem.1 h46; have HPF := hide (show pcsG true ps = (fourW p).map (vs ++ ·) by rw [← pcsG_four ⟨rfl, htl.2 hlast, hm46⟩]; exact unhide HPC); have H4 := hide (rfour_any p w5 (by omega)); clear htl HPC h46 hm46 HIX hro NO; go_wp2_with fail
              refine (unhide HH).mono ?_; rintro e w6 ⟨rfl, hw⟩; have hw3 := hw.symm; clear hw; subst hw3; clear HH; go_wp2_with fail
              refine (unhide H4).mono ?_; rintro e w6 ⟨a4, n4, c4, ok4, rfl, hok, hl4, hnn, hn4, hf4, hx6⟩; clear H4 c1; have own6 := owns_below own hx6; have hbx : Below vb w1 w6 := hbr.trans (Below.mono hx6 hvs5); have hv6 : vb ≤ w6.heap.size := by have := hx6.size; omega
              cases h4 : fourW p with
              | none =>
                obtain ⟨rfl, rfl, rfl⟩ := hnn h4; rw [h4] at hok; obtain rfl : ok4 = false := hok; have hnone : pcsG true ps = none := by rw [unhide HPF, h4]; rfl
                have R0 := RdV.nothing w6; have KEY : Hid (∀ v' w', w'.ownsRow vb 35 1 v' k (vs.map U) → Below vb w6 w' → Q (.returned (.tuple #[v', .bool false])) w') := by
                  intro v' w' o' b'; obtain ⟨a', c', rfl, _, _⟩ := RdV.of_owned o'; have hbase := own_base o'; exact unhide NOX a' k c' w' hnone (by omega) (fun b off e => by have := hbase b off e; have := unhide HWV; omega) (unhide HEX w' (hbx.trans b'))
                clear own hl4 hnn hf4 hx6 hnone HPF NOX YES h4; go_wp2_with (at_builtin; refine wpList_app rfl (.tmp 47) (.tmp 48) 90 35 (.int .u16 0) 2 Tryz.underlying90 infoU6 rfl rfl vb _ _ _ rfl own6 _ _ _ [] rfl rfl R0 (by simp) (by omega) hv6 ?_)
                intro v' w' o' b'; have kk := hide (unhide KEY v' w' o' b'); clear KEY o' b' own6 R0; go_wp2; exact unhide kk
              | some l4 =>
                obtain ⟨rfl, hr4⟩ := hl4 l4 h4; rw [h4] at hok; obtain rfl : ok4 = true := hok; have hsome : pcsG true ps = some (vs ++ l4) := by rw [unhide HPF, h4]; rfl
                have hone := one_U l4; have KEY : Hid (∀ v' w', w'.ownsRow vb 35 1 v' (k + l4.length) (vs.map U ++ l4.map U) → Below vb w6 w' → Q (.returned (.tuple #[v', .bool true])) w') := by
                  intro v' w' o' b'; obtain ⟨a', c', rfl, hr', _⟩ := RdV.of_owned o'; have hbase := own_base o'; exact unhide YES (vs ++ l4) a' (k + l4.length) c' w' hsome (by rw [List.length_append, hvl]) (by omega) (by rw [List.map_append]; exact hr') (fun b off e => by have := hbase b off e; have := unhide HWV; omega) (unhide HEX w' (hbx.trans b'))
                have hlm : (l4.map U).length = l4.length := List.length_map _; clear own hl4 hnn hf4 hx6 hsome HPF NOX YES h4; generalize hL : l4.length = L at *; generalize l4.map U = LU at *; clear hL; go_wp2_with (at_builtin; refine wpList_app rfl (.tmp 47) (.tmp 48) 90 35 (.int .u16 0) 2 Tryz.underlying90 infoU6 rfl rfl vb _ _ _ rfl own6 _ _ _ LU rfl hlm hr4 hone (by omega) hv6 ?_)
                intro v' w' o' b'; have kk := hide (unhide KEY v' w' o' b'); clear KEY o' b' own6 hr4 hone; go_wp2; exact unhide kk
            | false =>
              rw [h46] at HH; have hm46 : ¬ (46 : UInt8) ∈ p := fun h => by rw [List.contains_iff_mem.2 h] at h46; cases h46
              have HPW := hide (show pcsG true ps = ((hexW p).bind fun v => (pcsG true (ps.drop (k + 1))).map fun l => v :: l).map (vs ++ ·) by rw [← pcsG_word (fun h => hm46 h.2.2)]; exact unhide HPC); clear htl HPC h46 hm46 hlast; go_wp2_with fail
              refine (unhide HH).mono ?_; rintro e w6 ⟨rfl, hw⟩; have hw3 := hw.symm; clear hw; subst hw3; clear HH; have HWN : Hid (¬ (p ≠ [] ∧ p.length ≤ 4 ∧ okD 16 p = true) → pcsG true ps = none) := fun h => pc_bad (unhide HPW) (by
                unfold hexW; rw [if_neg h]; rfl)
              have HWY : Hid ((p ≠ [] ∧ p.length ≤ 4 ∧ okD 16 p = true) → pcsG true ps = (pcsG true (ps.drop (k + 1))).map ((vs ++ [val 16 p]) ++ ·)) := fun h => pc_more (by
                have := unhide HPW; unfold hexW at this; rw [if_pos h] at this; exact this)
              clear HPW; by_cases hp0 : p.length < 1
              · have hp0' : (p.length : Int) < 1 := by omega
                have HN := hide (unhide NO w5 (unhide HWN (fun h => h.1 (List.eq_nil_of_length_eq_zero (by omega)))) (unhide HEX w5 hbr)); clear NO NOX YES HWN HWY own hro HC0 HIX; go_wp2; exact unhide HN
              · have hp0' : ¬ (p.length : Int) < 1 := by omega
                by_cases hp4 : p.length ≤ 4
                · have hp4' : ¬ (4 : Int) < (p.length : Int) := by omega
                  clear hro; go_wp2_with fail
                  go_loopw [11, 12] (fun x j w' => ∃ (j' x' : Nat), j' ≤ p.length ∧ j = .int .i64 (j' : Int) ∧ x = .int .u16 (x' : Int) ∧ Hid (∀ z ∈ p.take j', dgV z < 16) ∧ Hid (x' = val 16 (p.take j')) ∧ Hid (x' < 16 ^ j') ∧ w' = w5) (fun _ j _ => p.length - (intOf j).toNat)
                  case atStart => exact ⟨0, 0, by omega, rfl, rfl, hide (by simp), hide rfl, hide (by decide), rfl⟩
                  case round =>
                    obtain ⟨j, x, hj, rfl, rfl, HOK, HV, HP, hw⟩ := hrel; have hw3 := hw.symm; clear hw; subst hw3; by_cases hjl : j < p.length
                    · have hjl' : (j : Int) < (p.length : Int) := by omega
                      have hx0 := unhide HIX w5 j hjl; have HTK := hide (take_snoc p j 0 hjl); have HMM := hide (getD_mem p j hjl); have CC := hide (hex_any (p.getD j 0) w5); have hxl : x ≤ 4095 := by
                        have h1 := unhide HP; have h2 : 16 ^ j ≤ 16 ^ 3 := Nat.pow_le_pow_right (by decide) (by omega); omega
                      have HVS := hide (show val 16 (p.take (j + 1)) = x * 16 + dgV (p.getD j 0) by rw [unhide HTK, val_snoc, ← unhide HV]); unfold hexI at CC; generalize p.getD j 0 = z at *; by_cases hz : dgV z < 16
                      · rw [if_pos hz] at CC; have K2 : Hid (∀ y : Nat, (y : Int) = (x : Int) * 16 + (dgV z : Int) → (∃ (j' x' : Nat), j' ≤ p.length ∧ Value.int .i64 ((j : Int) + 1) = .int .i64 (j' : Int) ∧ Value.int .u16 ((x : Int) * 16 + (dgV z : Int)) = .int .u16 (x' : Int) ∧ Hid (∀ z ∈ p.take j', dgV z < 16) ∧ Hid (x' = val 16 (p.take j')) ∧ Hid (x' < 16 ^ j') ∧ w5 = w5) ∧ p.length - ((j : Int) + 1).toNat < p.length - ((j : Int)).toNat) := by
                          intro y hy; have hyy : y = x * 16 + dgV z := by omega
                          refine ⟨⟨j + 1, y, by omega, by simp, by rw [hy], ?_, ?_, ?_, rfl⟩, by omega⟩
                          · show ∀ y ∈ p.take (j + 1), dgV y < 16; rw [unhide HTK]; intro y hy; rcases List.mem_append.1 hy with hy | hy
                            · exact unhide HOK y hy
                            · rw [List.mem_singleton] at hy; rw [hy]; exact hz
                          · rw [hyy]; exact (unhide HVS).symm
                          · show y < 16 ^ (j + 1); have h1 := unhide HP; rw [Nat.pow_succ, hyy]; omega
                        have K3 := hide (unhide K2 (x * 16 + dgV z) (by omega)); clear K2 NO NOX YES HWN HWY own HC0 HIX HOK HV HP HTK HMM HVS; generalize dgV z = d at *; have q0 : ¬ (d : Int) < 0 := by omega
                        have q1 : IntKind.u16.wrap (d : Int) = (d : Int) := by rw [IntKind.wrap_u16]; omega
                        have q2 := or4 x d hxl hz; go_wp2_with fail
                        refine (unhide CC).mono ?_; rintro e w6 ⟨rfl, hw⟩; subst hw; clear CC; go_wp2; exact unhide K3
                      · rw [if_neg hz] at CC; have HN := hide (unhide NO w5 (unhide HWN (fun h => by
                          have := List.all_eq_true.1 h.2.2 z (unhide HMM); simp at this; exact hz this)) (unhide HEX w5 hbr))
                        clear NO NOX YES HWN HWY own HC0 HIX HOK HV HP HTK HMM HVS; go_wp2_with fail
                        refine (unhide CC).mono ?_; rintro e w6 ⟨rfl, hw⟩; subst hw; clear CC; go_wp2; exact unhide HN
                    · have hjl' : ¬ (j : Int) < (p.length : Int) := by omega
                      have hok := unhide HOK; have hv := unhide HV; rw [List.take_of_length_le (by omega)] at hok hv; have hall : okD 16 p = true := by
                        unfold okD; rw [List.all_eq_true]; intro y hy; simpa using hok y hy
                      have hpc := unhide HWY ⟨fun e => hp0 (by rw [e]; decide), hp4, hall⟩; rw [← hv] at hpc; have HPN := hide hpc; have RL := RdV.lit w5 [U x] 35 (0, 0) (by simp); have hal : Ext w5 (w5.alloc (.cells #[U x] 35 (0, 0))) := Ext.alloc w5 _; have own2 := owns_below own hal; have hv6 : vb ≤ (w5.alloc (.cells #[U x] 35 (0, 0))).heap.size := by have := hal.size; omega
                      have hbx : Below vb w1 (w5.alloc (.cells #[U x] 35 (0, 0))) := hbr.trans (Below.mono hal hvs5); have KEY : Hid (∀ v' w', w'.ownsRow vb 35 1 v' (k + 1) (vs.map U ++ [U x]) → Below vb (w5.alloc (.cells #[U x] 35 (0, 0))) w' → (∃ (k' : Nat) (vs' : List Nat), k' ≤ M ∧ Value.int .i64 ((k : Int) + 1) = .int .i64 (k' : Int) ∧ Hid (vs'.length = k') ∧ Hid (pcsG true ps = (pcsG true (ps.drop k')).map (vs' ++ ·)) ∧ w'.ownsRow vb 35 1 v' k' (vs'.map U) ∧ Below vb w1 w') ∧ M - ((k : Int) + 1).toNat < M - ((k : Int)).toNat) := by
                        intro v' w' o' b'; exact ⟨⟨k + 1, vs ++ [x], by omega, by simp, hide (by rw [List.length_append, hvl]; rfl), HPN, by rw [List.map_append]; exact o', hbx.trans b'⟩, by omega⟩
                      have hone : ∀ u ∈ [U x], u.oneCell' = true := one_U [x]; clear NO NOX YES HWN HWY own HC0 HIX HOK HV HP hok hv hall hpc HPN hal hbx; go_wp2_with (at_builtin; refine wpList_app rfl (.tmp 88) (.tmp 90) 90 35 (.int .u16 0) 2 Tryz.underlying90 infoU6 rfl rfl vb _ _ _ rfl own2 _ _ _ [U x] rfl rfl RL hone (by omega) hv6 ?_)
                      intro v' w' o' b'; have kk := hide (unhide KEY v' w' o' b'); clear KEY o' b' own2 RL hone; go_wp2; exact unhide kk
                · have hp4' : (4 : Int) < (p.length : Int) := by omega
                  have HN := hide (unhide NO w5 (unhide HWN (fun h => hp4 h.2.1)) (unhide HEX w5 hbr)); clear NO NOX YES HWN HWY own hro HC0 HIX; go_wp2; exact unhide HN
          · have hlb : ((k : Int) == (M : Int) - 1) = false := by rw [beq_eq_false_iff_ne]; omega
            have hlb' : ¬ (k : Int) = (M : Int) - 1 := by omega
            have HPW := hide (show pcsG true ps = ((hexW p).bind fun v => (pcsG true (ps.drop (k + 1))).map fun l => v :: l).map (vs ++ ·) by rw [← pcsG_word (fun h => hlast (htl.1 h.2.1))]; exact unhide HPC); clear htl HPC; have HWN : Hid (¬ (p ≠ [] ∧ p.length ≤ 4 ∧ okD 16 p = true) → pcsG true ps = none) := fun h => pc_bad (unhide HPW) (by
              unfold hexW; rw [if_neg h]; rfl)
            have HWY : Hid ((p ≠ [] ∧ p.length ≤ 4 ∧ okD 16 p = true) → pcsG true ps = (pcsG true (ps.drop (k + 1))).map ((vs ++ [val 16 p]) ++ ·)) := fun h => pc_more (by
              have := unhide HPW; unfold hexW at this; rw [if_pos h] at this; exact this)
            clear HPW; by_cases hp0 : p.length < 1
            · have hp0' : (p.length : Int) < 1 := by omega
              have HN := hide (unhide NO w5 (unhide HWN (fun h => h.1 (List.eq_nil_of_length_eq_zero (by omega)))) (unhide HEX w5 hbr)); clear NO NOX YES HWN HWY own hro HC0 HIX; go_wp2; exact unhide HN
            · have hp0' : ¬ (p.length : Int) < 1 := by omega
              by_cases hp4 : p.length ≤ 4
              · have hp4' : ¬ (4 : Int) < (p.length : Int) := by omega
                clear hro; go_wp2_with fail
                go_loopw [11, 12] (fun x j w' => ∃ (j' x' : Nat), j' ≤ p.length ∧ j = .int .i64 (j' : Int) ∧ x = .int .u16 (x' : Int) ∧ Hid (∀ z ∈ p.take j', dgV z < 16) ∧ Hid (x' = val 16 (p.take j')) ∧ Hid (x' < 16 ^ j') ∧ w' = w5) (fun _ j _ => p.length - (intOf j).toNat)
                case atStart => exact ⟨0, 0, by omega, rfl, rfl, hide (by simp), hide rfl, hide (by decide), rfl⟩
                case round =>
                  obtain ⟨j, x, hj, rfl, rfl, HOK, HV, HP, hw⟩ := hrel; have hw3 := hw.symm; clear hw; subst hw3; by_cases hjl : j < p.length
                  · have hjl' : (j : Int) < (p.length : Int) := by omega
                    have hx0 := unhide HIX w5 j hjl; have HTK := hide (take_snoc p j 0 hjl); have HMM := hide (getD_mem p j hjl); have CC := hide (hex_any (p.getD j 0) w5); have hxl : x ≤ 4095 := by
                      have h1 := unhide HP; have h2 : 16 ^ j ≤ 16 ^ 3 := Nat.pow_le_pow_right (by decide) (by omega); omega
                    have HVS := hide (show val 16 (p.take (j + 1)) = x * 16 + dgV (p.getD j 0) by rw [unhide HTK, val_snoc, ← unhide HV]); unfold hexI at CC; generalize p.getD j 0 = z at *; by_cases hz : dgV z < 16
                    · rw [if_pos hz] at CC; have K2 : Hid (∀ y : Nat, (y : Int) = (x : Int) * 16 + (dgV z : Int) → (∃ (j' x' : Nat), j' ≤ p.length ∧ Value.int .i64 ((j : Int) + 1) = .int .i64 (j' : Int) ∧ Value.int .u16 ((x : Int) * 16 + (dgV z : Int)) = .int .u16 (x' : Int) ∧ Hid (∀ z ∈ p.take j', dgV z < 16) ∧ Hid (x' = val 16 (p.take j')) ∧ Hid (x' < 16 ^ j') ∧ w5 = w5) ∧ p.length - ((j : Int) + 1).toNat < p.length - ((j : Int)).toNat) := by
                        intro y hy; have hyy : y = x * 16 + dgV z := by omega
                        refine ⟨⟨j + 1, y, by omega, by simp, by rw [hy], ?_, ?_, ?_, rfl⟩, by omega⟩
                        · show ∀ y ∈ p.take (j + 1), dgV y < 16; rw [unhide HTK]; intro y hy; rcases List.mem_append.1 hy with hy | hy
                          · exact unhide HOK y hy
                          · rw [List.mem_singleton] at hy; rw [hy]; exact hz
                        · rw [hyy]; exact (unhide HVS).symm
                        · show y < 16 ^ (j + 1); have h1 := unhide HP; rw [Nat.pow_succ, hyy]; omega
                      have K3 := hide (unhide K2 (x * 16 + dgV z) (by omega)); clear K2 NO NOX YES HWN HWY own HC0 HIX HOK HV HP HTK HMM HVS; generalize dgV z = d at *; have q0 : ¬ (d : Int) < 0 := by omega
                      have q1 : IntKind.u16.wrap (d : Int) = (d : Int) := by rw [IntKind.wrap_u16]; omega
                      have q2 := or4 x d hxl hz; go_wp2_with fail
                      refine (unhide CC).mono ?_; rintro e w6 ⟨rfl, hw⟩; subst hw; clear CC; go_wp2; exact unhide K3
                    · rw [if_neg hz] at CC; have HN := hide (unhide NO w5 (unhide HWN (fun h => by
                        have := List.all_eq_true.1 h.2.2 z (unhide HMM); simp at this; exact hz this)) (unhide HEX w5 hbr))
                      clear NO NOX YES HWN HWY own HC0 HIX HOK HV HP HTK HMM HVS; go_wp2_with fail
                      refine (unhide CC).mono ?_; rintro e w6 ⟨rfl, hw⟩; subst hw; clear CC; go_wp2; exact unhide HN
                  · have hjl' : ¬ (j : Int) < (p.length : Int) := by omega
                    have hok := unhide HOK; have hv := unhide HV; rw [List.take_of_length_le (by omega)] at hok hv; have hall : okD 16 p = true := by
                      unfold okD; rw [List.all_eq_true]; intro y hy; simpa using hok y hy
                    have hpc := unhide HWY ⟨fun e => hp0 (by rw [e]; decide), hp4, hall⟩; rw [← hv] at hpc; have HPN := hide hpc; have RL := RdV.lit w5 [U x] 35 (0, 0) (by simp); have hal : Ext w5 (w5.alloc (.cells #[U x] 35 (0, 0))) := Ext.alloc w5 _; have own2 := owns_below own hal; have hv6 : vb ≤ (w5.alloc (.cells #[U x] 35 (0, 0))).heap.size := by have := hal.size; omega
                    have hbx : Below vb w1 (w5.alloc (.cells #[U x] 35 (0, 0))) := hbr.trans (Below.mono hal hvs5); have KEY : Hid (∀ v' w', w'.ownsRow vb 35 1 v' (k + 1) (vs.map U ++ [U x]) → Below vb (w5.alloc (.cells #[U x] 35 (0, 0))) w' → (∃ (k' : Nat) (vs' : List Nat), k' ≤ M ∧ Value.int .i64 ((k : Int) + 1) = .int .i64 (k' : Int) ∧ Hid (vs'.length = k') ∧ Hid (pcsG true ps = (pcsG true (ps.drop k')).map (vs' ++ ·)) ∧ w'.ownsRow vb 35 1 v' k' (vs'.map U) ∧ Below vb w1 w') ∧ M - ((k : Int) + 1).toNat < M - ((k : Int)).toNat) := by
                      intro v' w' o' b'; exact ⟨⟨k + 1, vs ++ [x], by omega, by simp, hide (by rw [List.length_append, hvl]; rfl), HPN, by rw [List.map_append]; exact o', hbx.trans b'⟩, by omega⟩
                    have hone : ∀ u ∈ [U x], u.oneCell' = true := one_U [x]; clear NO NOX YES HWN HWY own HC0 HIX HOK HV HP hok hv hall hpc HPN hal hbx; go_wp2_with (at_builtin; refine wpList_app rfl (.tmp 88) (.tmp 90) 90 35 (.int .u16 0) 2 Tryz.underlying90 infoU6 rfl rfl vb _ _ _ rfl own2 _ _ _ [U x] rfl rfl RL hone (by omega) hv6 ?_)
                    intro v' w' o' b'; have kk := hide (unhide KEY v' w' o' b'); clear KEY o' b' own2 RL hone; go_wp2; exact unhide kk
              · have hp4' : (4 : Int) < (p.length : Int) := by omega
                have HN := hide (unhide NO w5 (unhide HWN (fun h => hp4 h.2.1)) (unhide HEX w5 hbr)); clear NO NOX YES HWN HWY own hro HC0 HIX; go_wp2; exact unhide HN
      · have hkM' : ¬ (k : Int) < (M : Int) := by omega
        have hsome : pcsG tail ps = some vs := by
          have h0 : ps.drop k = [] := List.drop_of_length_le (by have := unhide hMS; omega); rw [unhide HPC, h0]; simp [pcsG]
        have hbase := own_base own; have HF := hide (unhide YES vs ao k oc w5 hsome hvl.symm (by omega) hro (fun b off e => by have := hbase b off e; have := unhide HWV; omega) (unhide HEX w5 hbr)); clear HCS HPL HDR HPC own hro hsome hbase NO NOX YES; go_wp2; exact unhide HF
end Go.Proofs.YtenlampiiodkhaaGreatDoor
