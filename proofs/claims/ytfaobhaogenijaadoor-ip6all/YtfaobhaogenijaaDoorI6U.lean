/-
  strconv.ParseUint at base 16 and 16 bits, of words of at most four signs.
-/
import Derived.Test.YtfaobhaogenijaaDoorI6A
import Derived.Laws.IdiomStrings
namespace Go.Proofs.YtfaobhaogenijaaDoor
set_option linter.unusedVariables false
open Go.RowKit

theorem conv_bytes6 (w : World) (bs : List UInt8) (hm : bs.length ≤ 1000000) : ∃ c w', (convert 9 40 (S bs)).run Tryd.prog w = .ok (.slice (some ⟨w.heap.size, 0, none⟩) bs.length c) w' ∧ RdV w' (some ⟨w.heap.size, 0, none⟩) c (bs.map B) ∧ Ext w w' := by
  have hr := run_bytes_of_string (P := Tryd.prog) w 9 40 5 ⟨bs.toArray⟩ Tryd.underlying9 Tryd.underlying40 Tryd.underlying5
  have hsz : (⟨bs.toArray⟩ : ByteArray).size = bs.length := by simp [ByteArray.size]
  rw [hsz] at hr
  have hle := grownCap_ge w bs.length 0 5
  have hmx := grownCap_le_maxLen w bs.length 0 5 (by unfold maxLen; omega)
  refine ⟨_, _, hr, ⟨by simpa using hle, by unfold maxLen at hmx; omega, fun e => (by cases e), fun i hi => ⟨w.heap.size, 0, rfl, ?_⟩⟩, (Ext.drew w).trans (Ext.alloc w.drew _)⟩
  have hi' : i < bs.length := by simpa using hi
  rw [Nat.zero_add]
  have e : w.heap.size = w.drew.heap.size := rfl
  rw [e, World.cell?_alloc_mark]
  unfold bytesRow
  rw [Array.getElem?_append_left (by simp; omega)]
  simp [B, hi']

/-- A small letter for a large one. -/
def lwV (x : UInt8) : Nat := x.toNat ||| 32
theorem lw_bits : ∀ x : Fin 256, bits .or .u8 ((x.val : Nat) : Int) 32 = ((x.val ||| 32 : Nat) : Int) := by decide +kernel
theorem lower_any (x : UInt8) (w : World) : Calls Tryd.prog 66 #[B x] w fun e w' => e = .returned (.int .u8 (lwV x : Int)) ∧ w' = w := by
  have h := Tryd.internal_strconv_lower (x.toNat : Int) w
  rw [lw_bits ⟨x.toNat, x.toNat_lt⟩] at h
  exact h
theorem byte_of (p : UInt8 → Prop) (h : ∀ x : Fin 256, p (UInt8.ofNat x.val)) (x : UInt8) : p x := by
  have e : UInt8.ofNat x.toNat = x := by simp
  have := h ⟨x.toNat, x.toNat_lt⟩
  simpa only [e] using this
theorem dig_A (x : UInt8) : 48 ≤ x.toNat → x.toNat ≤ 57 → dgV x = x.toNat - 48 := by
  intro h1 h2
  unfold dgV
  rw [if_pos ⟨h1, h2⟩]
theorem dig_B (x : UInt8) : ¬ (48 ≤ x.toNat ∧ x.toNat ≤ 57) → 97 ≤ lwV x → lwV x ≤ 122 → (lwV x ≤ 102 ∧ dgV x = lwV x - 87) ∨ (102 < lwV x ∧ dgV x = 16) := by
  refine byte_of (fun x => ¬ (48 ≤ x.toNat ∧ x.toNat ≤ 57) → 97 ≤ lwV x → lwV x ≤ 122 → (lwV x ≤ 102 ∧ dgV x = lwV x - 87) ∨ (102 < lwV x ∧ dgV x = 16)) ?_ x
  unfold lwV
  decide +kernel
theorem dig_C (x : UInt8) : ¬ (48 ≤ x.toNat ∧ x.toNat ≤ 57) → ¬ (97 ≤ lwV x ∧ lwV x ≤ 122) → dgV x = 16 := by
  refine byte_of (fun x => ¬ (48 ≤ x.toNat ∧ x.toNat ≤ 57) → ¬ (97 ≤ lwV x ∧ lwV x ≤ 122) → dgV x = 16) ?_ x
  unfold lwV
  decide +kernel
theorem lwV_95 (x : UInt8) (h : x.toNat = 95) : lwV x = 127 := by
  unfold lwV
  rw [h]
  decide
theorem lwV_le (x : UInt8) : lwV x ≤ 255 := by
  refine byte_of (fun x => lwV x ≤ 255) ?_ x
  unfold lwV
  decide +kernel
theorem val_lt16 : ∀ (l : List UInt8), (∀ x ∈ l, dgV x < 16) → val 16 l < 16 ^ l.length := by
  intro l
  rw [← List.reverse_reverse l]
  generalize l.reverse = r
  induction r with
  | nil => intro _; decide
  | cons x r ih =>
    intro h
    rw [List.reverse_cons] at h ⊢
    have h1 := ih fun y hy => h y (by simp at hy ⊢; exact .inl hy)
    have h2 := h x (by simp)
    rw [val_snoc, List.length_append, List.length_singleton, Nat.pow_succ]
    omega
theorem hexW_is {p : List UInt8} (h0 : p ≠ []) (h4 : p.length ≤ 4) (h : ∀ x ∈ p, dgV x < 16) : hexW p = some (val 16 p) := by
  unfold hexW
  rw [if_pos ⟨h0, h4, by unfold okD; rw [List.all_eq_true]; intro x hx; simpa using h x hx⟩]
theorem hexW_not {p : List UInt8} {x : UInt8} (hx : x ∈ p) (h : dgV x = 16) : hexW p = none := by
  unfold hexW
  rw [if_neg]
  rintro ⟨_, _, h3⟩
  unfold okD at h3
  rw [List.all_eq_true] at h3
  have := h3 x hx
  rw [h] at this
  simp at this

/-- What ParseUint answers: a number, or another answer with this in the place of the error. -/
def numE (o : Option Nat) (bad : Value → Prop) (e : Ending) : Prop :=
  match o with
  | some v => e = .returned (.tuple #[.int .u64 (v : Int), .nilIface])
  | none => ∃ x : Value, bad x ∧ e = .returned (.tuple #[.int .u64 0, x])

set_option maxHeartbeats 4000000 in
set_option maxRecDepth 100000 in
theorem iparse_any (p : List UInt8) (w : World) (hp : p.length ≤ 4) : Calls Tryd.prog 49 #[S p, .int .i64 16, .int .i64 16] w fun e w' => numE (hexW p) (fun x => x = .iface 94 (.int .i64 2)) e ∧ Ext w w' := by
  have yes : ∀ v : Nat, hexW p = some v → numE (hexW p) (fun x => x = .iface 94 (.int .i64 2)) (.returned (.tuple #[.int .u64 (v : Int), .nilIface])) := fun v h => by rw [h]; rfl
  have no : hexW p = none → numE (hexW p) (fun x => x = .iface 94 (.int .i64 2)) (.returned (.tuple #[.int .u64 0, .iface 94 (.int .i64 2)])) := fun h => by rw [h]; exact ⟨_, rfl, rfl⟩
  have NO := hide no
  have YES := hide yes
  clear no yes
  by_cases hp0 : p = []
  · have HN := hide (unhide NO (by rw [hp0]; exact hexW_nil))
    clear NO YES
    generalize numE (hexW p) (fun x => x = .iface 94 (.int .i64 2)) = Q at *
    subst hp0
    show Calls Tryd.prog 49 #[.string ⟨#[]⟩, .int .i64 16, .int .i64 16] w _
    go_enter Tryd.func49, Tryd.ntmps49
    go_wp2
    go_ret2
    exact ⟨unhide HN, Ext.refl _⟩
  · have hie : p.isEmpty = false := by simpa using hp0
    have HY := hide (fun h => unhide YES _ (hexW_is hp0 hp h))
    have HN := hide (fun x (hx : x ∈ p) h => unhide NO (hexW_not hx h))
    clear NO YES
    generalize numE (hexW p) (fun x => x = .iface 94 (.int .i64 2)) = Q at *
    obtain ⟨c, w1, hcv, hrd, hx1⟩ := conv_bytes6 w p (by omega)
    have HRD := hide hrd
    have hsz := size_S p
    have hle := hrd.le
    have hmx := hrd.max
    rw [List.length_map] at hle
    clear hrd
    go_enter Tryd.func49, Tryd.ntmps49
    go_wp2_with fail
    go_loopw [12, 13, 101] (fun u n i wr => ∃ (k : Nat) (v : Int), k ≤ p.length ∧ i = .int .i64 k ∧ u = .bool false ∧ n = .int .u64 v ∧ Hid (∀ x ∈ p.take k, dgV x < 16) ∧ Hid (v = (val 16 (p.take k) : Int)) ∧ wr = w1) (fun _ _ i _ => p.length - (intOf i).toNat)
    case atStart => exact ⟨0, 0, by omega, rfl, rfl, rfl, hide (by simp), hide rfl, rfl⟩
    case round =>
      obtain ⟨k, v, hk, rfl, rfl, rfl, HOK, HV, hw⟩ := hrel
      subst hw
      by_cases hkl : k < p.length
      · have hkl' : (k : Int) < (p.length : Int) := by omega
        obtain ⟨bb, off, hgo, hc⟩ := (unhide HRD).cells (by simp; omega)
        simp only [Option.some.injEq, Addr.mk.injEq] at hgo
        obtain ⟨rfl, rfl, _⟩ := hgo
        have c0 : wr.cell? ⟨w.heap.size, k, none⟩ = some (B (p.getD k 0)) := by
          have := hc k (by simpa using hkl)
          rw [getB p k hkl, Nat.zero_add] at this
          exact this
        clear hc
        have HT := hide (take_snoc p k 0 hkl)
        have HMM := hide (getD_mem p k hkl)
        have hvb : 0 ≤ v ∧ v < 4096 := by
          have h1 := val_lt16 (p.take k) (unhide HOK)
          have h2 : (p.take k).length ≤ 3 := by rw [List.length_take]; omega
          have h3 : 16 ^ (p.take k).length ≤ 16 ^ 3 := Nat.pow_le_pow_right (by decide) h2
          have h4 := unhide HV
          omega
        obtain ⟨hv0, hv1⟩ := hvb
        have hxl := (p.getD k 0).toNat_lt
        have HSN := hide (fun (hx : dgV (p.getD k 0) < 16) => (show (∀ y ∈ p.take (k + 1), dgV y < 16) ∧ v * 16 + (dgV (p.getD k 0) : Int) = (val 16 (p.take (k + 1)) : Int) by
          rw [unhide HT]
          refine ⟨fun y hy => ?_, ?_⟩
          · rcases List.mem_append.1 hy with hy | hy
            · exact unhide HOK y hy
            · rw [List.mem_singleton] at hy
              rw [hy]
              exact hx
          · rw [val_snoc]
            have := unhide HV
            omega))
        clear HOK HV HT
        generalize p.getD k 0 = x at *
        have HBAD := hide (fun h => unhide HN x (unhide HMM) h)
        have LOW := hide (fun w => lower_any x w)
        have hl255 := lwV_le x
        by_cases hA : 48 ≤ x.toNat ∧ x.toNat ≤ 57
        · have hdg := dig_A x hA.1 hA.2
          obtain ⟨hs1, hs2⟩ := unhide HSN (by omega)
          have KK : Hid (∀ z : Int, z = v * 16 + (dgV x : Int) → ((∃ (k' : Nat) (v' : Int), k' ≤ p.length ∧ Value.int .i64 ((k : Int) + 1) = .int .i64 k' ∧ Value.bool false = .bool false ∧ Value.int .u64 z = .int .u64 v' ∧ Hid (∀ x ∈ p.take k', dgV x < 16) ∧ Hid (v' = (val 16 (p.take k') : Int)) ∧ wr = wr) ∧ p.length - ((k : Int) + 1).toNat < p.length - k)) :=
            fun z hz => ⟨⟨k + 1, z, by omega, by simp, rfl, rfl, hs1, by rw [hz]; exact hs2, rfl⟩, by omega⟩
          have q1 : (48 : Int) ≤ (x.toNat : Int) := by omega
          have q2 : (x.toNat : Int) ≤ 57 := by omega
          have q3 : ((x.toNat : Int) == 95) = false := by rw [beq_eq_false_iff_ne]; omega
          have KQ := hide (unhide KK (v * 16 + ((x.toNat : Int) - 48)) (by omega))
          clear KK hs1 hs2 HSN HBAD LOW hdg HN HY HMM HRD hA
          go_wp2
          obtain ⟨⟨k', v', e1, e2, _, e4, e5, e6, _⟩, hm⟩ := unhide KQ
          exact ⟨⟨k', v', e1, e2, rfl, e4, e5, e6, by first | rfl | trivial⟩, hm⟩
        · have hAB : (48 : Int) ≤ (x.toNat : Int) → ¬ (x.toNat : Int) ≤ 57 := fun h1 h2 => hA ⟨by omega, by omega⟩
          by_cases hB : 97 ≤ lwV x ∧ lwV x ≤ 122
          · have hn95 : ((x.toNat : Int) == 95) = false := by
              rw [beq_eq_false_iff_ne]
              intro h
              have := lwV_95 x (by omega)
              omega
            have q1 : (97 : Int) ≤ (lwV x : Int) := by omega
            have q2 : (lwV x : Int) ≤ 122 := by omega
            rcases dig_B x hA hB.1 hB.2 with ⟨hl2, hdg⟩ | ⟨hl2, hdg⟩
            · obtain ⟨hs1, hs2⟩ := unhide HSN (by omega)
              have KK : Hid (∀ z : Int, z = v * 16 + (dgV x : Int) → ((∃ (k' : Nat) (v' : Int), k' ≤ p.length ∧ Value.int .i64 ((k : Int) + 1) = .int .i64 k' ∧ Value.bool false = .bool false ∧ Value.int .u64 z = .int .u64 v' ∧ Hid (∀ x ∈ p.take k', dgV x < 16) ∧ Hid (v' = (val 16 (p.take k') : Int)) ∧ wr = wr) ∧ p.length - ((k : Int) + 1).toNat < p.length - k)) :=
                fun z hz => ⟨⟨k + 1, z, by omega, by simp, rfl, rfl, hs1, by rw [hz]; exact hs2, rfl⟩, by omega⟩
              have KQ := hide (unhide KK (v * 16 + ((lwV x : Int) - 97 + 10)) (by omega))
              have q3 : (lwV x : Int) ≤ 102 := by omega
              clear KK hs1 hs2 HSN HBAD hdg HN HY HMM HRD hA hB hl2
              have hbits := lw_bits ⟨x.toNat, x.toNat_lt⟩
              change bits .or .u8 (x.toNat : Int) 32 = (lwV x : Int) at hbits
              by_cases h48 : (48 : Int) ≤ (x.toNat : Int)
              · have h57 := hAB h48
                clear hAB LOW
                generalize lwV x = l at *
                go_wp2
                obtain ⟨⟨k', v', e1, e2, _, e4, e5, e6, _⟩, hm⟩ := unhide KQ
                exact ⟨⟨k', v', e1, e2, rfl, e4, e5, e6, by first | rfl | trivial⟩, hm⟩
              · clear hAB LOW
                generalize lwV x = l at *
                go_wp2
                obtain ⟨⟨k', v', e1, e2, _, e4, e5, e6, _⟩, hm⟩ := unhide KQ
                exact ⟨⟨k', v', e1, e2, rfl, e4, e5, e6, by first | rfl | trivial⟩, hm⟩
            · have HE := hide (unhide HBAD hdg)
              have q3 : ¬ (lwV x : Int) ≤ 102 := by omega
              clear HSN HBAD hdg HN HY HMM HRD hA hB hl2
              have hbits := lw_bits ⟨x.toNat, x.toNat_lt⟩
              change bits .or .u8 (x.toNat : Int) 32 = (lwV x : Int) at hbits
              by_cases h48 : (48 : Int) ≤ (x.toNat : Int)
              · have h57 := hAB h48
                clear hAB LOW
                generalize lwV x = l at *
                go_wp2
                go_ret2
                exact ⟨unhide HE, hx1⟩
              · clear hAB LOW
                generalize lwV x = l at *
                go_wp2
                go_ret2
                exact ⟨unhide HE, hx1⟩
          · have HE := hide (unhide HBAD (dig_C x hA hB))
            have hB2 : (97 : Int) ≤ (lwV x : Int) → ¬ (lwV x : Int) ≤ 122 := fun h1 h2 => hB ⟨by omega, by omega⟩
            clear HSN HBAD HN HY HMM HRD hA hB
            have hbits := lw_bits ⟨x.toNat, x.toNat_lt⟩
            change bits .or .u8 (x.toNat : Int) 32 = (lwV x : Int) at hbits
            clear LOW
            generalize lwV x = l at *
            by_cases h95 : ((x.toNat : Int) == 95) = true
            · by_cases h48 : (48 : Int) ≤ (x.toNat : Int)
              · have h57 := hAB h48
                clear hAB
                by_cases h97 : (97 : Int) ≤ (l : Int)
                · have h122 := hB2 h97
                  clear hB2
                  go_wp2
                  go_ret2
                  exact ⟨unhide HE, hx1⟩
                · clear hB2
                  go_wp2
                  go_ret2
                  exact ⟨unhide HE, hx1⟩
              · rw [beq_iff_eq] at h95
                omega
            · rw [Bool.not_eq_true] at h95
              by_cases h48 : (48 : Int) ≤ (x.toNat : Int)
              · have h57 := hAB h48
                clear hAB
                by_cases h97 : (97 : Int) ≤ (l : Int)
                · have h122 := hB2 h97
                  clear hB2
                  go_wp2
                  go_ret2
                  exact ⟨unhide HE, hx1⟩
                · clear hB2
                  go_wp2
                  go_ret2
                  exact ⟨unhide HE, hx1⟩
              · clear hAB
                by_cases h97 : (97 : Int) ≤ (l : Int)
                · have h122 := hB2 h97
                  clear hB2
                  go_wp2
                  go_ret2
                  exact ⟨unhide HE, hx1⟩
                · clear hB2
                  go_wp2
                  go_ret2
                  exact ⟨unhide HE, hx1⟩
      · have hkl' : ¬ (k : Int) < (p.length : Int) := by omega
        have e : p.take k = p := List.take_of_length_le (by omega)
        rw [e] at HOK HV
        have HE := hide (unhide HY (unhide HOK))
        have hv2 := unhide HV
        subst hv2
        clear HOK HV HY HN HRD e
        generalize (val 16 p : Int) = v at *
        go_wp2
        go_ret2
        exact ⟨unhide HE, hx1⟩
end Go.Proofs.YtfaobhaogenijaaDoor
