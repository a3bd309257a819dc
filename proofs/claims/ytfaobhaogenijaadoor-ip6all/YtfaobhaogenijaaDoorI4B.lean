/-
  A part's number, as package ip4 reads it.
-/
import Derived.Test.YtfaobhaogenijaaDoorI4A
namespace Go.Proofs.YtfaobhaogenijaaDoor
set_option linter.unusedVariables false
open Go.RowKit

def numV (o : Option Nat) : Int := ((o.getD 0 : Nat) : Int)

theorem next_ok {b v d most : Nat} (hb : 0 < b) (h : v ≤ (most - d) / b) (hd : d ≤ most) : v * b + d ≤ most := by
  have := (Nat.le_div_iff_mul_le hb).1 h
  omega
theorem next_no {b v d most : Nat} (hb : 0 < b) (h : ¬ v ≤ (most - d) / b) : most < v * b + d := by
  refine Nat.lt_of_not_le fun hle => h ((Nat.le_div_iff_mul_le hb).2 ?_)
  omega

set_option maxHeartbeats 2000000 in
set_option maxRecDepth 100000 in
theorem number_any (p : List UInt8) (most : Nat) (w : World) (hp : p.length ≤ 1000000) (hm : most ≤ 4294967295) : Calls Tryd.prog 46 #[S p, .int .u32 (most : Int)] w fun e w' => e = .returned (.tuple #[.int .u32 (numV (numO p most)), .bool (numO p most).isSome]) ∧ w' = w := by
  have fin : ∀ (z : Int) (b : Bool), z = numV (numO p most) → b = (numO p most).isSome → Ending.returned (.tuple #[.int .u32 z, .bool b]) = .returned (.tuple #[.int .u32 (numV (numO p most)), .bool (numO p most).isSome]) := fun z b h1 h2 => by rw [h1, h2]
  have no : numO p most = none → Ending.returned (.tuple #[.int .u32 0, .bool false]) = .returned (.tuple #[.int .u32 (numV (numO p most)), .bool (numO p most).isSome]) := fun h => fin _ _ (by rw [h]; rfl) (by rw [h]; rfl)
  have yes : ∀ z : Nat, numO p most = some z → Ending.returned (.tuple #[.int .u32 (z : Int), .bool true]) = .returned (.tuple #[.int .u32 (numV (numO p most)), .bool (numO p most).isSome]) := fun z h => fin _ _ (by rw [h]; rfl) (by rw [h]; rfl)
  have NO := hide no
  have YES := hide yes
  clear fin no yes
  have hsz := size_S p
  by_cases hp0 : p = []
  · have HN := hide (unhide NO (by rw [hp0]; exact numO_empty most))
    clear NO YES hsz
    generalize numV (numO p most) = z1 at *
    generalize (numO p most).isSome = b1 at *
    subst hp0
    show Calls Tryd.prog 46 #[.string ⟨#[]⟩, .int .u32 (most : Int)] w _
    go_enter Tryd.func46, Tryd.ntmps46
    go_wp2
    go_ret2
    exact ⟨unhide HN, rfl⟩
  · have hne : ¬ ((⟨p.toArray⟩ : ByteArray) = ⟨#[]⟩) := fun e => hp0 (by
      have := congrArg (fun b : ByteArray => b.data.toList) e
      simpa using this)
    have hie : p.isEmpty = false := by simpa using hp0
    have DC := hide (digitsOf_any p w hp)
    have HB1 := hide (fun h => unhide NO (numO_bad (p := p) (most := most) h))
    have HB2 := hide (fun h => unhide NO (numO_great (p := p) (most := most) h))
    have HB3 := hide (fun h1 h2 => unhide YES _ (numO_yes (p := p) (most := most) hp0 h1 h2))
    have hll : (digs p).length ≤ 1000000 := Nat.le_trans (digs_len p) hp
    have hb := bas_cases p
    clear hp0 NO YES
    generalize digs p = l at *
    generalize bas p = b at *
    generalize numV (numO p most) = z1 at *
    generalize (numO p most).isSome = b1 at *
    have HBB := hide hb
    have hb0 : 8 ≤ b := by omega
    have hb1 : b ≤ 16 := by omega
    clear hb
    have hszl := size_S l
    have HIX := hide (fun (v : World) (k : Nat) (hk : k < l.length) => idx_str v l .i64 k hk)
    go_enter Tryd.func46, Tryd.ntmps46
    go_wp2_with fail
    refine (unhide DC).mono ?_
    rintro e w2 ⟨rfl, hw⟩
    subst hw
    clear DC
    go_wp2_with fail
    go_loopw [8, 20] (fun n i wr => ∃ (k v : Nat), k ≤ l.length ∧ i = .int .i64 k ∧ Hid (∀ x ∈ l.take k, dgV x < b) ∧ Hid (v = val b (l.take k)) ∧ v ≤ most ∧ n = .int .u32 v ∧ wr = w2) (fun _ i _ => l.length - (intOf i).toNat)
    case atStart => exact ⟨0, 0, by omega, rfl, hide (by simp), hide rfl, by omega, rfl, rfl⟩
    case round =>
      obtain ⟨k, v, hk, rfl, HOK, HV, hv, rfl, hw⟩ := hrel
      subst hw
      by_cases hkl : k < l.length
      · have hx0 := unhide HIX wr k hkl
        have HT := hide (take_snoc l k 0 hkl)
        have HMM := hide (getD_mem l k hkl)
        have CC := hide (digit_any (l.getD k 0) wr)
        have hd16 := dgV_le (l.getD k 0)
        have HSN := hide (show val b (l.take (k + 1)) = v * b + dgV (l.getD k 0) by rw [unhide HT, val_snoc, ← unhide HV])
        have HLE := hide (val_take b (by omega) l (k + 1))
        generalize l.getD k 0 = x at *
        by_cases hx : dgV x < b
        · have HOK2 : Hid (∀ y ∈ l.take (k + 1), dgV y < b) := by
            show ∀ y ∈ l.take (k + 1), dgV y < b
            rw [unhide HT]
            intro y hy
            rcases List.mem_append.1 hy with hy | hy
            · exact unhide HOK y hy
            · rw [List.mem_singleton] at hy
              rw [hy]
              exact hx
          have hx' : ¬ (b : Int) ≤ (dgV x : Int) := by omega
          by_cases hdm : dgV x ≤ most
          · have hdm' : ¬ (most : Int) < (dgV x : Int) := by omega
            by_cases hq : v ≤ (most - dgV x) / b
            · have hnx := next_ok (by omega) hq hdm
              have KK : Hid (∀ z : Int, z = ((v * b + dgV x : Nat) : Int) → ((∃ (k' v' : Nat), k' ≤ l.length ∧ Value.int .i64 ((k : Int) + 1) = .int .i64 k' ∧ Hid (∀ y ∈ l.take k', dgV y < b) ∧ Hid (v' = val b (l.take k')) ∧ v' ≤ most ∧ Value.int .u32 z = .int .u32 v' ∧ wr = wr) ∧ l.length - ((k : Int) + 1).toNat < l.length - k)) :=
                fun z hz => ⟨⟨k + 1, v * b + dgV x, by omega, by simp, HOK2, (unhide HSN).symm, hnx, by rw [hz], rfl⟩, by omega⟩
              clear HOK HT HMM HB1 HB2 HB3 HSN HLE HOK2 HV HIX
              go_wp2_with fail
              refine (unhide CC).mono ?_
              rintro e w2 ⟨rfl, hw⟩
              subst hw
              clear CC
              generalize dgV x = d at *
              have hq2 : ¬ ((most : Int) - (d : Int)) / (b : Int) < (v : Int) := by rcases unhide HBB with rfl | rfl | rfl <;> omega
              have hq3 : 0 ≤ (v : Int) * (b : Int) := by rcases unhide HBB with rfl | rfl | rfl <;> omega
              have hq4 : (v : Int) * (b : Int) + (d : Int) ≤ 4294967295 := by rcases unhide HBB with rfl | rfl | rfl <;> omega
              have hq5 : ((v * b + d : Nat) : Int) = (v : Int) * (b : Int) + (d : Int) := by rcases unhide HBB with rfl | rfl | rfl <;> omega
              rw [hq5] at KK
              clear HBB hq hq5 hnx
              go_wp2
              exact unhide KK _ rfl
            · have hnx := next_no (d := dgV x) (by omega) hq
              have HN := hide (unhide HB2 (by have := unhide HLE; have := unhide HSN; omega))
              clear HOK HT HMM HB1 HB2 HB3 HSN HLE HOK2 HV HIX
              go_wp2_with fail
              refine (unhide CC).mono ?_
              rintro e w2 ⟨rfl, hw⟩
              subst hw
              clear CC
              generalize dgV x = d at *
              have hq2 : ((most : Int) - (d : Int)) / (b : Int) < (v : Int) := by rcases unhide HBB with rfl | rfl | rfl <;> omega
              clear HBB hq hnx
              go_wp2
              go_ret2
              exact ⟨unhide HN, rfl⟩
          · have hdm' : (most : Int) < (dgV x : Int) := by omega
            have HN := hide (unhide HB2 (by have := unhide HLE; have := unhide HSN; omega))
            clear HOK HT HMM HB1 HB2 HB3 HSN HLE HOK2 HV HIX
            go_wp2_with fail
            refine (unhide CC).mono ?_
            rintro e w2 ⟨rfl, hw⟩
            subst hw
            clear CC
            generalize dgV x = d at *
            go_wp2
            go_ret2
            exact ⟨unhide HN, rfl⟩
        · have hx' : (b : Int) ≤ (dgV x : Int) := by omega
          have HN := hide (unhide HB1 (by
            rw [Bool.eq_false_iff]
            intro ha
            have := List.all_eq_true.1 ha x (unhide HMM)
            simp at this
            omega))
          clear HOK HT HMM HB1 HB2 HB3 HSN HLE HV HIX
          go_wp2_with fail
          refine (unhide CC).mono ?_
          rintro e w2 ⟨rfl, hw⟩
          subst hw
          clear CC
          generalize dgV x = d at *
          go_wp2
          go_ret2
          exact ⟨unhide HN, rfl⟩
      · have e : l.take k = l := List.take_of_length_le (by omega)
        have hok := unhide HOK
        have hvv := unhide HV
        rw [e] at hok hvv
        have HN := hide (unhide HB3 (by
          unfold okD
          rw [List.all_eq_true]
          intro x hx
          simpa using hok x hx) (by omega))
        rw [← hvv] at HN
        clear HOK HB1 HB2 HB3 HV HIX hok hvv e
        go_wp2
        go_ret2
        exact ⟨unhide HN, rfl⟩
end Go.Proofs.YtfaobhaogenijaaDoor
