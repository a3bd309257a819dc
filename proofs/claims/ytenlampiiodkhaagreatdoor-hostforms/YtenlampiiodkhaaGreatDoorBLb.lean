/-
  I4A, I4B.
-/
import Derived.Test.YtenlampiiodkhaaGreatDoorBKb
namespace Go.Proofs.YtenlampiiodkhaaGreatDoor
set_option linter.unusedVariables false
open Go.RowKit

theorem dgV_at (x : UInt8) :
    (x.toNat < 48 ∧ dgV x = 16) ∨ (48 ≤ x.toNat ∧ x.toNat ≤ 57 ∧ dgV x = x.toNat - 48) ∨ (57 < x.toNat ∧ x.toNat < 65 ∧ dgV x = 16) ∨ (65 ≤ x.toNat ∧ x.toNat ≤ 70 ∧ dgV x = x.toNat - 55) ∨ (70 < x.toNat ∧ x.toNat < 97 ∧ dgV x = 16) ∨ (97 ≤ x.toNat ∧ x.toNat ≤ 102 ∧ dgV x = x.toNat - 87) ∨ (102 < x.toNat ∧ dgV x = 16) := by
  unfold dgV
  by_cases h1 : 48 ≤ x.toNat ∧ x.toNat ≤ 57
  · rw [if_pos h1]
    omega
  · rw [if_neg h1]
    by_cases h2 : 97 ≤ x.toNat ∧ x.toNat ≤ 102
    · rw [if_pos h2]
      omega
    · rw [if_neg h2]
      by_cases h3 : 65 ≤ x.toNat ∧ x.toNat ≤ 70
      · rw [if_pos h3]
        omega
      · rw [if_neg h3]
        omega

set_option maxHeartbeats 1000000 in
set_option maxRecDepth 100000 in
theorem i4digit_any (x : UInt8) (w : World) : Calls Tryz.prog 122 #[B x] w fun e w' => e = .returned (.int .u32 (dgV x : Int)) ∧ w' = w := by
  have fin : ∀ z : Int, z = (dgV x : Int) → Ending.returned (.int .u32 z) = .returned (.int .u32 (dgV x : Int)) := fun z h => by rw [h]
  have FIN := hide fin
  clear fin
  have hx := x.toNat_lt
  have h := dgV_at x
  obtain ⟨d, hd⟩ : ∃ d, d = dgV x := ⟨_, rfl⟩
  rw [← hd] at h FIN ⊢
  clear hd
  obtain ⟨n, hn⟩ : ∃ n : Int, n = (x.toNat : Int) := ⟨_, rfl⟩
  show Calls Tryz.prog 122 #[.int .u8 (x.toNat : Int)] w _
  rw [← hn]
  rcases h with ⟨a1, a2⟩ | ⟨a1, a2, a3⟩ | ⟨a1, a2, a3⟩ | ⟨a1, a2, a3⟩ | ⟨a1, a2, a3⟩ | ⟨a1, a2, a3⟩ | ⟨a1, a2⟩
  · have b1 : n < 48 := by omega
    have b2 : 0 ≤ n := by omega
    have HD : Hid ((16 : Int) = d) := by show (16 : Int) = d; omega
    clear a1 a2 hn hx
    go_enter Tryz.func122, Tryz.ntmps122
    go_wp2
    go_ret
    exact ⟨unhide FIN _ (unhide HD), rfl⟩
  · have b1 : 48 ≤ n := by omega
    have b2 : n ≤ 57 := by omega
    have HD : Hid (n - 48 = d) := by show n - 48 = d; omega
    clear a1 a2 a3 hn hx
    go_enter Tryz.func122, Tryz.ntmps122
    go_wp2
    go_ret
    exact ⟨unhide FIN _ (unhide HD), rfl⟩
  · have b1 : 57 < n := by omega
    have b2 : n < 65 := by omega
    have HD : Hid ((16 : Int) = d) := by show (16 : Int) = d; omega
    clear a1 a2 a3 hn hx
    go_enter Tryz.func122, Tryz.ntmps122
    go_wp2
    go_ret
    exact ⟨unhide FIN _ (unhide HD), rfl⟩
  · have b1 : 65 ≤ n := by omega
    have b2 : n ≤ 70 := by omega
    have HD : Hid (n - 65 + 10 = d) := by show n - 65 + 10 = d; omega
    clear a1 a2 a3 hn hx
    go_enter Tryz.func122, Tryz.ntmps122
    go_wp2
    go_ret
    exact ⟨unhide FIN _ (unhide HD), rfl⟩
  · have b1 : 70 < n := by omega
    have b2 : n < 97 := by omega
    have HD : Hid ((16 : Int) = d) := by show (16 : Int) = d; omega
    clear a1 a2 a3 hn hx
    go_enter Tryz.func122, Tryz.ntmps122
    go_wp2
    go_ret
    exact ⟨unhide FIN _ (unhide HD), rfl⟩
  · have b1 : 97 ≤ n := by omega
    have b2 : n ≤ 102 := by omega
    have HD : Hid (n - 97 + 10 = d) := by show n - 97 + 10 = d; omega
    clear a1 a2 a3 hn hx
    go_enter Tryz.func122, Tryz.ntmps122
    go_wp2
    go_ret
    exact ⟨unhide FIN _ (unhide HD), rfl⟩
  · have b1 : 102 < n := by omega
    have b2 : n < 256 := by omega
    have HD : Hid ((16 : Int) = d) := by show (16 : Int) = d; omega
    clear a1 a2 hn hx
    go_enter Tryz.func122, Tryz.ntmps122
    go_wp2
    go_ret
    exact ⟨unhide FIN _ (unhide HD), rfl⟩

theorem byte_eq (a c : UInt8) : ((a.toNat : Int) == (c.toNat : Int)) = (a == c) := by
  rw [Bool.eq_iff_iff]
  simp only [beq_iff_eq]
  constructor
  · intro h
    exact UInt8.toNat_inj.1 (by omega)
  · rintro rfl
    rfl

set_option maxHeartbeats 1000000 in
set_option maxRecDepth 100000 in
theorem marked_any (p : List UInt8) (w : World) (hp : p.length ≤ 1000000) : Calls Tryz.prog 113 #[S p] w fun e w' => e = .returned (.bool (mrk p)) ∧ w' = w := by
  have fin : ∀ b : Bool, b = mrk p → Ending.returned (.bool b) = .returned (.bool (mrk p)) := fun b h => by rw [h]
  have FIN := hide fin
  clear fin
  have hsz := size_S p
  by_cases h2 : 2 ≤ p.length
  · have i0 : (Instr.index 9 (S p) (.int .i64 0)).run Tryz.prog w = .ok (B (p.getD 0 0)) w := idx_str w p .i64 0 (by omega)
    have i1 : (Instr.index 9 (S p) (.int .i64 1)).run Tryz.prog w = .ok (B (p.getD 1 0)) w := idx_str w p .i64 1 (by omega)
    have HM : Hid (mrk p = ((p.getD 0 0 == 48) && (p.getD 1 0 == 120 || p.getD 1 0 == 88))) := by
      show mrk p = _
      unfold mrk
      rw [show decide (2 ≤ p.length) = true by simpa using h2, Bool.true_and]
    generalize p.getD 0 0 = a at *
    generalize p.getD 1 0 = b at *
    have h2' : 2 ≤ (p.length : Int) := by omega
    have e0 := byte_eq a 48
    have e1 := byte_eq b 120
    have e2 := byte_eq b 88
    simp only [show (((48 : UInt8).toNat : Nat) : Int) = 48 from rfl, show (((120 : UInt8).toNat : Nat) : Int) = 120 from rfl, show (((88 : UInt8).toNat : Nat) : Int) = 88 from rfl] at e0 e1 e2
    cases c0 : (a == 48) with
    | false =>
      rw [c0] at e0 HM
      go_enter Tryz.func113, Tryz.ntmps113
      go_wp2
      go_ret
      exact ⟨unhide FIN _ (by rw [unhide HM]; rfl), rfl⟩
    | true =>
      rw [c0] at e0 HM
      cases c1 : (b == 120) with
      | true =>
        rw [c1] at e1 HM
        go_enter Tryz.func113, Tryz.ntmps113
        go_wp2
        go_ret
        exact ⟨unhide FIN _ (by rw [unhide HM]; rfl), rfl⟩
      | false =>
        rw [c1] at e1 HM
        cases c2 : (b == 88) with
        | true =>
          rw [c2] at e2 HM
          go_enter Tryz.func113, Tryz.ntmps113
          go_wp2
          go_ret
          exact ⟨unhide FIN _ (by rw [unhide HM]; rfl), rfl⟩
        | false =>
          rw [c2] at e2 HM
          go_enter Tryz.func113, Tryz.ntmps113
          go_wp2
          go_ret
          exact ⟨unhide FIN _ (by rw [unhide HM]; rfl), rfl⟩
  · have HM : Hid (mrk p = false) := by
      show mrk p = _
      unfold mrk
      rw [show decide (2 ≤ p.length) = false by simpa using h2]
      rfl
    have h2' : ¬ 2 ≤ (p.length : Int) := by omega
    go_enter Tryz.func113, Tryz.ntmps113
    go_wp2
    go_ret
    exact ⟨unhide FIN _ (by rw [unhide HM]), rfl⟩

set_option maxHeartbeats 1000000 in
set_option maxRecDepth 100000 in
theorem digitsOf_any (p : List UInt8) (w : World) (hp : p.length ≤ 1000000) : Calls Tryz.prog 114 #[S p] w fun e w' => e = .returned (.tuple #[S (i4digs p), .int .u32 (bas p : Int)]) ∧ w' = w := by
  have fin : ∀ (u : List UInt8) (z : Int), u = i4digs p → z = (bas p : Int) → Ending.returned (.tuple #[S u, .int .u32 z]) = .returned (.tuple #[S (i4digs p), .int .u32 (bas p : Int)]) := fun u z h1 h2 => by rw [h1, h2]
  have FIN := hide fin
  clear fin
  have hsz := size_S p
  have CC := hide (marked_any p w hp)
  cases hm : mrk p with
  | true =>
    rw [hm] at CC
    have hl : 2 ≤ p.length := by
      unfold mrk at hm
      simp only [Bool.and_eq_true, decide_eq_true_eq] at hm
      exact hm.1.1
    have hdr : (Instr.slice 9 (S p) (some (.int .i64 2)) none none).run Tryz.prog w = .ok (S (p.drop 2)) w := run_drop w p 2 hl
    have HD : Hid (p.drop 2 = i4digs p) := by show _ = i4digs p; unfold i4digs; rw [hm]; rfl
    have HB : Hid ((16 : Int) = (bas p : Int)) := by show _ = (bas p : Int); unfold bas; rw [hm]; rfl
    clear hm
    generalize p.drop 2 = u at *
    go_enter Tryz.func114, Tryz.ntmps114
    go_wp2_with fail
    refine (unhide CC).mono ?_
    rintro e w2 ⟨rfl, hw⟩
    subst hw
    clear CC
    go_wp2
    go_ret2
    exact ⟨unhide FIN _ _ (unhide HD) (unhide HB), rfl⟩
  | false =>
    rw [hm] at CC
    cases ho : oct p with
    | true =>
      have ho2 := ho
      unfold oct at ho2
      simp only [Bool.and_eq_true, decide_eq_true_eq] at ho2
      obtain ⟨hl, h48⟩ := ho2
      have i0 : (Instr.index 9 (S p) (.int .i64 0)).run Tryz.prog w = .ok (B (p.getD 0 0)) w := idx_str w p .i64 0 (by omega)
      have hdr : (Instr.slice 9 (S p) (some (.int .i64 1)) none none).run Tryz.prog w = .ok (S (p.drop 1)) w := run_drop w p 1 (by omega)
      have HD : Hid (p.drop 1 = i4digs p) := by show _ = i4digs p; unfold i4digs; rw [hm, ho]; rfl
      have HB : Hid ((8 : Int) = (bas p : Int)) := by show _ = (bas p : Int); unfold bas; rw [hm, ho]; rfl
      have e0 := byte_eq (p.getD 0 0) 48
      simp only [show (((48 : UInt8).toNat : Nat) : Int) = 48 from rfl] at e0
      rw [h48] at e0
      have hl2 : 1 < (p.length : Int) := by omega
      clear hm ho h48
      generalize p.getD 0 0 = a at *
      generalize p.drop 1 = u at *
      go_enter Tryz.func114, Tryz.ntmps114
      go_wp2_with fail
      refine (unhide CC).mono ?_
      rintro e w2 ⟨rfl, hw⟩
      subst hw
      clear CC
      go_wp2
      go_ret2
      exact ⟨unhide FIN _ _ (unhide HD) (unhide HB), rfl⟩
    | false =>
      have HD : Hid (p = i4digs p) := by show _ = i4digs p; unfold i4digs; rw [hm, ho]; rfl
      have HB : Hid ((10 : Int) = (bas p : Int)) := by show _ = (bas p : Int); unfold bas; rw [hm, ho]; rfl
      clear hm
      by_cases hl : 1 < p.length
      · have hl2 : 1 < (p.length : Int) := by omega
        have i0 : (Instr.index 9 (S p) (.int .i64 0)).run Tryz.prog w = .ok (B (p.getD 0 0)) w := idx_str w p .i64 0 (by omega)
        have h48 : (p.getD 0 0 == 48) = false := by
          unfold oct at ho
          rw [show decide (1 < p.length) = true by simpa using hl, Bool.true_and] at ho
          exact ho
        have e0 := byte_eq (p.getD 0 0) 48
        simp only [show (((48 : UInt8).toNat : Nat) : Int) = 48 from rfl] at e0
        rw [h48] at e0
        clear ho h48
        generalize p.getD 0 0 = a at *
        go_enter Tryz.func114, Tryz.ntmps114
        go_wp2_with fail
        refine (unhide CC).mono ?_
        rintro e w2 ⟨rfl, hw⟩
        subst hw
        clear CC
        go_wp2
        go_ret2
        exact ⟨unhide FIN _ _ (unhide HD) (unhide HB), rfl⟩
      · have hl2 : ¬ 1 < (p.length : Int) := by omega
        clear ho
        go_enter Tryz.func114, Tryz.ntmps114
        go_wp2_with fail
        refine (unhide CC).mono ?_
        rintro e w2 ⟨rfl, hw⟩
        subst hw
        clear CC
        go_wp2
        go_ret2
        exact ⟨unhide FIN _ _ (unhide HD) (unhide HB), rfl⟩

set_option maxHeartbeats 1000000 in
set_option maxRecDepth 100000 in
theorem areDigits_any (l : List UInt8) (b : Nat) (w : World) (hl : l.length ≤ 1000000) (hb : b ≤ 16) : Calls Tryz.prog 115 #[S l, .int .u32 (b : Int)] w fun e w' => e = .returned (.bool (okD b l)) ∧ w' = w := by
  have fin : ∀ r : Bool, r = okD b l → Ending.returned (.bool r) = .returned (.bool (okD b l)) := fun r h => by rw [h]
  have FIN := hide fin
  clear fin
  have hsz := size_S l
  have HIX := hide (fun (v : World) (k : Nat) (hk : k < l.length) => idx_str v l .i64 k hk)
  go_enter Tryz.func115, Tryz.ntmps115
  go_wp2_with fail
  go_loopw [8] (fun i wr => ∃ k : Nat, k ≤ l.length ∧ i = .int .i64 k ∧ Hid (∀ x ∈ l.take k, dgV x < b) ∧ wr = w) (fun i _ => l.length - (intOf i).toNat)
  case atStart => exact ⟨0, by omega, rfl, hide (by simp), rfl⟩
  case round =>
    obtain ⟨k, hk, rfl, HOK, hw⟩ := hrel
    subst hw
    by_cases hkl : k < l.length
    · have hx0 := unhide HIX wr k hkl
      have HT := hide (take_snoc l k 0 hkl)
      have HMM := hide (getD_mem l k hkl)
      have CC := hide (i4digit_any (l.getD k 0) wr)
      have hd16 := dgV_le (l.getD k 0)
      generalize l.getD k 0 = x at *
      by_cases hx : dgV x < b
      · have HOK2 : Hid (∀ y ∈ l.take (k + 1), dgV y < b) := by
          show ∀ y ∈ l.take (k + 1), dgV y < b
          rw [unhide HT]
          intro y hy
          rcases List.mem_append.1 hy with hy | hy
          · exact unhide HOK y hy
          · rw [List.mem_singleton] at hy
            rw [hy]
            exact hx
        have hx' : ¬ (b : Int) ≤ (dgV x : Int) := by omega
        clear HOK HT HMM
        go_wp2_with fail
        refine (unhide CC).mono ?_
        rintro e w2 ⟨rfl, hw⟩
        subst hw
        clear CC
        generalize dgV x = d at *
        go_wp2
        exact ⟨⟨k + 1, by omega, by simp, HOK2, by first | rfl | trivial⟩, (show l.length - ((k : Int) + 1).toNat < l.length - ((k : Int)).toNat by omega)⟩
      · have HF : Hid (false = okD b l) := by
          show false = okD b l
          symm
          rw [Bool.eq_false_iff]
          intro ha
          have := List.all_eq_true.1 ha x (unhide HMM)
          simp at this
          omega
        have hx' : (b : Int) ≤ (dgV x : Int) := by omega
        clear HOK HT HMM
        go_wp2_with fail
        refine (unhide CC).mono ?_
        rintro e w2 ⟨rfl, hw⟩
        subst hw
        clear CC
        generalize dgV x = d at *
        go_wp2
        go_ret
        exact ⟨unhide FIN _ (unhide HF), rfl⟩
    · have hok := unhide HOK
      rw [List.take_of_length_le (by omega)] at hok
      have HF : Hid (true = okD b l) := by
        show true = okD b l
        symm
        unfold okD
        rw [List.all_eq_true]
        intro x hx
        simpa using hok x hx
      clear hok HOK
      go_wp2
      go_ret
      exact ⟨unhide FIN _ (unhide HF), rfl⟩
end Go.Proofs.YtenlampiiodkhaaGreatDoor
namespace Go.Proofs.YtenlampiiodkhaaGreatDoor
set_option linter.unusedVariables false
open Go.RowKit

def numV (o : Option Nat) : Int := ((o.getD 0 : Nat) : Int)

theorem next_ok {b v d most : Nat} (hb : 0 < b) (h : v ≤ (most - d) / b) (hd : d ≤ most) : v * b + d ≤ most := by
  have := (Nat.le_div_iff_mul_le hb).1 h
  omega
theorem next_no {b v d most : Nat} (hb : 0 < b) (h : ¬ v ≤ (most - d) / b) : most < v * b + d := by
  refine Nat.lt_of_not_le fun hle => h ((Nat.le_div_iff_mul_le hb).2 ?_)
  omega

set_option maxHeartbeats 2000000 in
set_option maxRecDepth 100000 in
theorem number_any (p : List UInt8) (most : Nat) (w : World) (hp : p.length ≤ 1000000) (hm : most ≤ 4294967295) : Calls Tryz.prog 82 #[S p, .int .u32 (most : Int)] w fun e w' => e = .returned (.tuple #[.int .u32 (numV (numO p most)), .bool (numO p most).isSome]) ∧ w' = w := by
  have fin : ∀ (z : Int) (b : Bool), z = numV (numO p most) → b = (numO p most).isSome → Ending.returned (.tuple #[.int .u32 z, .bool b]) = .returned (.tuple #[.int .u32 (numV (numO p most)), .bool (numO p most).isSome]) := fun z b h1 h2 => by rw [h1, h2]
  have no : numO p most = none → Ending.returned (.tuple #[.int .u32 0, .bool false]) = .returned (.tuple #[.int .u32 (numV (numO p most)), .bool (numO p most).isSome]) := fun h => fin _ _ (by rw [h]; rfl) (by rw [h]; rfl)
  have yes : ∀ z : Nat, numO p most = some z → Ending.returned (.tuple #[.int .u32 (z : Int), .bool true]) = .returned (.tuple #[.int .u32 (numV (numO p most)), .bool (numO p most).isSome]) := fun z h => fin _ _ (by rw [h]; rfl) (by rw [h]; rfl)
  have NO := hide no
  have YES := hide yes
  clear fin no yes
  have hsz := size_S p
  by_cases hp0 : p = []
  · have HN := hide (unhide NO (by rw [hp0]; exact numO_empty most))
    clear NO YES hsz
    generalize numV (numO p most) = z1 at *
    generalize (numO p most).isSome = b1 at *
    subst hp0
    show Calls Tryz.prog 82 #[.string ⟨#[]⟩, .int .u32 (most : Int)] w _
    go_enter Tryz.func82, Tryz.ntmps82
    go_wp2
    go_ret2
    exact ⟨unhide HN, rfl⟩
  · have hne : ¬ ((⟨p.toArray⟩ : ByteArray) = ⟨#[]⟩) := fun e => hp0 (by
      have := congrArg (fun b : ByteArray => b.data.toList) e
      simpa using this)
    have hie : p.isEmpty = false := by simpa using hp0
    have DC := hide (digitsOf_any p w hp)
    have HB1 := hide (fun h => unhide NO (numO_bad (p := p) (most := most) h))
    have HB2 := hide (fun h => unhide NO (numO_great (p := p) (most := most) h))
    have HB3 := hide (fun h1 h2 => unhide YES _ (numO_yes (p := p) (most := most) hp0 h1 h2))
    have hll : (i4digs p).length ≤ 1000000 := Nat.le_trans (i4digs_len p) hp
    have hb := bas_cases p
    clear hp0 NO YES
    generalize i4digs p = l at *
    generalize bas p = b at *
    generalize numV (numO p most) = z1 at *
    generalize (numO p most).isSome = b1 at *
    have HBB := hide hb
    have hb0 : 8 ≤ b := by omega
    have hb1 : b ≤ 16 := by omega
    clear hb
    have hszl := size_S l
    have HIX := hide (fun (v : World) (k : Nat) (hk : k < l.length) => idx_str v l .i64 k hk)
    go_enter Tryz.func82, Tryz.ntmps82
    go_wp2_with fail
    refine (unhide DC).mono ?_
    rintro e w2 ⟨rfl, hw⟩
    subst hw
    clear DC
    go_wp2_with fail
    go_loopw [8, 20] (fun n i wr => ∃ (k v : Nat), k ≤ l.length ∧ i = .int .i64 k ∧ Hid (∀ x ∈ l.take k, dgV x < b) ∧ Hid (v = val b (l.take k)) ∧ v ≤ most ∧ n = .int .u32 v ∧ wr = w2) (fun _ i _ => l.length - (intOf i).toNat)
    case atStart => exact ⟨0, 0, by omega, rfl, hide (by simp), hide rfl, by omega, rfl, rfl⟩
    case round =>
      obtain ⟨k, v, hk, rfl, HOK, HV, hv, rfl, hw⟩ := hrel
      subst hw
      by_cases hkl : k < l.length
      · have hx0 := unhide HIX wr k hkl
        have HT := hide (take_snoc l k 0 hkl)
        have HMM := hide (getD_mem l k hkl)
        have CC := hide (i4digit_any (l.getD k 0) wr)
        have hd16 := dgV_le (l.getD k 0)
        have HSN := hide (show val b (l.take (k + 1)) = v * b + dgV (l.getD k 0) by rw [unhide HT, val_snoc, ← unhide HV])
        have HLE := hide (val_take b (by omega) l (k + 1))
        generalize l.getD k 0 = x at *
        by_cases hx : dgV x < b
        · have HOK2 : Hid (∀ y ∈ l.take (k + 1), dgV y < b) := by
            show ∀ y ∈ l.take (k + 1), dgV y < b
            rw [unhide HT]
            intro y hy
            rcases List.mem_append.1 hy with hy | hy
            · exact unhide HOK y hy
            · rw [List.mem_singleton] at hy
              rw [hy]
              exact hx
          have hx' : ¬ (b : Int) ≤ (dgV x : Int) := by omega
          by_cases hdm : dgV x ≤ most
          · have hdm' : ¬ (most : Int) < (dgV x : Int) := by omega
            by_cases hq : v ≤ (most - dgV x) / b
            · have hnx := next_ok (by omega) hq hdm
              have KK : Hid (∀ z : Int, z = ((v * b + dgV x : Nat) : Int) → ((∃ (k' v' : Nat), k' ≤ l.length ∧ Value.int .i64 ((k : Int) + 1) = .int .i64 k' ∧ Hid (∀ y ∈ l.take k', dgV y < b) ∧ Hid (v' = val b (l.take k')) ∧ v' ≤ most ∧ Value.int .u32 z = .int .u32 v' ∧ wr = wr) ∧ l.length - ((k : Int) + 1).toNat < l.length - k)) :=
                fun z hz => ⟨⟨k + 1, v * b + dgV x, by omega, by simp, HOK2, (unhide HSN).symm, hnx, by rw [hz], rfl⟩, by omega⟩
              clear HOK HT HMM HB1 HB2 HB3 HSN HLE HOK2 HV HIX
              go_wp2_with fail
              refine (unhide CC).mono ?_
              rintro e w2 ⟨rfl, hw⟩
              subst hw
              clear CC
              generalize dgV x = d at *
              have hq2 : ¬ ((most : Int) - (d : Int)) / (b : Int) < (v : Int) := by rcases unhide HBB with rfl | rfl | rfl <;> omega
              have hq3 : 0 ≤ (v : Int) * (b : Int) := by rcases unhide HBB with rfl | rfl | rfl <;> omega
              have hq4 : (v : Int) * (b : Int) + (d : Int) ≤ 4294967295 := by rcases unhide HBB with rfl | rfl | rfl <;> omega
              have hq5 : ((v * b + d : Nat) : Int) = (v : Int) * (b : Int) + (d : Int) := by rcases unhide HBB with rfl | rfl | rfl <;> omega
              rw [hq5] at KK
              clear HBB hq hq5 hnx
              go_wp2
              exact unhide KK _ rfl
            · have hnx := next_no (d := dgV x) (by omega) hq
              have HN := hide (unhide HB2 (by have := unhide HLE; have := unhide HSN; omega))
              clear HOK HT HMM HB1 HB2 HB3 HSN HLE HOK2 HV HIX
              go_wp2_with fail
              refine (unhide CC).mono ?_
              rintro e w2 ⟨rfl, hw⟩
              subst hw
              clear CC
              generalize dgV x = d at *
              have hq2 : ((most : Int) - (d : Int)) / (b : Int) < (v : Int) := by rcases unhide HBB with rfl | rfl | rfl <;> omega
              clear HBB hq hnx
              go_wp2
              go_ret2
              exact ⟨unhide HN, rfl⟩
          · have hdm' : (most : Int) < (dgV x : Int) := by omega
            have HN := hide (unhide HB2 (by have := unhide HLE; have := unhide HSN; omega))
            clear HOK HT HMM HB1 HB2 HB3 HSN HLE HOK2 HV HIX
            go_wp2_with fail
            refine (unhide CC).mono ?_
            rintro e w2 ⟨rfl, hw⟩
            subst hw
            clear CC
            generalize dgV x = d at *
            go_wp2
            go_ret2
            exact ⟨unhide HN, rfl⟩
        · have hx' : (b : Int) ≤ (dgV x : Int) := by omega
          have HN := hide (unhide HB1 (by
            rw [Bool.eq_false_iff]
            intro ha
            have := List.all_eq_true.1 ha x (unhide HMM)
            simp at this
            omega))
          clear HOK HT HMM HB1 HB2 HB3 HSN HLE HV HIX
          go_wp2_with fail
          refine (unhide CC).mono ?_
          rintro e w2 ⟨rfl, hw⟩
          subst hw
          clear CC
          generalize dgV x = d at *
          go_wp2
          go_ret2
          exact ⟨unhide HN, rfl⟩
      · have e : l.take k = l := List.take_of_length_le (by omega)
        have hok := unhide HOK
        have hvv := unhide HV
        rw [e] at hok hvv
        have HN := hide (unhide HB3 (by
          unfold okD
          rw [List.all_eq_true]
          intro x hx
          simpa using hok x hx) (by omega))
        rw [← hvv] at HN
        clear HOK HB1 HB2 HB3 HV HIX hok hvv e
        go_wp2
        go_ret2
        exact ⟨unhide HN, rfl⟩
end Go.Proofs.YtenlampiiodkhaaGreatDoor
