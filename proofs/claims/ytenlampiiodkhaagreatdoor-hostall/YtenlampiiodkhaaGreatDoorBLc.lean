/-
  I4A, I4B, I4X.
-/
import Derived.Test.YtenlampiiodkhaaGreatDoorBKc
namespace Go.Proofs.YtenlampiiodkhaaGreatDoor
set_option linter.unusedVariables false
open Go.RowKit
theorem dgV_at (x : UInt8) :
    (x.toNat < 48 ∧ dgV x = 16) ∨ (48 ≤ x.toNat ∧ x.toNat ≤ 57 ∧ dgV x = x.toNat - 48) ∨ (57 < x.toNat ∧ x.toNat < 65 ∧ dgV x = 16) ∨ (65 ≤ x.toNat ∧ x.toNat ≤ 70 ∧ dgV x = x.toNat - 55) ∨ (70 < x.toNat ∧ x.toNat < 97 ∧ dgV x = 16) ∨ (97 ≤ x.toNat ∧ x.toNat ≤ 102 ∧ dgV x = x.toNat - 87) ∨ (102 < x.toNat ∧ dgV x = 16) := by
  unfold dgV; by_cases h1 : 48 ≤ x.toNat ∧ x.toNat ≤ 57
  · rw [if_pos h1]; omega
  · rw [if_neg h1]; by_cases h2 : 97 ≤ x.toNat ∧ x.toNat ≤ 102
    · rw [if_pos h2]; omega
    · rw [if_neg h2]; by_cases h3 : 65 ≤ x.toNat ∧ x.toNat ≤ 70
      · rw [if_pos h3]; omega
      · rw [if_neg h3]; omega
set_option maxHeartbeats 1000000 in
set_option maxRecDepth 100000 in
theorem i4digit_any (x : UInt8) (w : World) : Calls Tryz.prog 122 #[B x] w fun e w' => e = .returned (.int .u32 (dgV x : Int)) ∧ w' = w := by
  have fin : ∀ z : Int, z = (dgV x : Int) → Ending.returned (.int .u32 z) = .returned (.int .u32 (dgV x : Int)) := fun z h => by rw [h]
  have FIN := hide fin; clear fin; have hx := x.toNat_lt; have h := dgV_at x; obtain ⟨d, hd⟩ : ∃ d, d = dgV x := ⟨_, rfl⟩; rw [← hd] at h FIN ⊢; clear hd; obtain ⟨n, hn⟩ : ∃ n : Int, n = (x.toNat : Int) := ⟨_, rfl⟩; show Calls Tryz.prog 122 #[.int .u8 (x.toNat : Int)] w _; rw [← hn]; rcases h with ⟨a1, a2⟩ | ⟨a1, a2, a3⟩ | ⟨a1, a2, a3⟩ | ⟨a1, a2, a3⟩ | ⟨a1, a2, a3⟩ | ⟨a1, a2, a3⟩ | ⟨a1, a2⟩
  · have b1 : n < 48 := by omega
    have b2 : 0 ≤ n := by omega
    have HD : Hid ((16 : Int) = d) := by show (16 : Int) = d; omega
    clear a1 a2 hn hx; go_enter Tryz.func122, Tryz.ntmps122; go_wp2; go_ret; exact ⟨unhide FIN _ (unhide HD), rfl⟩
  · have b1 : 48 ≤ n := by omega
    have b2 : n ≤ 57 := by omega
    have HD : Hid (n - 48 = d) := by show n - 48 = d; omega
    clear a1 a2 a3 hn hx; go_enter Tryz.func122, Tryz.ntmps122; go_wp2; go_ret; exact ⟨unhide FIN _ (unhide HD), rfl⟩
  · have b1 : 57 < n := by omega
    have b2 : n < 65 := by omega
    have HD : Hid ((16 : Int) = d) := by show (16 : Int) = d; omega
    clear a1 a2 a3 hn hx; go_enter Tryz.func122, Tryz.ntmps122; go_wp2; go_ret; exact ⟨unhide FIN _ (unhide HD), rfl⟩
  · have b1 : 65 ≤ n := by omega
    have b2 : n ≤ 70 := by omega
    have HD : Hid (n - 65 + 10 = d) := by show n - 65 + 10 = d; omega
    clear a1 a2 a3 hn hx; go_enter Tryz.func122, Tryz.ntmps122; go_wp2; go_ret; exact ⟨unhide FIN _ (unhide HD), rfl⟩
  · have b1 : 70 < n := by omega
    have b2 : n < 97 := by omega
    have HD : Hid ((16 : Int) = d) := by show (16 : Int) = d; omega
    clear a1 a2 a3 hn hx; go_enter Tryz.func122, Tryz.ntmps122; go_wp2; go_ret; exact ⟨unhide FIN _ (unhide HD), rfl⟩
  · have b1 : 97 ≤ n := by omega
    have b2 : n ≤ 102 := by omega
    have HD : Hid (n - 97 + 10 = d) := by show n - 97 + 10 = d; omega
    clear a1 a2 a3 hn hx; go_enter Tryz.func122, Tryz.ntmps122; go_wp2; go_ret; exact ⟨unhide FIN _ (unhide HD), rfl⟩
  · have b1 : 102 < n := by omega
    have b2 : n < 256 := by omega
    have HD : Hid ((16 : Int) = d) := by show (16 : Int) = d; omega
    clear a1 a2 hn hx; go_enter Tryz.func122, Tryz.ntmps122; go_wp2; go_ret; exact ⟨unhide FIN _ (unhide HD), rfl⟩
theorem byte_eq (a c : UInt8) : ((a.toNat : Int) == (c.toNat : Int)) = (a == c) := by
  rw [Bool.eq_iff_iff]; simp only [beq_iff_eq]; constructor
  · intro h; exact UInt8.toNat_inj.1 (by omega)
  · rintro rfl; rfl
set_option maxHeartbeats 1000000 in
set_option maxRecDepth 100000 in
theorem marked_any (p : List UInt8) (w : World) (hp : p.length ≤ 1000000) : Calls Tryz.prog 113 #[S p] w fun e w' => e = .returned (.bool (mrk p)) ∧ w' = w := by
  have fin : ∀ b : Bool, b = mrk p → Ending.returned (.bool b) = .returned (.bool (mrk p)) := fun b h => by rw [h]
  have FIN := hide fin; clear fin; have hsz := size_S p; by_cases h2 : 2 ≤ p.length
  · have i0 : (Instr.index 9 (S p) (.int .i64 0)).run Tryz.prog w = .ok (B (p.getD 0 0)) w := idx_str w p .i64 0 (by omega); have i1 : (Instr.index 9 (S p) (.int .i64 1)).run Tryz.prog w = .ok (B (p.getD 1 0)) w := idx_str w p .i64 1 (by omega); have HM : Hid (mrk p = ((p.getD 0 0 == 48) && (p.getD 1 0 == 120 || p.getD 1 0 == 88))) := by
      show mrk p = _; unfold mrk; rw [show decide (2 ≤ p.length) = true by simpa using h2, Bool.true_and]
    generalize p.getD 0 0 = a at *; generalize p.getD 1 0 = b at *; have h2' : 2 ≤ (p.length : Int) := by omega
    have e0 := byte_eq a 48; have e1 := byte_eq b 120; have e2 := byte_eq b 88; simp only [show (((48 : UInt8).toNat : Nat) : Int) = 48 from rfl, show (((120 : UInt8).toNat : Nat) : Int) = 120 from rfl, show (((88 : UInt8).toNat : Nat) : Int) = 88 from rfl] at e0 e1 e2
    cases c0 : (a == 48) with
    | false =>
      rw [c0] at e0 HM; go_enter Tryz.func113, Tryz.ntmps113; go_wp2; go_ret; exact ⟨unhide FIN _ (by rw [unhide HM]; rfl), rfl⟩
    | true =>
      rw [c0] at e0 HM
      cases c1 : (b == 120) with
      | true =>
        rw [c1] at e1 HM; go_enter Tryz.func113, Tryz.ntmps113; go_wp2; go_ret; exact ⟨unhide FIN _ (by rw [unhide HM]; rfl), rfl⟩
      | false =>
        rw [c1] at e1 HM
        cases c2 : (b == 88) with
        | true =>
          rw [c2] at e2 HM; go_enter Tryz.func113, Tryz.ntmps113; go_wp2; go_ret; exact ⟨unhide FIN _ (by rw [unhide HM]; rfl), rfl⟩
        | false =>
          rw [c2] at e2 HM; go_enter Tryz.func113, Tryz.ntmps113; go_wp2; go_ret; exact ⟨unhide FIN _ (by rw [unhide HM]; rfl), rfl⟩
  · have HM : Hid (mrk p = false) := by
      show mrk p = _; unfold mrk; rw [show decide (2 ≤ p.length) = false by simpa using h2]; rfl
    have h2' : ¬ 2 ≤ (p.length : Int) := by omega
    go_enter Tryz.func113, Tryz.ntmps113; go_wp2; go_ret; exact ⟨unhide FIN _ (by rw [unhide HM]), rfl⟩
set_option maxHeartbeats 1000000 in
set_option maxRecDepth 100000 in
theorem digitsOf_any (p : List UInt8) (w : World) (hp : p.length ≤ 1000000) : Calls Tryz.prog 114 #[S p] w fun e w' => e = .returned (.tuple #[S (i4digs p), .int .u32 (bas p : Int)]) ∧ w' = w := by
  have fin : ∀ (u : List UInt8) (z : Int), u = i4digs p → z = (bas p : Int) → Ending.returned (.tuple #[S u, .int .u32 z]) = .returned (.tuple #[S (i4digs p), .int .u32 (bas p : Int)]) := fun u z h1 h2 => by rw [h1, h2]
  have FIN := hide fin; clear fin; have hsz := size_S p; have CC := hide (marked_any p w hp)
  cases hm : mrk p with
  | true =>
    rw [hm] at CC; have hl : 2 ≤ p.length := by
      unfold mrk at hm; simp only [Bool.and_eq_true, decide_eq_true_eq] at hm; exact hm.1.1
    have hdr : (Instr.slice 9 (S p) (some (.int .i64 2)) none none).run Tryz.prog w = .ok (S (p.drop 2)) w := run_drop w p 2 hl; have HD : Hid (p.drop 2 = i4digs p) := by show _ = i4digs p; unfold i4digs; rw [hm]; rfl
    have HB : Hid ((16 : Int) = (bas p : Int)) := by show _ = (bas p : Int); unfold bas; rw [hm]; rfl
    clear hm; generalize p.drop 2 = u at *; go_enter Tryz.func114, Tryz.ntmps114; go_wp2_with fail
    refine (unhide CC).mono ?_; rintro e w2 ⟨rfl, hw⟩; subst hw; clear CC; go_wp2; go_ret2; exact ⟨unhide FIN _ _ (unhide HD) (unhide HB), rfl⟩
  | false =>
    rw [hm] at CC
    cases ho : oct p with
    | true =>
      have ho2 := ho; unfold oct at ho2; simp only [Bool.and_eq_true, decide_eq_true_eq] at ho2; obtain ⟨hl, h48⟩ := ho2; have i0 : (Instr.index 9 (S p) (.int .i64 0)).run Tryz.prog w = .ok (B (p.getD 0 0)) w := idx_str w p .i64 0 (by omega); have hdr : (Instr.slice 9 (S p) (some (.int .i64 1)) none none).run Tryz.prog w = .ok (S (p.drop 1)) w := run_drop w p 1 (by omega); have HD : Hid (p.drop 1 = i4digs p) := by show _ = i4digs p; unfold i4digs; rw [hm, ho]; rfl
      have HB : Hid ((8 : Int) = (bas p : Int)) := by show _ = (bas p : Int); unfold bas; rw [hm, ho]; rfl
      have e0 := byte_eq (p.getD 0 0) 48; simp only [show (((48 : UInt8).toNat : Nat) : Int) = 48 from rfl] at e0; rw [h48] at e0; have hl2 : 1 < (p.length : Int) := by omega
      clear hm ho h48; generalize p.getD 0 0 = a at *; generalize p.drop 1 = u at *; go_enter Tryz.func114, Tryz.ntmps114; go_wp2_with fail
      refine (unhide CC).mono ?_; rintro e w2 ⟨rfl, hw⟩; subst hw; clear CC; go_wp2; go_ret2; exact ⟨unhide FIN _ _ (unhide HD) (unhide HB), rfl⟩
    | false =>
      have HD : Hid (p = i4digs p) := by show _ = i4digs p; unfold i4digs; rw [hm, ho]; rfl
      have HB : Hid ((10 : Int) = (bas p : Int)) := by show _ = (bas p : Int); unfold bas; rw [hm, ho]; rfl
      clear hm; by_cases hl : 1 < p.length
      · have hl2 : 1 < (p.length : Int) := by omega
        have i0 : (Instr.index 9 (S p) (.int .i64 0)).run Tryz.prog w = .ok (B (p.getD 0 0)) w := idx_str w p .i64 0 (by omega); have h48 : (p.getD 0 0 == 48) = false := by
          unfold oct at ho; rw [show decide (1 < p.length) = true by simpa using hl, Bool.true_and] at ho; exact ho
        have e0 := byte_eq (p.getD 0 0) 48; simp only [show (((48 : UInt8).toNat : Nat) : Int) = 48 from rfl] at e0; rw [h48] at e0; clear ho h48; generalize p.getD 0 0 = a at *; go_enter Tryz.func114, Tryz.ntmps114; go_wp2_with fail
        refine (unhide CC).mono ?_; rintro e w2 ⟨rfl, hw⟩; subst hw; clear CC; go_wp2; go_ret2; exact ⟨unhide FIN _ _ (unhide HD) (unhide HB), rfl⟩
      · have hl2 : ¬ 1 < (p.length : Int) := by omega
        clear ho; go_enter Tryz.func114, Tryz.ntmps114; go_wp2_with fail
        refine (unhide CC).mono ?_; rintro e w2 ⟨rfl, hw⟩; subst hw; clear CC; go_wp2; go_ret2; exact ⟨unhide FIN _ _ (unhide HD) (unhide HB), rfl⟩
set_option maxHeartbeats 1000000 in
set_option maxRecDepth 100000 in
theorem areDigits_any (l : List UInt8) (b : Nat) (w : World) (hl : l.length ≤ 1000000) (hb : b ≤ 16) : Calls Tryz.prog 115 #[S l, .int .u32 (b : Int)] w fun e w' => e = .returned (.bool (okD b l)) ∧ w' = w := by
  have fin : ∀ r : Bool, r = okD b l → Ending.returned (.bool r) = .returned (.bool (okD b l)) := fun r h => by rw [h]
  have FIN := hide fin; clear fin; have hsz := size_S l; have HIX := hide (fun (v : World) (k : Nat) (hk : k < l.length) => idx_str v l .i64 k hk); go_enter Tryz.func115, Tryz.ntmps115; go_wp2_with fail
  go_loopw [8] (fun i wr => ∃ k : Nat, k ≤ l.length ∧ i = .int .i64 k ∧ Hid (∀ x ∈ l.take k, dgV x < b) ∧ wr = w) (fun i _ => l.length - (intOf i).toNat)
  case atStart => exact ⟨0, by omega, rfl, hide (by simp), rfl⟩
  case round =>
    obtain ⟨k, hk, rfl, HOK, hw⟩ := hrel; subst hw; by_cases hkl : k < l.length
    · have hx0 := unhide HIX wr k hkl; have HT := hide (take_snoc l k 0 hkl); have HMM := hide (getD_mem l k hkl); have CC := hide (i4digit_any (l.getD k 0) wr); have hd16 := dgV_le (l.getD k 0); generalize l.getD k 0 = x at *; by_cases hx : dgV x < b
      · have HOK2 : Hid (∀ y ∈ l.take (k + 1), dgV y < b) := by
          show ∀ y ∈ l.take (k + 1), dgV y < b; rw [unhide HT]; intro y hy; rcases List.mem_append.1 hy with hy | hy
          · exact unhide HOK y hy
          · rw [List.mem_singleton] at hy; rw [hy]; exact hx
        have hx' : ¬ (b : Int) ≤ (dgV x : Int) := by omega
        clear HOK HT HMM; go_wp2_with fail
        refine (unhide CC).mono ?_; rintro e w2 ⟨rfl, hw⟩; subst hw; clear CC; generalize dgV x = d at *; go_wp2; exact ⟨⟨k + 1, by omega, by simp, HOK2, by first | rfl | trivial⟩, (show l.length - ((k : Int) + 1).toNat < l.length - ((k : Int)).toNat by omega)⟩
      · have HF : Hid (false = okD b l) := by
          show false = okD b l; symm; rw [Bool.eq_false_iff]; intro ha; have := List.all_eq_true.1 ha x (unhide HMM); simp at this; omega
        have hx' : (b : Int) ≤ (dgV x : Int) := by omega
        clear HOK HT HMM; go_wp2_with fail
        refine (unhide CC).mono ?_; rintro e w2 ⟨rfl, hw⟩; subst hw; clear CC; generalize dgV x = d at *; go_wp2; go_ret; exact ⟨unhide FIN _ (unhide HF), rfl⟩
    · have hok := unhide HOK; rw [List.take_of_length_le (by omega)] at hok; have HF : Hid (true = okD b l) := by
        show true = okD b l; symm; unfold okD; rw [List.all_eq_true]; intro x hx; simpa using hok x hx
      clear hok HOK; go_wp2; go_ret; exact ⟨unhide FIN _ (unhide HF), rfl⟩
end Go.Proofs.YtenlampiiodkhaaGreatDoor
namespace Go.Proofs.YtenlampiiodkhaaGreatDoor
set_option linter.unusedVariables false
open Go.RowKit
def numV (o : Option Nat) : Int := ((o.getD 0 : Nat) : Int)
theorem next_ok {b v d most : Nat} (hb : 0 < b) (h : v ≤ (most - d) / b) (hd : d ≤ most) : v * b + d ≤ most := by
  have := (Nat.le_div_iff_mul_le hb).1 h; omega
theorem next_no {b v d most : Nat} (hb : 0 < b) (h : ¬ v ≤ (most - d) / b) : most < v * b + d := by
  refine Nat.lt_of_not_le fun hle => h ((Nat.le_div_iff_mul_le hb).2 ?_); omega
set_option maxHeartbeats 2000000 in
set_option maxRecDepth 100000 in
theorem number_any (p : List UInt8) (most : Nat) (w : World) (hp : p.length ≤ 1000000) (hm : most ≤ 4294967295) : Calls Tryz.prog 82 #[S p, .int .u32 (most : Int)] w fun e w' => e = .returned (.tuple #[.int .u32 (numV (numO p most)), .bool (numO p most).isSome]) ∧ w' = w := by
  have fin : ∀ (z : Int) (b : Bool), z = numV (numO p most) → b = (numO p most).isSome → Ending.returned (.tuple #[.int .u32 z, .bool b]) = .returned (.tuple #[.int .u32 (numV (numO p most)), .bool (numO p most).isSome]) := fun z b h1 h2 => by rw [h1, h2]
  have no : numO p most = none → Ending.returned (.tuple #[.int .u32 0, .bool false]) = .returned (.tuple #[.int .u32 (numV (numO p most)), .bool (numO p most).isSome]) := fun h => fin _ _ (by rw [h]; rfl) (by rw [h]; rfl); have yes : ∀ z : Nat, numO p most = some z → Ending.returned (.tuple #[.int .u32 (z : Int), .bool true]) = .returned (.tuple #[.int .u32 (numV (numO p most)), .bool (numO p most).isSome]) := fun z h => fin _ _ (by rw [h]; rfl) (by rw [h]; rfl); have NO := hide no; have YES := hide yes; clear fin no yes; have hsz := size_S p; by_cases hp0 : p = []
  · have HN := hide (unhide NO (by rw [hp0]; exact numO_empty most)); clear NO YES hsz; generalize numV (numO p most) = z1 at *; generalize (numO p most).isSome = b1 at *; subst hp0; show Calls Tryz.prog 82 #[.string ⟨#[]⟩, .int .u32 (most : Int)] w _; go_enter Tryz.func82, Tryz.ntmps82; go_wp2; go_ret2; exact ⟨unhide HN, rfl⟩
  · have hne : ¬ ((⟨p.toArray⟩ : ByteArray) = ⟨#[]⟩) := fun e => hp0 (by
      have := congrArg (fun b : ByteArray => b.data.toList) e; simpa using this)
    have hie : p.isEmpty = false := by simpa using hp0
    have DC := hide (digitsOf_any p w hp); have HB1 := hide (fun h => unhide NO (numO_bad (p := p) (most := most) h)); have HB2 := hide (fun h => unhide NO (numO_great (p := p) (most := most) h)); have HB3 := hide (fun h1 h2 => unhide YES _ (numO_yes (p := p) (most := most) hp0 h1 h2)); have hll : (i4digs p).length ≤ 1000000 := Nat.le_trans (i4digs_len p) hp; have hb := bas_cases p; clear hp0 NO YES; generalize i4digs p = l at *; generalize bas p = b at *; generalize numV (numO p most) = z1 at *; generalize (numO p most).isSome = b1 at *; have HBB := hide hb; have hb0 : 8 ≤ b := by omega
    have hb1 : b ≤ 16 := by omega
    clear hb; have hszl := size_S l; have HIX := hide (fun (v : World) (k : Nat) (hk : k < l.length) => idx_str v l .i64 k hk); go_enter Tryz.func82, Tryz.ntmps82; go_wp2_with fail
    refine (unhide DC).mono ?_; rintro e w2 ⟨rfl, hw⟩; subst hw; clear DC; go_wp2_with fail
    go_loopw [8, 20] (fun n i wr => ∃ (k v : Nat), k ≤ l.length ∧ i = .int .i64 k ∧ Hid (∀ x ∈ l.take k, dgV x < b) ∧ Hid (v = val b (l.take k)) ∧ v ≤ most ∧ n = .int .u32 v ∧ wr = w2) (fun _ i _ => l.length - (intOf i).toNat)
    case atStart => exact ⟨0, 0, by omega, rfl, hide (by simp), hide rfl, by omega, rfl, rfl⟩
    case round =>
      obtain ⟨k, v, hk, rfl, HOK, HV, hv, rfl, hw⟩ := hrel; subst hw; by_cases hkl : k < l.length
      · have hx0 := unhide HIX wr k hkl; have HT := hide (take_snoc l k 0 hkl); have HMM := hide (getD_mem l k hkl); have CC := hide (i4digit_any (l.getD k 0) wr); have hd16 := dgV_le (l.getD k 0); have HSN := hide (show val b (l.take (k + 1)) = v * b + dgV (l.getD k 0) by rw [unhide HT, val_snoc, ← unhide HV]); have HLE := hide (val_take b (by omega) l (k + 1)); generalize l.getD k 0 = x at *; by_cases hx : dgV x < b
        · have HOK2 : Hid (∀ y ∈ l.take (k + 1), dgV y < b) := by
            show ∀ y ∈ l.take (k + 1), dgV y < b; rw [unhide HT]; intro y hy; rcases List.mem_append.1 hy with hy | hy
            · exact unhide HOK y hy
            · rw [List.mem_singleton] at hy; rw [hy]; exact hx
          have hx' : ¬ (b : Int) ≤ (dgV x : Int) := by omega
          by_cases hdm : dgV x ≤ most
          · have hdm' : ¬ (most : Int) < (dgV x : Int) := by omega
            by_cases hq : v ≤ (most - dgV x) / b
            · have hnx := next_ok (by omega) hq hdm; have KK : Hid (∀ z : Int, z = ((v * b + dgV x : Nat) : Int) → ((∃ (k' v' : Nat), k' ≤ l.length ∧ Value.int .i64 ((k : Int) + 1) = .int .i64 k' ∧ Hid (∀ y ∈ l.take k', dgV y < b) ∧ Hid (v' = val b (l.take k')) ∧ v' ≤ most ∧ Value.int .u32 z = .int .u32 v' ∧ wr = wr) ∧ l.length - ((k : Int) + 1).toNat < l.length - k)) :=
                fun z hz => ⟨⟨k + 1, v * b + dgV x, by omega, by simp, HOK2, (unhide HSN).symm, hnx, by rw [hz], rfl⟩, by omega⟩
              clear HOK HT HMM HB1 HB2 HB3 HSN HLE HOK2 HV HIX; go_wp2_with fail
              refine (unhide CC).mono ?_; rintro e w2 ⟨rfl, hw⟩; subst hw; clear CC; generalize dgV x = d at *; have hq2 : ¬ ((most : Int) - (d : Int)) / (b : Int) < (v : Int) := by rcases unhide HBB with rfl | rfl | rfl <;> omega
              have hq3 : 0 ≤ (v : Int) * (b : Int) := by rcases unhide HBB with rfl | rfl | rfl <;> omega
              have hq4 : (v : Int) * (b : Int) + (d : Int) ≤ 4294967295 := by rcases unhide HBB with rfl | rfl | rfl <;> omega
              have hq5 : ((v * b + d : Nat) : Int) = (v : Int) * (b : Int) + (d : Int) := by rcases unhide HBB with rfl | rfl | rfl <;> omega
              rw [hq5] at KK; clear HBB hq hq5 hnx; go_wp2; exact unhide KK _ rfl
            · have hnx := next_no (d := dgV x) (by omega) hq; have HN := hide (unhide HB2 (by have := unhide HLE; have := unhide HSN; omega)); clear HOK HT HMM HB1 HB2 HB3 HSN HLE HOK2 HV HIX; go_wp2_with fail
              refine (unhide CC).mono ?_; rintro e w2 ⟨rfl, hw⟩; subst hw; clear CC; generalize dgV x = d at *; have hq2 : ((most : Int) - (d : Int)) / (b : Int) < (v : Int) := by rcases unhide HBB with rfl | rfl | rfl <;> omega
              clear HBB hq hnx; go_wp2; go_ret2; exact ⟨unhide HN, rfl⟩
          · have hdm' : (most : Int) < (dgV x : Int) := by omega
            have HN := hide (unhide HB2 (by have := unhide HLE; have := unhide HSN; omega)); clear HOK HT HMM HB1 HB2 HB3 HSN HLE HOK2 HV HIX; go_wp2_with fail
            refine (unhide CC).mono ?_; rintro e w2 ⟨rfl, hw⟩; subst hw; clear CC; generalize dgV x = d at *; go_wp2; go_ret2; exact ⟨unhide HN, rfl⟩
        · have hx' : (b : Int) ≤ (dgV x : Int) := by omega
          have HN := hide (unhide HB1 (by
            rw [Bool.eq_false_iff]; intro ha; have := List.all_eq_true.1 ha x (unhide HMM); simp at this; omega))
          clear HOK HT HMM HB1 HB2 HB3 HSN HLE HV HIX; go_wp2_with fail
          refine (unhide CC).mono ?_; rintro e w2 ⟨rfl, hw⟩; subst hw; clear CC; generalize dgV x = d at *; go_wp2; go_ret2; exact ⟨unhide HN, rfl⟩
      · have e : l.take k = l := List.take_of_length_le (by omega); have hok := unhide HOK; have hvv := unhide HV; rw [e] at hok hvv; have HN := hide (unhide HB3 (by
          unfold okD; rw [List.all_eq_true]; intro x hx; simpa using hok x hx) (by omega))
        rw [← hvv] at HN; clear HOK HB1 HB2 HB3 HV HIX hok hvv e; go_wp2; go_ret2; exact ⟨unhide HN, rfl⟩
end Go.Proofs.YtenlampiiodkhaaGreatDoor
namespace Go.Proofs.YtenlampiiodkhaaGreatDoor
set_option linter.unusedVariables false
open Go.RowKit
def hexI (x : UInt8) : Int := if dgV x < 16 then (dgV x : Int) else -1
set_option maxHeartbeats 1000000 in
set_option maxRecDepth 100000 in
theorem hex_any (x : UInt8) (w : World) : Calls Tryz.prog 77 #[B x] w fun e w' => e = .returned (.int .i64 (hexI x)) ∧ w' = w := by
  have fin : ∀ z : Int, z = hexI x → Ending.returned (.int .i64 z) = .returned (.int .i64 (hexI x)) := fun z h => by rw [h]
  have FIN := hide fin; clear fin; have hx := x.toNat_lt; have h := dgV_at x; unfold hexI at FIN ⊢; obtain ⟨d, hd⟩ : ∃ d, d = dgV x := ⟨_, rfl⟩; rw [← hd] at h FIN ⊢; clear hd; obtain ⟨n, hn⟩ : ∃ n : Int, n = (x.toNat : Int) := ⟨_, rfl⟩; show Calls Tryz.prog 77 #[.int .u8 (x.toNat : Int)] w _; rw [← hn]; rcases h with ⟨a1, a2⟩ | ⟨a1, a2, a3⟩ | ⟨a1, a2, a3⟩ | ⟨a1, a2, a3⟩ | ⟨a1, a2, a3⟩ | ⟨a1, a2, a3⟩ | ⟨a1, a2⟩
  · have b1 : n < 48 := by omega
    have b2 : 0 ≤ n := by omega
    have HD : Hid ((-1 : Int) = if d < 16 then (d : Int) else -1) := by show _ = _; rw [if_neg (by omega)]
    clear a1 a2 hn hx; generalize (if d < 16 then (d : Int) else -1) = r at *; go_enter Tryz.func77, Tryz.ntmps77; go_wp2; go_ret; exact ⟨unhide FIN _ (unhide HD), rfl⟩
  · have b1 : 48 ≤ n := by omega
    have b2 : n ≤ 57 := by omega
    have HD : Hid (n - 48 = if d < 16 then (d : Int) else -1) := by show _ = _; rw [if_pos (by omega)]; omega
    clear a1 a2 a3 hn hx; generalize (if d < 16 then (d : Int) else -1) = r at *; go_enter Tryz.func77, Tryz.ntmps77; go_wp2; go_ret; exact ⟨unhide FIN _ (unhide HD), rfl⟩
  · have b1 : 57 < n := by omega
    have b2 : n < 65 := by omega
    have HD : Hid ((-1 : Int) = if d < 16 then (d : Int) else -1) := by show _ = _; rw [if_neg (by omega)]
    clear a1 a2 a3 hn hx; generalize (if d < 16 then (d : Int) else -1) = r at *; go_enter Tryz.func77, Tryz.ntmps77; go_wp2; go_ret; exact ⟨unhide FIN _ (unhide HD), rfl⟩
  · have b1 : 65 ≤ n := by omega
    have b2 : n ≤ 70 := by omega
    have HD : Hid (n - 65 + 10 = if d < 16 then (d : Int) else -1) := by show _ = _; rw [if_pos (by omega)]; omega
    clear a1 a2 a3 hn hx; generalize (if d < 16 then (d : Int) else -1) = r at *; go_enter Tryz.func77, Tryz.ntmps77; go_wp2; go_ret; exact ⟨unhide FIN _ (unhide HD), rfl⟩
  · have b1 : 70 < n := by omega
    have b2 : n < 97 := by omega
    have HD : Hid ((-1 : Int) = if d < 16 then (d : Int) else -1) := by show _ = _; rw [if_neg (by omega)]
    clear a1 a2 a3 hn hx; generalize (if d < 16 then (d : Int) else -1) = r at *; go_enter Tryz.func77, Tryz.ntmps77; go_wp2; go_ret; exact ⟨unhide FIN _ (unhide HD), rfl⟩
  · have b1 : 97 ≤ n := by omega
    have b2 : n ≤ 102 := by omega
    have HD : Hid (n - 97 + 10 = if d < 16 then (d : Int) else -1) := by show _ = _; rw [if_pos (by omega)]; omega
    clear a1 a2 a3 hn hx; generalize (if d < 16 then (d : Int) else -1) = r at *; go_enter Tryz.func77, Tryz.ntmps77; go_wp2; go_ret; exact ⟨unhide FIN _ (unhide HD), rfl⟩
  · have b1 : 102 < n := by omega
    have b2 : n < 256 := by omega
    have HD : Hid ((-1 : Int) = if d < 16 then (d : Int) else -1) := by show _ = _; rw [if_neg (by omega)]
    clear a1 a2 hn hx; generalize (if d < 16 then (d : Int) else -1) = r at *; go_enter Tryz.func77, Tryz.ntmps77; go_wp2; go_ret; exact ⟨unhide FIN _ (unhide HD), rfl⟩
def rnum (p : List UInt8) : Option Nat := if p ≠ [] ∧ okD (bas p) (i4digs p) = true then some (min (val (bas p) (i4digs p)) 1099511627776) else none
theorem min_step (b v d : Nat) (hb : 1 ≤ b) : min (min v 1099511627776 * b + d) 1099511627776 = min (v * b + d) 1099511627776 := by
  by_cases h : v ≤ 1099511627776
  · rw [Nat.min_eq_left h]
  · have h1 : v * 1 ≤ v * b := Nat.mul_le_mul_left v hb; have h2 : 1099511627776 * 1 ≤ 1099511627776 * b := Nat.mul_le_mul_left _ hb; have e1 : min v 1099511627776 = 1099511627776 := Nat.min_eq_right (by omega); have e2 : min (1099511627776 * b + d) 1099511627776 = 1099511627776 := Nat.min_eq_right (by omega); have e3 : min (v * b + d) 1099511627776 = 1099511627776 := Nat.min_eq_right (by omega); rw [e1, e2, e3]
theorem rnum_bad {p : List UInt8} (h : okD (bas p) (i4digs p) = false) : rnum p = none := by
  unfold rnum; rw [if_neg]; rintro ⟨_, h2⟩; rw [h] at h2
  cases h2
theorem rnum_yes {p : List UInt8} (h0 : p ≠ []) (h1 : okD (bas p) (i4digs p) = true) : rnum p = some (min (val (bas p) (i4digs p)) 1099511627776) := by
  unfold rnum; rw [if_pos ⟨h0, h1⟩]
set_option maxHeartbeats 4000000 in
set_option maxRecDepth 100000 in
theorem rnumber_any (p : List UInt8) (w : World) (hp : p.length ≤ 1000000) : Calls Tryz.prog 79 #[S p] w fun e w' => e = .returned (.tuple #[.int .u64 (numV (rnum p)), .bool (rnum p).isSome]) ∧ w' = w := by
  have no : rnum p = none → Ending.returned (.tuple #[.int .u64 0, .bool false]) = .returned (.tuple #[.int .u64 (numV (rnum p)), .bool (rnum p).isSome]) := fun h => by rw [h]; rfl
  have yes : ∀ z : Nat, rnum p = some z → Ending.returned (.tuple #[.int .u64 (z : Int), .bool true]) = .returned (.tuple #[.int .u64 (numV (rnum p)), .bool (rnum p).isSome]) := fun z h => by rw [h]; rfl
  have NO := hide no; have YES := hide yes; clear no yes; have hsz := size_S p; by_cases hp0 : p = []
  · have HN := hide (unhide NO (by rw [hp0]; rfl)); clear NO YES hsz; generalize numV (rnum p) = z1 at *; generalize (rnum p).isSome = b1 at *; subst hp0; show Calls Tryz.prog 79 #[.string ⟨#[]⟩] w _; go_enter Tryz.func79, Tryz.ntmps79; go_wp2; go_ret2; exact ⟨unhide HN, rfl⟩
  · have hl0 : 0 < p.length := List.length_pos_iff.2 hp0; have HB1 := hide (fun h => unhide NO (rnum_bad (p := p) h)); have HB3 := hide (fun h1 => unhide YES _ (rnum_yes (p := p) hp0 h1)); clear NO YES hp0; generalize numV (rnum p) = z1 at *; generalize (rnum p).isSome = b1 at *
    cases hm : mrk p with
    | true =>
      have hm2 := hm; unfold mrk at hm2; simp only [Bool.and_eq_true, decide_eq_true_eq] at hm2; obtain ⟨⟨hl, h48⟩, hx⟩ := hm2; have i0 : (Instr.index 9 (S p) (.int .i64 0)).run Tryz.prog w = .ok (B (p.getD 0 0)) w := idx_str w p .i64 0 (by omega); have i1 : (Instr.index 9 (S p) (.int .i64 1)).run Tryz.prog w = .ok (B (p.getD 1 0)) w := idx_str w p .i64 1 (by omega); have hdr : (Instr.slice 9 (S p) (some (.int .i64 2)) none none).run Tryz.prog w = .ok (S (p.drop 2)) w := run_drop w p 2 hl; have eD : i4digs p = p.drop 2 := by unfold i4digs; rw [hm]; rfl
      have eB : bas p = 16 := by unfold bas; rw [hm]; rfl
      rw [eD, eB] at HB1 HB3; have hll : (p.drop 2).length ≤ 1000000 := by simp; omega
      have e0 := byte_eq (p.getD 0 0) 48; have e1 := byte_eq (p.getD 1 0) 120; have e2 := byte_eq (p.getD 1 0) 88; simp only [show (((48 : UInt8).toNat : Nat) : Int) = 48 from rfl, show (((120 : UInt8).toNat : Nat) : Int) = 120 from rfl, show (((88 : UInt8).toNat : Nat) : Int) = 88 from rfl] at e0 e1 e2; rw [h48] at e0; have hl' : 2 ≤ (p.length : Int) := by omega
      clear eD eB hm h48; generalize p.getD 0 0 = x0 at *; generalize p.getD 1 0 = x1 at *; generalize p.drop 2 = l at *; have hszl := size_S l; have HIX := hide (fun (v : World) (k : Nat) (hk : k < l.length) => idx_str v l .i64 k hk)
      cases c1 : (x1 == 120) with
      | true =>
        rw [c1] at e1; clear hx c1; go_enter Tryz.func79, Tryz.ntmps79; go_wp2_with fail
        go_loopw [5, 6] (fun n i wr => ∃ (k v : Nat), k ≤ l.length ∧ i = .int .i64 k ∧ Hid (∀ x ∈ l.take k, dgV x < 16) ∧ Hid (v = min (val 16 (l.take k)) 1099511627776) ∧ v ≤ 1099511627776 ∧ n = .int .u64 v ∧ wr = w) (fun _ i _ => l.length - (intOf i).toNat)
        case atStart => exact ⟨0, 0, by omega, rfl, hide (by simp), hide (by rfl), by omega, rfl, rfl⟩
        case round =>
          obtain ⟨k, v, hk, rfl, HOK, HV, hv, rfl, hw⟩ := hrel; subst hw; by_cases hkl : k < l.length
          · have hkl' : (k : Int) < (l.length : Int) := by omega
            have hx0 := unhide HIX wr k hkl; have HT := hide (take_snoc l k 0 hkl); have HMM := hide (getD_mem l k hkl); have CC := hide (hex_any (l.getD k 0) wr); have HSN := hide (show min (val 16 (l.take (k + 1))) 1099511627776 = min (v * 16 + dgV (l.getD k 0)) 1099511627776 by rw [unhide HT, val_snoc, unhide HV, min_step 16 _ _ (by decide)]); unfold hexI at CC; generalize l.getD k 0 = y at *; by_cases hyb : dgV y < 16
            · have HOK2 : Hid (∀ z ∈ l.take (k + 1), dgV z < 16) := by
                show ∀ z ∈ l.take (k + 1), dgV z < 16; rw [unhide HT]; intro z hz; rcases List.mem_append.1 hz with hz | hz
                · exact unhide HOK z hz
                · rw [List.mem_singleton] at hz; rw [hz]; exact hyb
              rw [if_pos (by omega)] at CC; have KK : Hid (∀ z : Nat, z = min (v * 16 + dgV y) 1099511627776 → ((∃ (k' v' : Nat), k' ≤ l.length ∧ Value.int .i64 ((k : Int) + 1) = .int .i64 k' ∧ Hid (∀ x ∈ l.take k', dgV x < 16) ∧ Hid (v' = min (val 16 (l.take k')) 1099511627776) ∧ v' ≤ 1099511627776 ∧ Value.int .u64 (z : Int) = .int .u64 v' ∧ wr = wr) ∧ l.length - ((k : Int) + 1).toNat < l.length - k)) :=
                fun z hz => ⟨⟨k + 1, z, by omega, by simp, HOK2, by rw [hz]; exact (unhide HSN).symm, by rw [hz]; exact Nat.min_le_right _ _, rfl, rfl⟩, by omega⟩
              clear HOK HT HMM HSN HOK2 HV HB1 HB3 HIX; generalize dgV y = d at *; by_cases hbig : 1099511627776 < v * 16 + d
              · have hb' : (1099511627776 : Int) < (v : Int) * 16 + (d : Int) := by omega
                have kk := hide (unhide KK 1099511627776 (by omega)); clear KK; go_wp2_with fail
                refine (unhide CC).mono ?_; rintro e w2 ⟨rfl, hw⟩; subst hw; clear CC; go_wp2; exact unhide kk
              · have hb' : ¬ (1099511627776 : Int) < (v : Int) * 16 + (d : Int) := by omega
                have kk := hide (unhide KK (v * 16 + d) (by omega)); rw [show ((v * 16 + d : Nat) : Int) = (v : Int) * 16 + (d : Int) by omega] at kk; clear KK; go_wp2_with fail
                refine (unhide CC).mono ?_; rintro e w2 ⟨rfl, hw⟩; subst hw; clear CC; go_wp2; exact unhide kk
            · have HN := hide (unhide HB1 (by
                rw [Bool.eq_false_iff]; intro ha; have := List.all_eq_true.1 ha y (unhide HMM); simp at this; omega))
              clear HOK HT HMM HSN HV HB1 HB3 HIX; by_cases h16 : dgV y < 16
              · rw [if_pos h16] at CC; generalize dgV y = d at *
                first
                | (exfalso; omega)
                | skip
                all_goals
                  go_wp2_with fail
                  refine (unhide CC).mono ?_; rintro e w2 ⟨rfl, hw⟩; subst hw; clear CC; go_wp2; go_ret2; exact ⟨unhide HN, rfl⟩
              · rw [if_neg h16] at CC; go_wp2_with fail
                refine (unhide CC).mono ?_; rintro e w2 ⟨rfl, hw⟩; subst hw; clear CC; go_wp2; go_ret2; exact ⟨unhide HN, rfl⟩
          · have hkl' : ¬ (k : Int) < (l.length : Int) := by omega
            have e : l.take k = l := List.take_of_length_le (by omega); have hok := unhide HOK; have hvv := unhide HV; rw [e] at hok hvv; have HN := hide (unhide HB3 (by
              unfold okD; rw [List.all_eq_true]; intro x hx; simpa using hok x hx))
            rw [← hvv] at HN; clear HOK HB1 HB3 HV HIX hok hvv e; go_wp2; go_ret2; exact ⟨unhide HN, rfl⟩
      | false =>
        rw [c1] at e1 hx; simp only [Bool.false_or] at hx; rw [hx] at e2; clear hx c1; go_enter Tryz.func79, Tryz.ntmps79; go_wp2_with fail
        go_loopw [5, 6] (fun n i wr => ∃ (k v : Nat), k ≤ l.length ∧ i = .int .i64 k ∧ Hid (∀ x ∈ l.take k, dgV x < 16) ∧ Hid (v = min (val 16 (l.take k)) 1099511627776) ∧ v ≤ 1099511627776 ∧ n = .int .u64 v ∧ wr = w) (fun _ i _ => l.length - (intOf i).toNat)
        case atStart => exact ⟨0, 0, by omega, rfl, hide (by simp), hide (by rfl), by omega, rfl, rfl⟩
        case round =>
          obtain ⟨k, v, hk, rfl, HOK, HV, hv, rfl, hw⟩ := hrel; subst hw; by_cases hkl : k < l.length
          · have hkl' : (k : Int) < (l.length : Int) := by omega
            have hx0 := unhide HIX wr k hkl; have HT := hide (take_snoc l k 0 hkl); have HMM := hide (getD_mem l k hkl); have CC := hide (hex_any (l.getD k 0) wr); have HSN := hide (show min (val 16 (l.take (k + 1))) 1099511627776 = min (v * 16 + dgV (l.getD k 0)) 1099511627776 by rw [unhide HT, val_snoc, unhide HV, min_step 16 _ _ (by decide)]); unfold hexI at CC; generalize l.getD k 0 = y at *; by_cases hyb : dgV y < 16
            · have HOK2 : Hid (∀ z ∈ l.take (k + 1), dgV z < 16) := by
                show ∀ z ∈ l.take (k + 1), dgV z < 16; rw [unhide HT]; intro z hz; rcases List.mem_append.1 hz with hz | hz
                · exact unhide HOK z hz
                · rw [List.mem_singleton] at hz; rw [hz]; exact hyb
              rw [if_pos (by omega)] at CC; have KK : Hid (∀ z : Nat, z = min (v * 16 + dgV y) 1099511627776 → ((∃ (k' v' : Nat), k' ≤ l.length ∧ Value.int .i64 ((k : Int) + 1) = .int .i64 k' ∧ Hid (∀ x ∈ l.take k', dgV x < 16) ∧ Hid (v' = min (val 16 (l.take k')) 1099511627776) ∧ v' ≤ 1099511627776 ∧ Value.int .u64 (z : Int) = .int .u64 v' ∧ wr = wr) ∧ l.length - ((k : Int) + 1).toNat < l.length - k)) :=
                fun z hz => ⟨⟨k + 1, z, by omega, by simp, HOK2, by rw [hz]; exact (unhide HSN).symm, by rw [hz]; exact Nat.min_le_right _ _, rfl, rfl⟩, by omega⟩
              clear HOK HT HMM HSN HOK2 HV HB1 HB3 HIX; generalize dgV y = d at *; by_cases hbig : 1099511627776 < v * 16 + d
              · have hb' : (1099511627776 : Int) < (v : Int) * 16 + (d : Int) := by omega
                have kk := hide (unhide KK 1099511627776 (by omega)); clear KK; go_wp2_with fail
                refine (unhide CC).mono ?_; rintro e w2 ⟨rfl, hw⟩; subst hw; clear CC; go_wp2; exact unhide kk
              · have hb' : ¬ (1099511627776 : Int) < (v : Int) * 16 + (d : Int) := by omega
                have kk := hide (unhide KK (v * 16 + d) (by omega)); rw [show ((v * 16 + d : Nat) : Int) = (v : Int) * 16 + (d : Int) by omega] at kk; clear KK; go_wp2_with fail
                refine (unhide CC).mono ?_; rintro e w2 ⟨rfl, hw⟩; subst hw; clear CC; go_wp2; exact unhide kk
            · have HN := hide (unhide HB1 (by
                rw [Bool.eq_false_iff]; intro ha; have := List.all_eq_true.1 ha y (unhide HMM); simp at this; omega))
              clear HOK HT HMM HSN HV HB1 HB3 HIX; by_cases h16 : dgV y < 16
              · rw [if_pos h16] at CC; generalize dgV y = d at *
                first
                | (exfalso; omega)
                | skip
                all_goals
                  go_wp2_with fail
                  refine (unhide CC).mono ?_; rintro e w2 ⟨rfl, hw⟩; subst hw; clear CC; go_wp2; go_ret2; exact ⟨unhide HN, rfl⟩
              · rw [if_neg h16] at CC; go_wp2_with fail
                refine (unhide CC).mono ?_; rintro e w2 ⟨rfl, hw⟩; subst hw; clear CC; go_wp2; go_ret2; exact ⟨unhide HN, rfl⟩
          · have hkl' : ¬ (k : Int) < (l.length : Int) := by omega
            have e : l.take k = l := List.take_of_length_le (by omega); have hok := unhide HOK; have hvv := unhide HV; rw [e] at hok hvv; have HN := hide (unhide HB3 (by
              unfold okD; rw [List.all_eq_true]; intro x hx; simpa using hok x hx))
            rw [← hvv] at HN; clear HOK HB1 HB3 HV HIX hok hvv e; go_wp2; go_ret2; exact ⟨unhide HN, rfl⟩
    | false =>
      have e1 := byte_eq (p.getD 1 0) 120; have e2 := byte_eq (p.getD 1 0) 88; have e0 := byte_eq (p.getD 0 0) 48; simp only [show (((48 : UInt8).toNat : Nat) : Int) = 48 from rfl, show (((120 : UInt8).toNat : Nat) : Int) = 120 from rfl, show (((88 : UInt8).toNat : Nat) : Int) = 88 from rfl] at e0 e1 e2; have hm2 := hm; unfold mrk at hm2
      cases ho : oct p with
      | true =>
        have ho2 := ho; unfold oct at ho2; simp only [Bool.and_eq_true, decide_eq_true_eq] at ho2; obtain ⟨hl, h48⟩ := ho2; rw [show decide (2 ≤ p.length) = true from decide_eq_true (by omega), h48] at hm2; simp only [Bool.true_and, Bool.or_eq_false_iff] at hm2; rw [hm2.1] at e1; rw [hm2.2] at e2; rw [h48] at e0; have i0 : (Instr.index 9 (S p) (.int .i64 0)).run Tryz.prog w = .ok (B (p.getD 0 0)) w := idx_str w p .i64 0 (by omega); have i1 : (Instr.index 9 (S p) (.int .i64 1)).run Tryz.prog w = .ok (B (p.getD 1 0)) w := idx_str w p .i64 1 (by omega); have hdr : (Instr.slice 9 (S p) (some (.int .i64 1)) none none).run Tryz.prog w = .ok (S (p.drop 1)) w := run_drop w p 1 (by omega); have eD : i4digs p = p.drop 1 := by unfold i4digs; rw [hm, ho]; rfl
        have eB : bas p = 8 := by unfold bas; rw [hm, ho]; rfl
        rw [eD, eB] at HB1 HB3; have hll : (p.drop 1).length ≤ 1000000 := by simp; omega
        have hl' : 2 ≤ (p.length : Int) := by omega
        clear eD eB hm ho h48 hm2; generalize p.getD 0 0 = x0 at *; generalize p.getD 1 0 = x1 at *; generalize p.drop 1 = l at *; have hszl := size_S l; have HIX := hide (fun (v : World) (k : Nat) (hk : k < l.length) => idx_str v l .i64 k hk); go_enter Tryz.func79, Tryz.ntmps79; go_wp2_with fail
        go_loopw [5, 6] (fun n i wr => ∃ (k v : Nat), k ≤ l.length ∧ i = .int .i64 k ∧ Hid (∀ x ∈ l.take k, dgV x < 8) ∧ Hid (v = min (val 8 (l.take k)) 1099511627776) ∧ v ≤ 1099511627776 ∧ n = .int .u64 v ∧ wr = w) (fun _ i _ => l.length - (intOf i).toNat)
        case atStart => exact ⟨0, 0, by omega, rfl, hide (by simp), hide (by rfl), by omega, rfl, rfl⟩
        case round =>
          obtain ⟨k, v, hk, rfl, HOK, HV, hv, rfl, hw⟩ := hrel; subst hw; by_cases hkl : k < l.length
          · have hkl' : (k : Int) < (l.length : Int) := by omega
            have hx0 := unhide HIX wr k hkl; have HT := hide (take_snoc l k 0 hkl); have HMM := hide (getD_mem l k hkl); have CC := hide (hex_any (l.getD k 0) wr); have HSN := hide (show min (val 8 (l.take (k + 1))) 1099511627776 = min (v * 8 + dgV (l.getD k 0)) 1099511627776 by rw [unhide HT, val_snoc, unhide HV, min_step 8 _ _ (by decide)]); unfold hexI at CC; generalize l.getD k 0 = y at *; by_cases hyb : dgV y < 8
            · have HOK2 : Hid (∀ z ∈ l.take (k + 1), dgV z < 8) := by
                show ∀ z ∈ l.take (k + 1), dgV z < 8; rw [unhide HT]; intro z hz; rcases List.mem_append.1 hz with hz | hz
                · exact unhide HOK z hz
                · rw [List.mem_singleton] at hz; rw [hz]; exact hyb
              rw [if_pos (by omega)] at CC; have KK : Hid (∀ z : Nat, z = min (v * 8 + dgV y) 1099511627776 → ((∃ (k' v' : Nat), k' ≤ l.length ∧ Value.int .i64 ((k : Int) + 1) = .int .i64 k' ∧ Hid (∀ x ∈ l.take k', dgV x < 8) ∧ Hid (v' = min (val 8 (l.take k')) 1099511627776) ∧ v' ≤ 1099511627776 ∧ Value.int .u64 (z : Int) = .int .u64 v' ∧ wr = wr) ∧ l.length - ((k : Int) + 1).toNat < l.length - k)) :=
                fun z hz => ⟨⟨k + 1, z, by omega, by simp, HOK2, by rw [hz]; exact (unhide HSN).symm, by rw [hz]; exact Nat.min_le_right _ _, rfl, rfl⟩, by omega⟩
              clear HOK HT HMM HSN HOK2 HV HB1 HB3 HIX; generalize dgV y = d at *; by_cases hbig : 1099511627776 < v * 8 + d
              · have hb' : (1099511627776 : Int) < (v : Int) * 8 + (d : Int) := by omega
                have kk := hide (unhide KK 1099511627776 (by omega)); clear KK; go_wp2_with fail
                refine (unhide CC).mono ?_; rintro e w2 ⟨rfl, hw⟩; subst hw; clear CC; go_wp2; exact unhide kk
              · have hb' : ¬ (1099511627776 : Int) < (v : Int) * 8 + (d : Int) := by omega
                have kk := hide (unhide KK (v * 8 + d) (by omega)); rw [show ((v * 8 + d : Nat) : Int) = (v : Int) * 8 + (d : Int) by omega] at kk; clear KK; go_wp2_with fail
                refine (unhide CC).mono ?_; rintro e w2 ⟨rfl, hw⟩; subst hw; clear CC; go_wp2; exact unhide kk
            · have HN := hide (unhide HB1 (by
                rw [Bool.eq_false_iff]; intro ha; have := List.all_eq_true.1 ha y (unhide HMM); simp at this; omega))
              clear HOK HT HMM HSN HV HB1 HB3 HIX; by_cases h16 : dgV y < 16
              · rw [if_pos h16] at CC; generalize dgV y = d at *
                first
                | (exfalso; omega)
                | skip
                all_goals
                  go_wp2_with fail
                  refine (unhide CC).mono ?_; rintro e w2 ⟨rfl, hw⟩; subst hw; clear CC; go_wp2; go_ret2; exact ⟨unhide HN, rfl⟩
              · rw [if_neg h16] at CC; go_wp2_with fail
                refine (unhide CC).mono ?_; rintro e w2 ⟨rfl, hw⟩; subst hw; clear CC; go_wp2; go_ret2; exact ⟨unhide HN, rfl⟩
          · have hkl' : ¬ (k : Int) < (l.length : Int) := by omega
            have e : l.take k = l := List.take_of_length_le (by omega); have hok := unhide HOK; have hvv := unhide HV; rw [e] at hok hvv; have HN := hide (unhide HB3 (by
              unfold okD; rw [List.all_eq_true]; intro x hx; simpa using hok x hx))
            rw [← hvv] at HN; clear HOK HB1 HB3 HV HIX hok hvv e; go_wp2; go_ret2; exact ⟨unhide HN, rfl⟩
      | false =>
        have eD : i4digs p = p := by unfold i4digs; rw [hm, ho]; rfl
        have eB : bas p = 10 := by unfold bas; rw [hm, ho]; rfl
        rw [eD, eB] at HB1 HB3; clear eD eB; have HIX := hide (fun (v : World) (k : Nat) (hk : k < p.length) => idx_str v p .i64 k hk); by_cases hl : 2 ≤ p.length
        · have h48 : (p.getD 0 0 == 48) = false := by
            unfold oct at ho; rw [show decide (1 < p.length) = true from decide_eq_true (by omega), Bool.true_and] at ho; exact ho
          rw [h48] at e0; have i0 : (Instr.index 9 (S p) (.int .i64 0)).run Tryz.prog w = .ok (B (p.getD 0 0)) w := idx_str w p .i64 0 (by omega); have hl' : 2 ≤ (p.length : Int) := by omega
          have hl3 : ¬ (p.length : Int) = 0 := by omega
          have hl4 : ((p.length : Int) == 0) = false := by simpa using hl3
          clear hm ho h48 hm2 e1 e2; generalize p.getD 0 0 = x0 at *; go_enter Tryz.func79, Tryz.ntmps79; go_wp2_with fail
          go_loopw [5, 6] (fun n i wr => ∃ (k v : Nat), k ≤ p.length ∧ i = .int .i64 k ∧ Hid (∀ x ∈ p.take k, dgV x < 10) ∧ Hid (v = min (val 10 (p.take k)) 1099511627776) ∧ v ≤ 1099511627776 ∧ n = .int .u64 v ∧ wr = w) (fun _ i _ => p.length - (intOf i).toNat)
          case atStart => exact ⟨0, 0, by omega, rfl, hide (by simp), hide (by rfl), by omega, rfl, rfl⟩
          case round =>
            obtain ⟨k, v, hk, rfl, HOK, HV, hv, rfl, hw⟩ := hrel; subst hw; by_cases hkl : k < p.length
            · have hkl' : (k : Int) < (p.length : Int) := by omega
              have hx0 := unhide HIX wr k hkl; have HT := hide (take_snoc p k 0 hkl); have HMM := hide (getD_mem p k hkl); have CC := hide (hex_any (p.getD k 0) wr); have HSN := hide (show min (val 10 (p.take (k + 1))) 1099511627776 = min (v * 10 + dgV (p.getD k 0)) 1099511627776 by rw [unhide HT, val_snoc, unhide HV, min_step 10 _ _ (by decide)]); unfold hexI at CC; generalize p.getD k 0 = y at *; by_cases hyb : dgV y < 10
              · have HOK2 : Hid (∀ z ∈ p.take (k + 1), dgV z < 10) := by
                  show ∀ z ∈ p.take (k + 1), dgV z < 10; rw [unhide HT]; intro z hz; rcases List.mem_append.1 hz with hz | hz
                  · exact unhide HOK z hz
                  · rw [List.mem_singleton] at hz; rw [hz]; exact hyb
                rw [if_pos (by omega)] at CC; have KK : Hid (∀ z : Nat, z = min (v * 10 + dgV y) 1099511627776 → ((∃ (k' v' : Nat), k' ≤ p.length ∧ Value.int .i64 ((k : Int) + 1) = .int .i64 k' ∧ Hid (∀ x ∈ p.take k', dgV x < 10) ∧ Hid (v' = min (val 10 (p.take k')) 1099511627776) ∧ v' ≤ 1099511627776 ∧ Value.int .u64 (z : Int) = .int .u64 v' ∧ wr = wr) ∧ p.length - ((k : Int) + 1).toNat < p.length - k)) :=
                  fun z hz => ⟨⟨k + 1, z, by omega, by simp, HOK2, by rw [hz]; exact (unhide HSN).symm, by rw [hz]; exact Nat.min_le_right _ _, rfl, rfl⟩, by omega⟩
                clear HOK HT HMM HSN HOK2 HV HB1 HB3 HIX; generalize dgV y = d at *; by_cases hbig : 1099511627776 < v * 10 + d
                · have hb' : (1099511627776 : Int) < (v : Int) * 10 + (d : Int) := by omega
                  have kk := hide (unhide KK 1099511627776 (by omega)); clear KK; go_wp2_with fail
                  refine (unhide CC).mono ?_; rintro e w2 ⟨rfl, hw⟩; subst hw; clear CC; go_wp2; exact unhide kk
                · have hb' : ¬ (1099511627776 : Int) < (v : Int) * 10 + (d : Int) := by omega
                  have kk := hide (unhide KK (v * 10 + d) (by omega)); rw [show ((v * 10 + d : Nat) : Int) = (v : Int) * 10 + (d : Int) by omega] at kk; clear KK; go_wp2_with fail
                  refine (unhide CC).mono ?_; rintro e w2 ⟨rfl, hw⟩; subst hw; clear CC; go_wp2; exact unhide kk
              · have HN := hide (unhide HB1 (by
                  rw [Bool.eq_false_iff]; intro ha; have := List.all_eq_true.1 ha y (unhide HMM); simp at this; omega))
                clear HOK HT HMM HSN HV HB1 HB3 HIX; by_cases h16 : dgV y < 16
                · rw [if_pos h16] at CC; generalize dgV y = d at *
                  first
                  | (exfalso; omega)
                  | skip
                  all_goals
                    go_wp2_with fail
                    refine (unhide CC).mono ?_; rintro e w2 ⟨rfl, hw⟩; subst hw; clear CC; go_wp2; go_ret2; exact ⟨unhide HN, rfl⟩
                · rw [if_neg h16] at CC; go_wp2_with fail
                  refine (unhide CC).mono ?_; rintro e w2 ⟨rfl, hw⟩; subst hw; clear CC; go_wp2; go_ret2; exact ⟨unhide HN, rfl⟩
            · have hkl' : ¬ (k : Int) < (p.length : Int) := by omega
              have e : p.take k = p := List.take_of_length_le (by omega); have hok := unhide HOK; have hvv := unhide HV; rw [e] at hok hvv; have HN := hide (unhide HB3 (by
                unfold okD; rw [List.all_eq_true]; intro x hx; simpa using hok x hx))
              rw [← hvv] at HN; clear HOK HB1 HB3 HV HIX hok hvv e; go_wp2; go_ret2; exact ⟨unhide HN, rfl⟩
        · have hl' : ¬ 2 ≤ (p.length : Int) := by omega
          have hl3 : ¬ (p.length : Int) = 0 := by omega
          have hl4 : ((p.length : Int) == 0) = false := by simpa using hl3
          clear hm ho hm2 e0 e1 e2; go_enter Tryz.func79, Tryz.ntmps79; go_wp2_with fail
          go_loopw [5, 6] (fun n i wr => ∃ (k v : Nat), k ≤ p.length ∧ i = .int .i64 k ∧ Hid (∀ x ∈ p.take k, dgV x < 10) ∧ Hid (v = min (val 10 (p.take k)) 1099511627776) ∧ v ≤ 1099511627776 ∧ n = .int .u64 v ∧ wr = w) (fun _ i _ => p.length - (intOf i).toNat)
          case atStart => exact ⟨0, 0, by omega, rfl, hide (by simp), hide (by rfl), by omega, rfl, rfl⟩
          case round =>
            obtain ⟨k, v, hk, rfl, HOK, HV, hv, rfl, hw⟩ := hrel; subst hw; by_cases hkl : k < p.length
            · have hkl' : (k : Int) < (p.length : Int) := by omega
              have hx0 := unhide HIX wr k hkl; have HT := hide (take_snoc p k 0 hkl); have HMM := hide (getD_mem p k hkl); have CC := hide (hex_any (p.getD k 0) wr); have HSN := hide (show min (val 10 (p.take (k + 1))) 1099511627776 = min (v * 10 + dgV (p.getD k 0)) 1099511627776 by rw [unhide HT, val_snoc, unhide HV, min_step 10 _ _ (by decide)]); unfold hexI at CC; generalize p.getD k 0 = y at *; by_cases hyb : dgV y < 10
              · have HOK2 : Hid (∀ z ∈ p.take (k + 1), dgV z < 10) := by
                  show ∀ z ∈ p.take (k + 1), dgV z < 10; rw [unhide HT]; intro z hz; rcases List.mem_append.1 hz with hz | hz
                  · exact unhide HOK z hz
                  · rw [List.mem_singleton] at hz; rw [hz]; exact hyb
                rw [if_pos (by omega)] at CC; have KK : Hid (∀ z : Nat, z = min (v * 10 + dgV y) 1099511627776 → ((∃ (k' v' : Nat), k' ≤ p.length ∧ Value.int .i64 ((k : Int) + 1) = .int .i64 k' ∧ Hid (∀ x ∈ p.take k', dgV x < 10) ∧ Hid (v' = min (val 10 (p.take k')) 1099511627776) ∧ v' ≤ 1099511627776 ∧ Value.int .u64 (z : Int) = .int .u64 v' ∧ wr = wr) ∧ p.length - ((k : Int) + 1).toNat < p.length - k)) :=
                  fun z hz => ⟨⟨k + 1, z, by omega, by simp, HOK2, by rw [hz]; exact (unhide HSN).symm, by rw [hz]; exact Nat.min_le_right _ _, rfl, rfl⟩, by omega⟩
                clear HOK HT HMM HSN HOK2 HV HB1 HB3 HIX; generalize dgV y = d at *; by_cases hbig : 1099511627776 < v * 10 + d
                · have hb' : (1099511627776 : Int) < (v : Int) * 10 + (d : Int) := by omega
                  have kk := hide (unhide KK 1099511627776 (by omega)); clear KK; go_wp2_with fail
                  refine (unhide CC).mono ?_; rintro e w2 ⟨rfl, hw⟩; subst hw; clear CC; go_wp2; exact unhide kk
                · have hb' : ¬ (1099511627776 : Int) < (v : Int) * 10 + (d : Int) := by omega
                  have kk := hide (unhide KK (v * 10 + d) (by omega)); rw [show ((v * 10 + d : Nat) : Int) = (v : Int) * 10 + (d : Int) by omega] at kk; clear KK; go_wp2_with fail
                  refine (unhide CC).mono ?_; rintro e w2 ⟨rfl, hw⟩; subst hw; clear CC; go_wp2; exact unhide kk
              · have HN := hide (unhide HB1 (by
                  rw [Bool.eq_false_iff]; intro ha; have := List.all_eq_true.1 ha y (unhide HMM); simp at this; omega))
                clear HOK HT HMM HSN HV HB1 HB3 HIX; by_cases h16 : dgV y < 16
                · rw [if_pos h16] at CC; generalize dgV y = d at *
                  first
                  | (exfalso; omega)
                  | skip
                  all_goals
                    go_wp2_with fail
                    refine (unhide CC).mono ?_; rintro e w2 ⟨rfl, hw⟩; subst hw; clear CC; go_wp2; go_ret2; exact ⟨unhide HN, rfl⟩
                · rw [if_neg h16] at CC; go_wp2_with fail
                  refine (unhide CC).mono ?_; rintro e w2 ⟨rfl, hw⟩; subst hw; clear CC; go_wp2; go_ret2; exact ⟨unhide HN, rfl⟩
            · have hkl' : ¬ (k : Int) < (p.length : Int) := by omega
              have e : p.take k = p := List.take_of_length_le (by omega); have hok := unhide HOK; have hvv := unhide HV; rw [e] at hok hvv; have HN := hide (unhide HB3 (by
                unfold okD; rw [List.all_eq_true]; intro x hx; simpa using hok x hx))
              rw [← hvv] at HN; clear HOK HB1 HB3 HV HIX hok hvv e; go_wp2; go_ret2; exact ⟨unhide HN, rfl⟩
end Go.Proofs.YtenlampiiodkhaaGreatDoor
