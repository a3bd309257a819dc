/-
  The reader's pieces: a word of digits; four numbers in tens.
-/
import Derived.Test.YtfaobhaogenijaaDoorI6B
import Derived.Test.YtfaobhaogenijaaDoorI4Z
namespace Go.Proofs.YtfaobhaogenijaaDoor
set_option linter.unusedVariables false
open Go.RowKit

theorem hexW_lt {p : List UInt8} {v : Nat} (h : hexW p = some v) : v < 65536 := by
  obtain ⟨_, h2, h3, h4⟩ := hexW_parts h
  unfold okD at h3
  rw [List.all_eq_true] at h3
  have h5 := val_lt16 p fun x hx => by simpa using h3 x hx
  have h6 : 16 ^ p.length ≤ 16 ^ 4 := Nat.pow_le_pow_right (by decide) h2
  omega
theorem hexW_long {p : List UInt8} (h : 4 < p.length) : hexW p = none := by
  unfold hexW
  rw [if_neg]
  rintro ⟨_, h2, _⟩
  omega

/-- What adding pieces comes to; none: they are none. -/
def addO (o : Option (List Nat)) (b : Nat) (s : List UInt8) (k : Nat) (ps : List Nat) (g : Int) (e : Ending) (w' : World) : Prop :=
  match o with
  | some vs => if ps.length + vs.length ≤ 8 then e = .returned (.bool true) ∧ Rd w' b s k (ps ++ vs) g else e = .returned (.bool false)
  | none => e = .returned (.bool false)

theorem addO_no {o : Option (List Nat)} {b : Nat} {s : List UInt8} {k : Nat} {ps : List Nat} {g : Int} {w' : World} (h : o = none) : addO o b s k ps g (.returned (.bool false)) w' := by
  rw [h]
  rfl
theorem addO_bad {o : Option (List Nat)} {vs : List Nat} {b : Nat} {s : List UInt8} {k : Nat} {ps : List Nat} {g : Int} {w' : World} (h : o = some vs) (hc : ¬ ps.length + vs.length ≤ 8) : addO o b s k ps g (.returned (.bool false)) w' := by
  rw [h]
  show (if ps.length + vs.length ≤ 8 then _ else _)
  rw [if_neg hc]
theorem addO_yes {o : Option (List Nat)} {vs : List Nat} {b : Nat} {s : List UInt8} {k : Nat} {ps : List Nat} {g : Int} {w' : World} (h : o = some vs) (hc : ps.length + vs.length ≤ 8) (hr : Rd w' b s k (ps ++ vs) g) : addO o b s k ps g (.returned (.bool true)) w' := by
  rw [h]
  show (if ps.length + vs.length ≤ 8 then _ else _)
  rw [if_pos hc]
  exact ⟨rfl, hr⟩

set_option maxHeartbeats 2000000 in
set_option maxRecDepth 100000 in
theorem addPiece_any (b : Nat) (s : List UInt8) (k : Nat) (ps : List Nat) (g : Int) (p : List UInt8) (W : World) (h : Rd W b s k ps g) (h8 : ps.length ≤ 8) (hp : p.length ≤ 100000) (tb : TbF b W) :
    Calls Tryd.prog 28 #[.pointer (some ⟨b, 0, none⟩), S p] W fun e w' => addO ((hexW p).map fun v => [v]) b s k ps g e w' ∧ Below b W w' := by
  have hsz := size_S p
  by_cases h4 : p.length ≤ 4
  · have h4' : ¬ (4 : Int) < (p.length : Int) := by omega
    have HP := hide (parse16_any p W h4 tb.tb)
    have HV := hide (fun v (hv : hexW p = some v) => hexW_lt hv)
    have HR := hide h
    have hblt := h.lt
    clear h
    go_enter Tryd.func28, Tryd.ntmps28
    go_wp2_with fail
    refine (unhide HP).mono ?_
    rintro e w2 ⟨he, hx⟩
    clear HP
    have hb2 : Below b W w2 := Below.mono hx (by omega)
    have HR2 := hide ((unhide HR).ext hx)
    cases hh : hexW p with
    | some v =>
      have hv := unhide HV v hh
      have HO : Hid ((hexW p).map (fun v => [v]) = some [v]) := by
        show _ = _
        rw [hh]
        rfl
      rw [hh] at he
      obtain rfl : e = .returned (.tuple #[.int .u64 (v : Int), .nilIface]) := he
      have RL := RdV.lit w2 [U v] 22 (0, 0) (by simp)
      have HA := hide (add_any b s k ps [v] g w2.heap.size (w2.alloc (.cells #[U v] 22)) ((unhide HR2).ext (Ext.alloc _ _)) (.inl rfl) h8 RL)
      have hb3 : Below b W (w2.alloc (.cells #[U v] 22)) := hb2.trans (Below.mono (Ext.alloc w2 _) (by have := hb2.size; omega))
      have hwv : IntKind.u16.wrap (v : Int) = (v : Int) := by rw [IntKind.wrap_u16]; omega
      clear HV hh RL HR HR2
      go_wp2_with fail
      refine (unhide HA).mono ?_
      rintro e w4 ⟨he, hb4⟩
      clear HA
      by_cases hc : ps.length + [v].length ≤ 8
      · rw [if_pos hc] at he
        obtain ⟨rfl, hr4⟩ := he
        have HE := hide hr4
        clear hr4
        go_wp2
        go_ret
        exact ⟨addO_yes (unhide HO) hc (unhide HE), hb3.trans hb4⟩
      · rw [if_neg hc] at he
        subst he
        go_wp2
        go_ret
        exact ⟨addO_bad (unhide HO) hc, hb3.trans hb4⟩
    | none =>
      rw [hh] at he
      obtain ⟨x, ⟨N, rfl⟩, rfl⟩ := he
      have HO : Hid ((hexW p).map (fun v => [v]) = none) := by
        show _ = _
        rw [hh]
        rfl
      clear HV hh HR HR2
      go_wp2
      go_ret
      exact ⟨addO_no (unhide HO), hb2⟩
  · have h4' : (4 : Int) < (p.length : Int) := by omega
    rw [hexW_long (by omega)]
    clear h
    show Calls Tryd.prog 28 _ W fun e w' => addO none b s k ps g e w' ∧ Below b W w'
    go_enter Tryd.func28, Tryd.ntmps28
    go_wp2
    go_ret
    exact ⟨addO_no rfl, Below.refl _ _⟩

theorem prs_lt {p : List UInt8} {n : Nat} (h : prs p = some n) : n < 4294967296 := parO_lt (List.length_pos_iff.2 (pcs_ne _ _)) h
theorem shr16 (n : Nat) (h : n < 4294967296) : (n : Int) / 65536 = ((n / 65536 : Nat) : Int) ∧ n / 65536 < 65536 := ⟨by omega, by omega⟩
theorem cut16 (n : Nat) : IntKind.u16.wrap (n : Int) = ((n % 65536 : Nat) : Int) := by
  rw [IntKind.wrap_u16]
  omega
theorem S_inj {a b : List UInt8} (h : (⟨a.toArray⟩ : ByteArray) = ⟨b.toArray⟩) : a = b := by
  have := congrArg (fun x : ByteArray => x.data.toList) h
  simpa using this

set_option maxHeartbeats 4000000 in
set_option maxRecDepth 100000 in
theorem addNumbers_any (b : Nat) (s : List UInt8) (k : Nat) (ps : List Nat) (g : Int) (p : List UInt8) (W : World) (h : Rd W b s k ps g) (h8 : ps.length ≤ 8) (hp : p.length ≤ 100000) (tb : TbF b W) :
    Calls Tryd.prog 27 #[.pointer (some ⟨b, 0, none⟩), S p] W fun e w' => addO (fourW p) b s k ps g e w' ∧ Below b W w' := by
  have hfo := four_eq p fun n hn => prs_lt hn
  rw [← hfo]
  clear hfo
  have HP := hide (parse_any p W hp tb.tb.four)
  have hblt := h.lt
  have HR := hide h
  have HT := hide tb
  clear h tb
  go_enter Tryd.func27, Tryd.ntmps27
  go_wp2_with fail
  refine (unhide HP).mono ?_
  rintro e w2 ⟨rfl, hx⟩
  clear HP
  have hb2 : Below b W w2 := Below.mono hx (by omega)
  have HR2 := hide ((unhide HR).ext hx)
  have hbl2 : b ≤ w2.heap.size := by have := hb2.size; omega
  cases hh : prs p with
  | none =>
    have HO : Hid (fourP p = none) := by
      show _ = _
      unfold fourP
      rw [hh]
      rfl
    have ez : numV none = 0 := rfl
    have ee : perr none = 5 := rfl
    rw [ez, ee]
    clear hh HR HR2 HT ez ee
    go_wp2
    go_ret
    exact ⟨addO_no (unhide HO), hb2⟩
  | some n =>
    have hn := prs_lt hh
    have hf : fourP p = if shw n = p then some [n / 65536, n % 65536] else none := by unfold fourP; rw [hh]; rfl
    have HS := hide (show_any n w2 hn ((unhide HT).on hb2).tb.four)
    have ez : numV (some n) = (n : Int) := rfl
    have ee : perr (some n) = 0 := rfl
    rw [ez, ee]
    clear hh HR HT ez ee
    by_cases hs : shw n = p
    · rw [if_pos hs] at hf
      have HO := hide hf
      clear hf
      obtain ⟨s1, s2⟩ := shr16 n hn
      have s3 := cut16 n
      have s4 : n % 65536 < 65536 := Nat.mod_lt _ (by decide)
      have hw1 : IntKind.u16.wrap ((n / 65536 : Nat) : Int) = ((n / 65536 : Nat) : Int) := by rw [IntKind.wrap_u16]; omega
      rw [hs] at HS
      clear hs
      generalize n / 65536 = x at *
      generalize n % 65536 = y at *
      go_wp2_with fail
      refine (unhide HS).mono ?_
      rintro e w3 ⟨rfl, hx3⟩
      clear HS
      have hb3 : Below b W w3 := hb2.trans (Below.mono hx3 hbl2)
      have HR3 := hide ((unhide HR2).ext hx3)
      have RL := RdV.lit w3 [U x, U y] 22 (0, 0) (by simp)
      have HA := hide (add_any b s k ps [x, y] g w3.heap.size (w3.alloc (.cells #[U x, U y] 22)) ((unhide HR3).ext (Ext.alloc _ _)) (.inr rfl) h8 RL)
      have hb4 : Below b W (w3.alloc (.cells #[U x, U y] 22)) := hb3.trans (Below.mono (Ext.alloc w3 _) (by have := hb3.size; omega))
      clear RL HR2 HR3
      go_wp2_with fail
      refine (unhide HA).mono ?_
      rintro e w4 ⟨he, hb5⟩
      clear HA
      by_cases hc : ps.length + [x, y].length ≤ 8
      · rw [if_pos hc] at he
        obtain ⟨rfl, hr4⟩ := he
        have HE := hide hr4
        clear hr4
        go_wp2
        go_ret
        exact ⟨addO_yes (unhide HO) hc (unhide HE), hb4.trans hb5⟩
      · rw [if_neg hc] at he
        subst he
        go_wp2
        go_ret
        exact ⟨addO_bad (unhide HO) hc, hb4.trans hb5⟩
    · rw [if_neg hs] at hf
      have HO := hide hf
      have hne : (shw n == p) = false := by simpa using hs
      clear hf hs
      generalize shw n = q at *
      go_wp2_with fail
      refine (unhide HS).mono ?_
      rintro e w3 ⟨rfl, hx3⟩
      clear HS
      have hb3 : Below b W w3 := hb2.trans (Below.mono hx3 hbl2)
      go_wp2
      go_ret
      exact ⟨addO_no (unhide HO), hb3⟩
end Go.Proofs.YtfaobhaogenijaaDoor
