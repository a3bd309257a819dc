/-
  The document's pieces: the numbers between colons, the last one perhaps four numbers.
-/
import Derived.Test.YtfaobhaogenijaaDoorJ6E
namespace Go.Proofs.YtfaobhaogenijaaDoor
set_option linter.unusedVariables false
open Go.RowKit

theorem infoU6 : (Tryd.prog.info? 22).map (fun i => (i.zero, i.size, i.bytes)) = some (some (.int .u16 0), 1, 2) := by kernel_rfl
theorem own_base {w : World} {base e n cap : Nat} {ao : Option Addr} {xs : List Value} (h : w.ownsRow base e 1 (.slice ao n cap) n xs) : ∀ b off, ao = some ⟨b, off, none⟩ → base ≤ b := by
  intro b off e1
  rcases h.2 with ⟨h1, _⟩ | ⟨g, c, cur, h1, h2, _⟩
  · simp only [Value.slice.injEq] at h1
    rw [h1.1] at e1
    cases e1
  · simp only [Value.slice.injEq] at h1
    rw [h1.1] at e1
    simp only [Option.some.injEq, Addr.mk.injEq] at e1
    omega
theorem one_U (l : List Nat) : ∀ u ∈ l.map U, u.oneCell' = true := by
  intro u hu
  obtain ⟨x, _, rfl⟩ := List.mem_map.1 hu
  rfl
theorem or4 (a b : Nat) (ha : a ≤ 4095) (hb : b < 16) : bits .or .u16 ((a : Int) * 16) (b : Int) = (a : Int) * 16 + (b : Int) := by
  have := or_low16 4 a b (by omega) (by omega)
  rw [show ((2 ^ 4 * a : Nat) : Int) = (a : Int) * 16 by omega] at this
  rw [this]
  omega
theorem drop_at6 (ps : List (List UInt8)) (k : Nat) (h : k < ps.length) : ps.drop k = ps.getD k [] :: ps.drop (k + 1) := by
  rw [List.drop_eq_getElem_cons h]
  simp [List.getD, h]
theorem pcsG_word {tail : Bool} {p : List UInt8} {t : List (List UInt8)} (h : ¬ (tail = true ∧ t = [] ∧ (46 : UInt8) ∈ p)) : pcsG tail (p :: t) = (hexW p).bind fun v => (pcsG tail t).map fun l => v :: l := by
  rw [pcsG, if_neg h]
theorem pcsG_four {tail : Bool} {p : List UInt8} {t : List (List UInt8)} (h : tail = true ∧ t = [] ∧ (46 : UInt8) ∈ p) : pcsG tail (p :: t) = fourW p := by
  rw [pcsG, if_pos h]
theorem pc_bad {o : Option (List Nat)} {vs : List Nat} {q : Option (List Nat)} (h : o = q.map (vs ++ ·)) (hq : q = none) : o = none := by rw [h, hq]; rfl
theorem pc_more {o : Option (List Nat)} {vs : List Nat} {v : Nat} {q : Option (List Nat)} (h : o = ((some v).bind fun v => q.map fun l => v :: l).map (vs ++ ·)) : o = q.map ((vs ++ [v]) ++ ·) := by
  rw [h]
  cases q with
  | none => rfl
  | some l => simp

theorem no6 {tail : Bool} {t : List UInt8} {v w' : World} (h : piecesO tail t = none) (hx : Ext v w') : Tells6 tail t v (.returned (.tuple #[.slice none 0 0, .bool false])) w' :=
  ⟨none, 0, 0, false, rfl, by rw [h]; rfl, fun l hl => (by rw [h] at hl; cases hl), by omega, fun _ _ e => (by cases e), hx⟩
theorem nox6 {tail : Bool} {t : List UInt8} {v w' : World} (h : piecesO tail t = none) (ao : Option Addr) (n cap : Nat) (hn : n ≤ 1000) (hb : ∀ b off, ao = some ⟨b, off, none⟩ → v.heap.size ≤ b) (hx : Ext v w') : Tells6 tail t v (.returned (.tuple #[.slice ao n cap, .bool false])) w' :=
  ⟨ao, n, cap, false, rfl, by rw [h]; rfl, fun l hl => (by rw [h] at hl; cases hl), hn, hb, hx⟩
theorem yes6 {tail : Bool} {t : List UInt8} {v w' : World} {l : List Nat} (h : piecesO tail t = some l) (ao : Option Addr) (n cap : Nat) (hnl : n = l.length) (hn : n ≤ 1000) (hr : RdV w' ao cap (l.map U)) (hb : ∀ b off, ao = some ⟨b, off, none⟩ → v.heap.size ≤ b) (hx : Ext v w') : Tells6 tail t v (.returned (.tuple #[.slice ao n cap, .bool true])) w' :=
  ⟨ao, n, cap, true, rfl, by rw [h]; rfl, fun l2 hl => (by rw [h] at hl; cases hl; exact ⟨hnl, hr⟩), hn, hb, hx⟩

set_option maxHeartbeats 4000000 in
set_option maxRecDepth 100000 in
theorem rpieces_any (tail : Bool) (s : List UInt8) (w : World) (hs : s.length ≤ 60) : Calls Tryd.prog 11 #[S s, .bool tail] w (Tells6 tail s w) := by
  by_cases hs0 : s = []
  · subst hs0
    have HY : Hid (∀ w', Ext w w' → Tells6 tail [] w (.returned (.tuple #[.slice none 0 0, .bool true])) w') := fun w' hx => yes6 (l := []) (by rfl) none 0 0 rfl (by omega) (RdV.nothing w') (fun _ _ e => by cases e) hx
    have he := Ext.refl w
    generalize Tells6 tail [] w = Q at *
    go_enter Tryd.func11, Tryd.ntmps11
    go_wp2
    exact unhide HY w he
  · have HC := hide (rcut_any s 58 w (by omega))
    have hpo : piecesO tail s = pcsG tail (pcs 58 s) := by
      unfold piecesO
      rw [if_neg hs0]
    have NO : Hid (∀ w', pcsG tail (pcs 58 s) = none → Ext w w' → Tells6 tail s w (.returned (.tuple #[.slice none 0 0, .bool false])) w') := fun w' h hx => no6 (hpo.trans h) hx
    have NOX : Hid (∀ (ao : Option Addr) (n cap : Nat) (w' : World), pcsG tail (pcs 58 s) = none → n ≤ 1000 → (∀ b off, ao = some ⟨b, off, none⟩ → w.heap.size ≤ b) → Ext w w' → Tells6 tail s w (.returned (.tuple #[.slice ao n cap, .bool false])) w') := fun ao n cap w' h hn hb hx => nox6 (hpo.trans h) ao n cap hn hb hx
    have YES : Hid (∀ (l : List Nat) (ao : Option Addr) (n cap : Nat) (w' : World), pcsG tail (pcs 58 s) = some l → n = l.length → n ≤ 1000 → RdV w' ao cap (l.map U) → (∀ b off, ao = some ⟨b, off, none⟩ → w.heap.size ≤ b) → Ext w w' → Tells6 tail s w (.returned (.tuple #[.slice ao n cap, .bool true])) w') := fun l ao n cap w' h h1 h2 h3 h4 h5 => yes6 (hpo.trans h) ao n cap h1 h2 h3 h4 h5
    have hpl := fun p hp => pcs_len 58 s p hp
    have hn0 := List.length_pos_iff.2 (pcs_ne 58 s)
    have hn1 : (pcs 58 s).length ≤ 61 := by
      rw [pcs_count]
      have : Lib.countByte s 58 ≤ s.length := List.count_le_length
      omega
    have hse : ¬ ((⟨s.toArray⟩ : ByteArray) = ⟨#[]⟩) := fun e => hs0 (by
      have := congrArg (fun b : ByteArray => b.data.toList) e
      simpa using this)
    have hie : s.isEmpty = false := by simpa using hs0
    clear hpo hs0
    generalize pcs 58 s = ps at *
    generalize Tells6 tail s w = Q at *
    go_enter Tryd.func11, Tryd.ntmps11
    go_wp2_with fail
    refine (unhide HC).mono ?_
    rintro e w1 ⟨v, rfl, own, hx1⟩
    clear HC hse hie
    obtain ⟨ao, cap, rfl, hr, _⟩ := RdV.of_owned own
    clear own
    obtain ⟨g, off, rfl, hc⟩ := hr.cells (by rw [List.length_map]; omega)
    have hgl : g < w1.heap.size := cell_lt (a := ⟨g, off + 0, none⟩) (by have := hc 0 (by rw [List.length_map]; omega); rw [List.getElem?_eq_getElem (by rw [List.length_map]; omega)] at this; exact this)
    have hle := hr.le
    have hmx := hr.max
    rw [List.length_map] at hle
    have HCS := hide (fun (i : Nat) (hi : i < ps.length) => (show w1.cell? ⟨g, off + i, none⟩ = some (S (ps.getD i [])) by
      rw [hc i (by rw [List.length_map]; exact hi), List.getElem?_map, List.getElem?_eq_getElem hi]
      simp [List.getD, hi]))
    have HPL := hide (fun (i : Nat) (hi : i < ps.length) => (show (ps.getD i []).length ≤ 60 by
      have := hpl (ps.getD i []) (by simp [List.getD, hi])
      omega))
    have HDR := hide (fun (i : Nat) (hi : i < ps.length) => drop_at6 ps i hi)
    have HEX : Hid (∀ w', Below w1.heap.size w1 w' → Ext w w') := fun w' hb => Ext.then hx1 hb hx1.size
    have HWV := hide hx1.size
    clear hc hr hpl hs
    generalize hM : ps.length = M at *
    have hMS := hide hM
    clear hM
    generalize hvb : w1.heap.size = vb at *
    have HVB := hide hvb
    clear hvb
    go_wp2_with fail
    go_loopw [7, 8] (fun o i wr => ∃ (k : Nat) (vs : List Nat), k ≤ M ∧ i = .int .i64 (k : Int) ∧ Hid (vs.length = k) ∧ Hid (pcsG tail ps = (pcsG tail (ps.drop k)).map (vs ++ ·)) ∧ wr.ownsRow vb 22 1 o k (vs.map U) ∧ Below vb w1 wr) (fun _ i _ => M - (intOf i).toNat)
    case atStart => exact ⟨0, [], by omega, rfl, hide rfl, hide (show pcsG tail ps = _ by cases h : pcsG tail ps <;> simp [h]), World.ownsRow_nil _ _ _ _, Below.refl _ _⟩
    case round =>
      obtain ⟨k, vs, hk, rfl, HVL, HPC, own, hbr⟩ := hrel
      obtain ⟨w5, hw5⟩ : ∃ w5, w5 = wr := ⟨_, rfl⟩
      subst hw5
      obtain ⟨ao, oc, rfl, hro, _⟩ := RdV.of_owned own
      have hvl := unhide HVL
      by_cases hkM : k < M
      · have hkM' : (k : Int) < (M : Int) := by omega
        have hd := unhide HDR k hkM
        have hpl := unhide HPL k hkM
        have HC0 := hide (fun w' (hb : Below vb w1 w') => (hb.cell (p := ⟨g, off + k, none⟩) hgl).trans (unhide HCS k hkM))
        have c1 := unhide HC0 w5 hbr
        have hvs5 : vb ≤ w5.heap.size := by have := hbr.size; have := unhide HVB; omega
        have htl : (ps.drop (k + 1) = []) ↔ k + 1 = M := by
          rw [List.drop_eq_nil_iff, unhide hMS]
          omega
        rw [hd] at HPC
        clear HCS HPL HDR hd
        generalize ps.getD k [] = p at *
        have hsz := size_S p
        have HIX := hide (fun (v : World) (k : Nat) (hk : k < p.length) => idx_str v p .i64 k hk)
        cases tail with
        | false =>
          have HPW := hide (show pcsG false ps = ((hexW p).bind fun v => (pcsG false (ps.drop (k + 1))).map fun l => v :: l).map (vs ++ ·) by rw [← pcsG_word (by simp)]; exact unhide HPC)
          clear htl HPC
          have HWN : Hid (¬ (p ≠ [] ∧ p.length ≤ 4 ∧ okD 16 p = true) → pcsG false ps = none) := fun h => pc_bad (unhide HPW) (by
            unfold hexW
            rw [if_neg h]
            rfl)
          have HWY : Hid ((p ≠ [] ∧ p.length ≤ 4 ∧ okD 16 p = true) → pcsG false ps = (pcsG false (ps.drop (k + 1))).map ((vs ++ [val 16 p]) ++ ·)) := fun h => pc_more (by
            have := unhide HPW
            unfold hexW at this
            rw [if_pos h] at this
            exact this)
          clear HPW
          by_cases hp0 : p.length < 1
          · have hp0' : (p.length : Int) < 1 := by omega
            have HN := hide (unhide NO w5 (unhide HWN (fun h => h.1 (List.eq_nil_of_length_eq_zero (by omega)))) (unhide HEX w5 hbr))
            clear NO NOX YES HWN HWY own hro HC0 HIX
            go_wp2
            exact unhide HN
          · have hp0' : ¬ (p.length : Int) < 1 := by omega
            by_cases hp4 : p.length ≤ 4
            · have hp4' : ¬ (4 : Int) < (p.length : Int) := by omega
              clear hro
              go_wp2_with fail
              go_loopw [11, 12] (fun x j w' => ∃ (j' x' : Nat), j' ≤ p.length ∧ j = .int .i64 (j' : Int) ∧ x = .int .u16 (x' : Int) ∧ Hid (∀ z ∈ p.take j', dgV z < 16) ∧ Hid (x' = val 16 (p.take j')) ∧ Hid (x' < 16 ^ j') ∧ w' = w5) (fun _ j _ => p.length - (intOf j).toNat)
              case atStart => exact ⟨0, 0, by omega, rfl, rfl, hide (by simp), hide rfl, hide (by decide), rfl⟩
              case round =>
                obtain ⟨j, x, hj, rfl, rfl, HOK, HV, HP, hw⟩ := hrel
                have hw3 := hw.symm
                clear hw
                subst hw3
                by_cases hjl : j < p.length
                · have hjl' : (j : Int) < (p.length : Int) := by omega
                  have hx0 := unhide HIX w5 j hjl
                  have HTK := hide (take_snoc p j 0 hjl)
                  have HMM := hide (getD_mem p j hjl)
                  have CC := hide (hex_any (p.getD j 0) w5)
                  have hxl : x ≤ 4095 := by
                    have h1 := unhide HP
                    have h2 : 16 ^ j ≤ 16 ^ 3 := Nat.pow_le_pow_right (by decide) (by omega)
                    omega
                  have HVS := hide (show val 16 (p.take (j + 1)) = x * 16 + dgV (p.getD j 0) by rw [unhide HTK, val_snoc, ← unhide HV])
                  unfold hexI at CC
                  generalize p.getD j 0 = z at *
                  by_cases hz : dgV z < 16
                  · rw [if_pos hz] at CC
                    have K2 : Hid (∀ y : Nat, (y : Int) = (x : Int) * 16 + (dgV z : Int) → (∃ (j' x' : Nat), j' ≤ p.length ∧ Value.int .i64 ((j : Int) + 1) = .int .i64 (j' : Int) ∧ Value.int .u16 ((x : Int) * 16 + (dgV z : Int)) = .int .u16 (x' : Int) ∧ Hid (∀ z ∈ p.take j', dgV z < 16) ∧ Hid (x' = val 16 (p.take j')) ∧ Hid (x' < 16 ^ j') ∧ w5 = w5) ∧ p.length - ((j : Int) + 1).toNat < p.length - ((j : Int)).toNat) := by
                      intro y hy
                      have hyy : y = x * 16 + dgV z := by omega
                      refine ⟨⟨j + 1, y, by omega, by simp, by rw [hy], ?_, ?_, ?_, rfl⟩, by omega⟩
                      · show ∀ y ∈ p.take (j + 1), dgV y < 16
                        rw [unhide HTK]
                        intro y hy
                        rcases List.mem_append.1 hy with hy | hy
                        · exact unhide HOK y hy
                        · rw [List.mem_singleton] at hy
                          rw [hy]
                          exact hz
                      · rw [hyy]
                        exact (unhide HVS).symm
                      · show y < 16 ^ (j + 1)
                        have h1 := unhide HP
                        rw [Nat.pow_succ, hyy]
                        omega
                    have K3 := hide (unhide K2 (x * 16 + dgV z) (by omega))
                    clear K2 NO NOX YES HWN HWY own HC0 HIX HOK HV HP HTK HMM HVS
                    generalize dgV z = d at *
                    have q0 : ¬ (d : Int) < 0 := by omega
                    have q1 : IntKind.u16.wrap (d : Int) = (d : Int) := by rw [IntKind.wrap_u16]; omega
                    have q2 := or4 x d hxl hz
                    go_wp2_with fail
                    refine (unhide CC).mono ?_
                    rintro e w6 ⟨rfl, hw⟩
                    subst hw
                    clear CC
                    go_wp2
                    exact unhide K3
                  · rw [if_neg hz] at CC
                    have HN := hide (unhide NO w5 (unhide HWN (fun h => by
                      have := List.all_eq_true.1 h.2.2 z (unhide HMM)
                      simp at this
                      exact hz this)) (unhide HEX w5 hbr))
                    clear NO NOX YES HWN HWY own HC0 HIX HOK HV HP HTK HMM HVS
                    go_wp2_with fail
                    refine (unhide CC).mono ?_
                    rintro e w6 ⟨rfl, hw⟩
                    subst hw
                    clear CC
                    go_wp2
                    exact unhide HN
                · have hjl' : ¬ (j : Int) < (p.length : Int) := by omega
                  have hok := unhide HOK
                  have hv := unhide HV
                  rw [List.take_of_length_le (by omega)] at hok hv
                  have hall : okD 16 p = true := by
                    unfold okD
                    rw [List.all_eq_true]
                    intro y hy
                    simpa using hok y hy
                  have hpc := unhide HWY ⟨fun e => hp0 (by rw [e]; decide), hp4, hall⟩
                  rw [← hv] at hpc
                  have HPN := hide hpc
                  have RL := RdV.lit w5 [U x] 22 (0, 0) (by simp)
                  have hal : Ext w5 (w5.alloc (.cells #[U x] 22 (0, 0))) := Ext.alloc w5 _
                  have own2 := owns_below own hal
                  have hv6 : vb ≤ (w5.alloc (.cells #[U x] 22 (0, 0))).heap.size := by have := hal.size; omega
                  have hbx : Below vb w1 (w5.alloc (.cells #[U x] 22 (0, 0))) := hbr.trans (Below.mono hal hvs5)
                  have KEY : Hid (∀ v' w', w'.ownsRow vb 22 1 v' (k + 1) (vs.map U ++ [U x]) → Below vb (w5.alloc (.cells #[U x] 22 (0, 0))) w' → (∃ (k' : Nat) (vs' : List Nat), k' ≤ M ∧ Value.int .i64 ((k : Int) + 1) = .int .i64 (k' : Int) ∧ Hid (vs'.length = k') ∧ Hid (pcsG false ps = (pcsG false (ps.drop k')).map (vs' ++ ·)) ∧ w'.ownsRow vb 22 1 v' k' (vs'.map U) ∧ Below vb w1 w') ∧ M - ((k : Int) + 1).toNat < M - ((k : Int)).toNat) := by
                    intro v' w' o' b'
                    exact ⟨⟨k + 1, vs ++ [x], by omega, by simp, hide (by rw [List.length_append, hvl]; rfl), HPN, by rw [List.map_append]; exact o', hbx.trans b'⟩, by omega⟩
                  have hone : ∀ u ∈ [U x], u.oneCell' = true := one_U [x]
                  clear NO NOX YES HWN HWY own HC0 HIX HOK HV HP hok hv hall hpc HPN hal hbx
                  go_wp2_with (at_builtin; refine wpList_app rfl (.tmp 88) (.tmp 90) 35 22 (.int .u16 0) 2 Tryd.underlying35 infoU6 rfl rfl vb _ _ _ rfl own2 _ _ _ [U x] rfl rfl RL hone (by omega) hv6 ?_)
                  intro v' w' o' b'
                  have kk := hide (unhide KEY v' w' o' b')
                  clear KEY o' b' own2 RL hone
                  go_wp2
                  exact unhide kk
            · have hp4' : (4 : Int) < (p.length : Int) := by omega
              have HN := hide (unhide NO w5 (unhide HWN (fun h => hp4 h.2.1)) (unhide HEX w5 hbr))
              clear NO NOX YES HWN HWY own hro HC0 HIX
              go_wp2
              exact unhide HN
        | true =>
          by_cases hlast : k + 1 = M
          · have hlb : ((k : Int) == (M : Int) - 1) = true := by simp; omega
            have HH := hide (rhas_any p 46 w5 (by omega))
            cases h46 : p.contains 46 with
            | true =>
              rw [h46] at HH
              have hm46 : (46 : UInt8) ∈ p := List.contains_iff_mem.1 h46
              have HPF := hide (show pcsG true ps = (fourW p).map (vs ++ ·) by rw [← pcsG_four ⟨rfl, htl.2 hlast, hm46⟩]; exact unhide HPC)
              have H4 := hide (rfour_any p w5 (by omega))
              clear htl HPC h46 hm46 HIX hro NO
              go_wp2_with fail
              refine (unhide HH).mono ?_
              rintro e w6 ⟨rfl, hw⟩
              have hw3 := hw.symm
              clear hw
              subst hw3
              clear HH
              go_wp2_with fail
              refine (unhide H4).mono ?_
              rintro e w6 ⟨a4, n4, c4, ok4, rfl, hok, hl4, hnn, hn4, hf4, hx6⟩
              clear H4 c1
              have own6 := owns_below own hx6
              have hbx : Below vb w1 w6 := hbr.trans (Below.mono hx6 hvs5)
              have hv6 : vb ≤ w6.heap.size := by have := hx6.size; omega
              cases h4 : fourW p with
              | none =>
                obtain ⟨rfl, rfl, rfl⟩ := hnn h4
                rw [h4] at hok
                obtain rfl : ok4 = false := hok
                have hnone : pcsG true ps = none := by rw [unhide HPF, h4]; rfl
                have R0 := RdV.nothing w6
                have KEY : Hid (∀ v' w', w'.ownsRow vb 22 1 v' k (vs.map U) → Below vb w6 w' → Q (.returned (.tuple #[v', .bool false])) w') := by
                  intro v' w' o' b'
                  obtain ⟨a', c', rfl, _, _⟩ := RdV.of_owned o'
                  have hbase := own_base o'
                  exact unhide NOX a' k c' w' hnone (by omega) (fun b off e => by have := hbase b off e; have := unhide HWV; omega) (unhide HEX w' (hbx.trans b'))
                clear own hl4 hnn hf4 hx6 hnone HPF NOX YES h4
                go_wp2_with (at_builtin; refine wpList_app rfl (.tmp 47) (.tmp 48) 35 22 (.int .u16 0) 2 Tryd.underlying35 infoU6 rfl rfl vb _ _ _ rfl own6 _ _ _ [] rfl rfl R0 (by simp) (by omega) hv6 ?_)
                intro v' w' o' b'
                have kk := hide (unhide KEY v' w' o' b')
                clear KEY o' b' own6 R0
                go_wp2
                exact unhide kk
              | some l4 =>
                obtain ⟨rfl, hr4⟩ := hl4 l4 h4
                rw [h4] at hok
                obtain rfl : ok4 = true := hok
                have hsome : pcsG true ps = some (vs ++ l4) := by rw [unhide HPF, h4]; rfl
                have hone := one_U l4
                have KEY : Hid (∀ v' w', w'.ownsRow vb 22 1 v' (k + l4.length) (vs.map U ++ l4.map U) → Below vb w6 w' → Q (.returned (.tuple #[v', .bool true])) w') := by
                  intro v' w' o' b'
                  obtain ⟨a', c', rfl, hr', _⟩ := RdV.of_owned o'
                  have hbase := own_base o'
                  exact unhide YES (vs ++ l4) a' (k + l4.length) c' w' hsome (by rw [List.length_append, hvl]) (by omega) (by rw [List.map_append]; exact hr') (fun b off e => by have := hbase b off e; have := unhide HWV; omega) (unhide HEX w' (hbx.trans b'))
                have hlm : (l4.map U).length = l4.length := List.length_map _
                clear own hl4 hnn hf4 hx6 hsome HPF NOX YES h4
                generalize hL : l4.length = L at *
                generalize l4.map U = LU at *
                clear hL
                go_wp2_with (at_builtin; refine wpList_app rfl (.tmp 47) (.tmp 48) 35 22 (.int .u16 0) 2 Tryd.underlying35 infoU6 rfl rfl vb _ _ _ rfl own6 _ _ _ LU rfl hlm hr4 hone (by omega) hv6 ?_)
                intro v' w' o' b'
                have kk := hide (unhide KEY v' w' o' b')
                clear KEY o' b' own6 hr4 hone
                go_wp2
                exact unhide kk
            | false =>
              rw [h46] at HH
              have hm46 : ¬ (46 : UInt8) ∈ p := fun h => by rw [List.contains_iff_mem.2 h] at h46; cases h46
              have HPW := hide (show pcsG true ps = ((hexW p).bind fun v => (pcsG true (ps.drop (k + 1))).map fun l => v :: l).map (vs ++ ·) by rw [← pcsG_word (fun h => hm46 h.2.2)]; exact unhide HPC)
              clear htl HPC h46 hm46 hlast
              go_wp2_with fail
              refine (unhide HH).mono ?_
              rintro e w6 ⟨rfl, hw⟩
              have hw3 := hw.symm
              clear hw
              subst hw3
              clear HH
              have HWN : Hid (¬ (p ≠ [] ∧ p.length ≤ 4 ∧ okD 16 p = true) → pcsG true ps = none) := fun h => pc_bad (unhide HPW) (by
                unfold hexW
                rw [if_neg h]
                rfl)
              have HWY : Hid ((p ≠ [] ∧ p.length ≤ 4 ∧ okD 16 p = true) → pcsG true ps = (pcsG true (ps.drop (k + 1))).map ((vs ++ [val 16 p]) ++ ·)) := fun h => pc_more (by
                have := unhide HPW
                unfold hexW at this
                rw [if_pos h] at this
                exact this)
              clear HPW
              by_cases hp0 : p.length < 1
              · have hp0' : (p.length : Int) < 1 := by omega
                have HN := hide (unhide NO w5 (unhide HWN (fun h => h.1 (List.eq_nil_of_length_eq_zero (by omega)))) (unhide HEX w5 hbr))
                clear NO NOX YES HWN HWY own hro HC0 HIX
                go_wp2
                exact unhide HN
              · have hp0' : ¬ (p.length : Int) < 1 := by omega
                by_cases hp4 : p.length ≤ 4
                · have hp4' : ¬ (4 : Int) < (p.length : Int) := by omega
                  clear hro
                  go_wp2_with fail
                  go_loopw [11, 12] (fun x j w' => ∃ (j' x' : Nat), j' ≤ p.length ∧ j = .int .i64 (j' : Int) ∧ x = .int .u16 (x' : Int) ∧ Hid (∀ z ∈ p.take j', dgV z < 16) ∧ Hid (x' = val 16 (p.take j')) ∧ Hid (x' < 16 ^ j') ∧ w' = w5) (fun _ j _ => p.length - (intOf j).toNat)
                  case atStart => exact ⟨0, 0, by omega, rfl, rfl, hide (by simp), hide rfl, hide (by decide), rfl⟩
                  case round =>
                    obtain ⟨j, x, hj, rfl, rfl, HOK, HV, HP, hw⟩ := hrel
                    have hw3 := hw.symm
                    clear hw
                    subst hw3
                    by_cases hjl : j < p.length
                    · have hjl' : (j : Int) < (p.length : Int) := by omega
                      have hx0 := unhide HIX w5 j hjl
                      have HTK := hide (take_snoc p j 0 hjl)
                      have HMM := hide (getD_mem p j hjl)
                      have CC := hide (hex_any (p.getD j 0) w5)
                      have hxl : x ≤ 4095 := by
                        have h1 := unhide HP
                        have h2 : 16 ^ j ≤ 16 ^ 3 := Nat.pow_le_pow_right (by decide) (by omega)
                        omega
                      have HVS := hide (show val 16 (p.take (j + 1)) = x * 16 + dgV (p.getD j 0) by rw [unhide HTK, val_snoc, ← unhide HV])
                      unfold hexI at CC
                      generalize p.getD j 0 = z at *
                      by_cases hz : dgV z < 16
                      · rw [if_pos hz] at CC
                        have K2 : Hid (∀ y : Nat, (y : Int) = (x : Int) * 16 + (dgV z : Int) → (∃ (j' x' : Nat), j' ≤ p.length ∧ Value.int .i64 ((j : Int) + 1) = .int .i64 (j' : Int) ∧ Value.int .u16 ((x : Int) * 16 + (dgV z : Int)) = .int .u16 (x' : Int) ∧ Hid (∀ z ∈ p.take j', dgV z < 16) ∧ Hid (x' = val 16 (p.take j')) ∧ Hid (x' < 16 ^ j') ∧ w5 = w5) ∧ p.length - ((j : Int) + 1).toNat < p.length - ((j : Int)).toNat) := by
                          intro y hy
                          have hyy : y = x * 16 + dgV z := by omega
                          refine ⟨⟨j + 1, y, by omega, by simp, by rw [hy], ?_, ?_, ?_, rfl⟩, by omega⟩
                          · show ∀ y ∈ p.take (j + 1), dgV y < 16
                            rw [unhide HTK]
                            intro y hy
                            rcases List.mem_append.1 hy with hy | hy
                            · exact unhide HOK y hy
                            · rw [List.mem_singleton] at hy
                              rw [hy]
                              exact hz
                          · rw [hyy]
                            exact (unhide HVS).symm
                          · show y < 16 ^ (j + 1)
                            have h1 := unhide HP
                            rw [Nat.pow_succ, hyy]
                            omega
                        have K3 := hide (unhide K2 (x * 16 + dgV z) (by omega))
                        clear K2 NO NOX YES HWN HWY own HC0 HIX HOK HV HP HTK HMM HVS
                        generalize dgV z = d at *
                        have q0 : ¬ (d : Int) < 0 := by omega
                        have q1 : IntKind.u16.wrap (d : Int) = (d : Int) := by rw [IntKind.wrap_u16]; omega
                        have q2 := or4 x d hxl hz
                        go_wp2_with fail
                        refine (unhide CC).mono ?_
                        rintro e w6 ⟨rfl, hw⟩
                        subst hw
                        clear CC
                        go_wp2
                        exact unhide K3
                      · rw [if_neg hz] at CC
                        have HN := hide (unhide NO w5 (unhide HWN (fun h => by
                          have := List.all_eq_true.1 h.2.2 z (unhide HMM)
                          simp at this
                          exact hz this)) (unhide HEX w5 hbr))
                        clear NO NOX YES HWN HWY own HC0 HIX HOK HV HP HTK HMM HVS
                        go_wp2_with fail
                        refine (unhide CC).mono ?_
                        rintro e w6 ⟨rfl, hw⟩
                        subst hw
                        clear CC
                        go_wp2
                        exact unhide HN
                    · have hjl' : ¬ (j : Int) < (p.length : Int) := by omega
                      have hok := unhide HOK
                      have hv := unhide HV
                      rw [List.take_of_length_le (by omega)] at hok hv
                      have hall : okD 16 p = true := by
                        unfold okD
                        rw [List.all_eq_true]
                        intro y hy
                        simpa using hok y hy
                      have hpc := unhide HWY ⟨fun e => hp0 (by rw [e]; decide), hp4, hall⟩
                      rw [← hv] at hpc
                      have HPN := hide hpc
                      have RL := RdV.lit w5 [U x] 22 (0, 0) (by simp)
                      have hal : Ext w5 (w5.alloc (.cells #[U x] 22 (0, 0))) := Ext.alloc w5 _
                      have own2 := owns_below own hal
                      have hv6 : vb ≤ (w5.alloc (.cells #[U x] 22 (0, 0))).heap.size := by have := hal.size; omega
                      have hbx : Below vb w1 (w5.alloc (.cells #[U x] 22 (0, 0))) := hbr.trans (Below.mono hal hvs5)
                      have KEY : Hid (∀ v' w', w'.ownsRow vb 22 1 v' (k + 1) (vs.map U ++ [U x]) → Below vb (w5.alloc (.cells #[U x] 22 (0, 0))) w' → (∃ (k' : Nat) (vs' : List Nat), k' ≤ M ∧ Value.int .i64 ((k : Int) + 1) = .int .i64 (k' : Int) ∧ Hid (vs'.length = k') ∧ Hid (pcsG true ps = (pcsG true (ps.drop k')).map (vs' ++ ·)) ∧ w'.ownsRow vb 22 1 v' k' (vs'.map U) ∧ Below vb w1 w') ∧ M - ((k : Int) + 1).toNat < M - ((k : Int)).toNat) := by
                        intro v' w' o' b'
                        exact ⟨⟨k + 1, vs ++ [x], by omega, by simp, hide (by rw [List.length_append, hvl]; rfl), HPN, by rw [List.map_append]; exact o', hbx.trans b'⟩, by omega⟩
                      have hone : ∀ u ∈ [U x], u.oneCell' = true := one_U [x]
                      clear NO NOX YES HWN HWY own HC0 HIX HOK HV HP hok hv hall hpc HPN hal hbx
                      go_wp2_with (at_builtin; refine wpList_app rfl (.tmp 88) (.tmp 90) 35 22 (.int .u16 0) 2 Tryd.underlying35 infoU6 rfl rfl vb _ _ _ rfl own2 _ _ _ [U x] rfl rfl RL hone (by omega) hv6 ?_)
                      intro v' w' o' b'
                      have kk := hide (unhide KEY v' w' o' b')
                      clear KEY o' b' own2 RL hone
                      go_wp2
                      exact unhide kk
                · have hp4' : (4 : Int) < (p.length : Int) := by omega
                  have HN := hide (unhide NO w5 (unhide HWN (fun h => hp4 h.2.1)) (unhide HEX w5 hbr))
                  clear NO NOX YES HWN HWY own hro HC0 HIX
                  go_wp2
                  exact unhide HN
          · have hlb : ((k : Int) == (M : Int) - 1) = false := by rw [beq_eq_false_iff_ne]; omega
            have hlb' : ¬ (k : Int) = (M : Int) - 1 := by omega
            have HPW := hide (show pcsG true ps = ((hexW p).bind fun v => (pcsG true (ps.drop (k + 1))).map fun l => v :: l).map (vs ++ ·) by rw [← pcsG_word (fun h => hlast (htl.1 h.2.1))]; exact unhide HPC)
            clear htl HPC
            have HWN : Hid (¬ (p ≠ [] ∧ p.length ≤ 4 ∧ okD 16 p = true) → pcsG true ps = none) := fun h => pc_bad (unhide HPW) (by
              unfold hexW
              rw [if_neg h]
              rfl)
            have HWY : Hid ((p ≠ [] ∧ p.length ≤ 4 ∧ okD 16 p = true) → pcsG true ps = (pcsG true (ps.drop (k + 1))).map ((vs ++ [val 16 p]) ++ ·)) := fun h => pc_more (by
              have := unhide HPW
              unfold hexW at this
              rw [if_pos h] at this
              exact this)
            clear HPW
            by_cases hp0 : p.length < 1
            · have hp0' : (p.length : Int) < 1 := by omega
              have HN := hide (unhide NO w5 (unhide HWN (fun h => h.1 (List.eq_nil_of_length_eq_zero (by omega)))) (unhide HEX w5 hbr))
              clear NO NOX YES HWN HWY own hro HC0 HIX
              go_wp2
              exact unhide HN
            · have hp0' : ¬ (p.length : Int) < 1 := by omega
              by_cases hp4 : p.length ≤ 4
              · have hp4' : ¬ (4 : Int) < (p.length : Int) := by omega
                clear hro
                go_wp2_with fail
                go_loopw [11, 12] (fun x j w' => ∃ (j' x' : Nat), j' ≤ p.length ∧ j = .int .i64 (j' : Int) ∧ x = .int .u16 (x' : Int) ∧ Hid (∀ z ∈ p.take j', dgV z < 16) ∧ Hid (x' = val 16 (p.take j')) ∧ Hid (x' < 16 ^ j') ∧ w' = w5) (fun _ j _ => p.length - (intOf j).toNat)
                case atStart => exact ⟨0, 0, by omega, rfl, rfl, hide (by simp), hide rfl, hide (by decide), rfl⟩
                case round =>
                  obtain ⟨j, x, hj, rfl, rfl, HOK, HV, HP, hw⟩ := hrel
                  have hw3 := hw.symm
                  clear hw
                  subst hw3
                  by_cases hjl : j < p.length
                  · have hjl' : (j : Int) < (p.length : Int) := by omega
                    have hx0 := unhide HIX w5 j hjl
                    have HTK := hide (take_snoc p j 0 hjl)
                    have HMM := hide (getD_mem p j hjl)
                    have CC := hide (hex_any (p.getD j 0) w5)
                    have hxl : x ≤ 4095 := by
                      have h1 := unhide HP
                      have h2 : 16 ^ j ≤ 16 ^ 3 := Nat.pow_le_pow_right (by decide) (by omega)
                      omega
                    have HVS := hide (show val 16 (p.take (j + 1)) = x * 16 + dgV (p.getD j 0) by rw [unhide HTK, val_snoc, ← unhide HV])
                    unfold hexI at CC
                    generalize p.getD j 0 = z at *
                    by_cases hz : dgV z < 16
                    · rw [if_pos hz] at CC
                      have K2 : Hid (∀ y : Nat, (y : Int) = (x : Int) * 16 + (dgV z : Int) → (∃ (j' x' : Nat), j' ≤ p.length ∧ Value.int .i64 ((j : Int) + 1) = .int .i64 (j' : Int) ∧ Value.int .u16 ((x : Int) * 16 + (dgV z : Int)) = .int .u16 (x' : Int) ∧ Hid (∀ z ∈ p.take j', dgV z < 16) ∧ Hid (x' = val 16 (p.take j')) ∧ Hid (x' < 16 ^ j') ∧ w5 = w5) ∧ p.length - ((j : Int) + 1).toNat < p.length - ((j : Int)).toNat) := by
                        intro y hy
                        have hyy : y = x * 16 + dgV z := by omega
                        refine ⟨⟨j + 1, y, by omega, by simp, by rw [hy], ?_, ?_, ?_, rfl⟩, by omega⟩
                        · show ∀ y ∈ p.take (j + 1), dgV y < 16
                          rw [unhide HTK]
                          intro y hy
                          rcases List.mem_append.1 hy with hy | hy
                          · exact unhide HOK y hy
                          · rw [List.mem_singleton] at hy
                            rw [hy]
                            exact hz
                        · rw [hyy]
                          exact (unhide HVS).symm
                        · show y < 16 ^ (j + 1)
                          have h1 := unhide HP
                          rw [Nat.pow_succ, hyy]
                          omega
                      have K3 := hide (unhide K2 (x * 16 + dgV z) (by omega))
                      clear K2 NO NOX YES HWN HWY own HC0 HIX HOK HV HP HTK HMM HVS
                      generalize dgV z = d at *
                      have q0 : ¬ (d : Int) < 0 := by omega
                      have q1 : IntKind.u16.wrap (d : Int) = (d : Int) := by rw [IntKind.wrap_u16]; omega
                      have q2 := or4 x d hxl hz
                      go_wp2_with fail
                      refine (unhide CC).mono ?_
                      rintro e w6 ⟨rfl, hw⟩
                      subst hw
                      clear CC
                      go_wp2
                      exact unhide K3
                    · rw [if_neg hz] at CC
                      have HN := hide (unhide NO w5 (unhide HWN (fun h => by
                        have := List.all_eq_true.1 h.2.2 z (unhide HMM)
                        simp at this
                        exact hz this)) (unhide HEX w5 hbr))
                      clear NO NOX YES HWN HWY own HC0 HIX HOK HV HP HTK HMM HVS
                      go_wp2_with fail
                      refine (unhide CC).mono ?_
                      rintro e w6 ⟨rfl, hw⟩
                      subst hw
                      clear CC
                      go_wp2
                      exact unhide HN
                  · have hjl' : ¬ (j : Int) < (p.length : Int) := by omega
                    have hok := unhide HOK
                    have hv := unhide HV
                    rw [List.take_of_length_le (by omega)] at hok hv
                    have hall : okD 16 p = true := by
                      unfold okD
                      rw [List.all_eq_true]
                      intro y hy
                      simpa using hok y hy
                    have hpc := unhide HWY ⟨fun e => hp0 (by rw [e]; decide), hp4, hall⟩
                    rw [← hv] at hpc
                    have HPN := hide hpc
                    have RL := RdV.lit w5 [U x] 22 (0, 0) (by simp)
                    have hal : Ext w5 (w5.alloc (.cells #[U x] 22 (0, 0))) := Ext.alloc w5 _
                    have own2 := owns_below own hal
                    have hv6 : vb ≤ (w5.alloc (.cells #[U x] 22 (0, 0))).heap.size := by have := hal.size; omega
                    have hbx : Below vb w1 (w5.alloc (.cells #[U x] 22 (0, 0))) := hbr.trans (Below.mono hal hvs5)
                    have KEY : Hid (∀ v' w', w'.ownsRow vb 22 1 v' (k + 1) (vs.map U ++ [U x]) → Below vb (w5.alloc (.cells #[U x] 22 (0, 0))) w' → (∃ (k' : Nat) (vs' : List Nat), k' ≤ M ∧ Value.int .i64 ((k : Int) + 1) = .int .i64 (k' : Int) ∧ Hid (vs'.length = k') ∧ Hid (pcsG true ps = (pcsG true (ps.drop k')).map (vs' ++ ·)) ∧ w'.ownsRow vb 22 1 v' k' (vs'.map U) ∧ Below vb w1 w') ∧ M - ((k : Int) + 1).toNat < M - ((k : Int)).toNat) := by
                      intro v' w' o' b'
                      exact ⟨⟨k + 1, vs ++ [x], by omega, by simp, hide (by rw [List.length_append, hvl]; rfl), HPN, by rw [List.map_append]; exact o', hbx.trans b'⟩, by omega⟩
                    have hone : ∀ u ∈ [U x], u.oneCell' = true := one_U [x]
                    clear NO NOX YES HWN HWY own HC0 HIX HOK HV HP hok hv hall hpc HPN hal hbx
                    go_wp2_with (at_builtin; refine wpList_app rfl (.tmp 88) (.tmp 90) 35 22 (.int .u16 0) 2 Tryd.underlying35 infoU6 rfl rfl vb _ _ _ rfl own2 _ _ _ [U x] rfl rfl RL hone (by omega) hv6 ?_)
                    intro v' w' o' b'
                    have kk := hide (unhide KEY v' w' o' b')
                    clear KEY o' b' own2 RL hone
                    go_wp2
                    exact unhide kk
              · have hp4' : (4 : Int) < (p.length : Int) := by omega
                have HN := hide (unhide NO w5 (unhide HWN (fun h => hp4 h.2.1)) (unhide HEX w5 hbr))
                clear NO NOX YES HWN HWY own hro HC0 HIX
                go_wp2
                exact unhide HN
      · have hkM' : ¬ (k : Int) < (M : Int) := by omega
        have hsome : pcsG tail ps = some vs := by
          have h0 : ps.drop k = [] := List.drop_of_length_le (by have := unhide hMS; omega)
          rw [unhide HPC, h0]
          simp [pcsG]
        have hbase := own_base own
        have HF := hide (unhide YES vs ao k oc w5 hsome hvl.symm (by omega) hro (fun b off e => by have := hbase b off e; have := unhide HWV; omega) (unhide HEX w5 hbr))
        clear HCS HPL HDR HPC own hro hsome hbase NO NOX YES
        go_wp2
        exact unhide HF
end Go.Proofs.YtfaobhaogenijaaDoor
