/-
  One segment more, and Parse of package path.
-/
import Derived.Test.YtbmikdocjnpidaaDoorPthB
namespace Go.Proofs.YtbmikdocjnpidaaDoor
set_option linter.unusedVariables false
open Go.RowKit

set_option maxHeartbeats 1000000 in
theorem walk_any (B0 g c : Nat) (ps : List (List UInt8)) (x : List UInt8) (last : Bool) (w : World) (hB : B0 ≤ w.heap.size) (hn : ps.length ≤ 1000000) (hx : x.length ≤ 1000000)
    (own : w.ownsRow B0 9 1 (.slice (some ⟨g, 0, none⟩) ps.length c) ps.length (ps.map S)) :
    Calls Tryd.prog 21 #[.slice (some ⟨g, 0, none⟩) ps.length c, S x, .bool last] w fun e w' => ∃ g' c', e = .returned (.slice (some ⟨g', 0, none⟩) (stp ps x last).length c') ∧
      w'.ownsRow B0 9 1 (.slice (some ⟨g', 0, none⟩) (stp ps x last).length c') (stp ps x last).length ((stp ps x last).map S) ∧ Below B0 w w' := by
  have hle := (RdV.of_owned_at own).le
  have hmx := (RdV.of_owned_at own).max
  simp only [List.length_map] at hle
  have HD := hide (doub_any x w)
  have HS := hide (fun v : World => sing_any x v)
  have e1 : ∀ b, doub x = b → stp ps x last = if b then (if last then ps.dropLast ++ [[]] else ps.dropLast) else if sing x then (if last then ps ++ [[]] else ps) else ps ++ [enc x] := fun b hb => by
    rw [← hb]
    rfl
  -- what append of a text leaves
  have APP : Hid (∀ (qs : List (List UInt8)) (y : List UInt8) (wz : World) (v' : Value) (w' : World), Below B0 w wz → w'.ownsRow B0 9 1 v' (qs.length + 1) (qs.map S ++ [S y]) → Below B0 wz w' → stp ps x last = qs ++ [y] →
      ∃ g' c', Ending.returned v' = .returned (.slice (some ⟨g', 0, none⟩) (stp ps x last).length c') ∧ w'.ownsRow B0 9 1 (.slice (some ⟨g', 0, none⟩) (stp ps x last).length c') (stp ps x last).length ((stp ps x last).map S) ∧ Below B0 w w') := by
    intro qs y wz v' w' hz o' b' e
    obtain ⟨g', c', rfl⟩ := owned_some o' (by omega)
    rw [e, List.length_append, List.map_append]
    exact ⟨g', c', rfl, o', hz.trans b'⟩
  generalize doub x = db at *
  go_enter Tryd.func21, Tryd.ntmps21
  go_wp2_with fail
  refine (unhide HD).mono ?_
  rintro e w1 ⟨rfl, hx1⟩
  clear HD
  have own1 := owns_below own hx1
  have b1 : Below B0 w w1 := Below.mono hx1 hB
  clear own hx1
  cases db with
  | true =>
    have E := e1 true rfl
    simp only [if_true] at E
    have hk : ps.dropLast = ps.take (ps.length - 1) := List.dropLast_eq_take
    have ownT := owned_take own1 (ps.length - 1) (by omega)
    rw [← List.map_take, ← hk] at ownT
    have hkl : ps.dropLast.length = (max ((ps.length : Int) - 1) 0).toNat := by rw [List.length_dropLast]; omega
    have hk2 : ps.length - 1 = (max ((ps.length : Int) - 1) 0).toNat := by omega
    rw [hk2] at ownT
    have hqn : (max ((ps.length : Int) - 1) 0).toNat ≤ 1000000 := by omega
    clear own1 HS e1 hk hk2
    cases last with
    | true =>
      have RL := RdV.lit w1 [S []] 9 (0, 0) (by simp)
      have own2 := owns_below ownT (Ext.alloc w1 (.cells #[S []] 9 (0, 0)))
      have hb2 : Below B0 w (w1.alloc (.cells #[S []] 9 (0, 0))) := b1.trans (Below.mono (Ext.alloc w1 _) (Nat.le_trans hB b1.size))
      have hbase : B0 ≤ (w1.alloc (.cells #[S []] 9 (0, 0))).heap.size := Nat.le_trans hB hb2.size
      have hone : ∀ u ∈ [S []], u.oneCell' = true := by simp [Value.oneCell']
      have hbd : ((max ((ps.length : Int) - 1) 0).toNat + 1) * (16 + 1) ≤ 140737488355328 := by omega
      have hE := hide E
      clear ownT b1 E hB
      go_wp2_with (at_builtin; refine wpList_app rfl (.tmp 27) (.tmp 28) 22 9 (.string ⟨#[]⟩) 16 Tryd.underlying22 infoSt rfl rfl B0 _ _ _ rfl own2 _ _ _ [S []] rfl rfl RL hone hbd hbase ?_)
      intro v2 w3 o2 b3
      clear own2 RL hone
      have kk := hide (unhide APP ps.dropLast [] _ v2 w3 hb2 (by rw [hkl, List.map_dropLast]; exact o2) b3 (unhide hE))
      clear o2 b3 APP hE hb2
      go_wp2
      go_ret
      exact unhide kk
    | false =>
      have FF : Hid (∃ g' c', Ending.returned (.slice (some ⟨g, 0, none⟩) (max ((ps.length : Int) - 1) 0).toNat c) = .returned (.slice (some ⟨g', 0, none⟩) (stp ps x false).length c') ∧ w1.ownsRow B0 9 1 (.slice (some ⟨g', 0, none⟩) (stp ps x false).length c') (stp ps x false).length ((stp ps x false).map S) ∧ Below B0 w w1) := by
        rw [E]
        simp only [Bool.false_eq_true, if_false]
        rw [hkl]
        exact ⟨_, _, rfl, ownT, b1⟩
      clear ownT b1 E APP
      go_wp2
      go_ret
      exact unhide FF
  | false =>
    have E := e1 false rfl
    simp only [Bool.false_eq_true, if_false] at E
    clear e1
    have HS1 := hide (unhide HS w1)
    clear HS
    generalize sing x = sb at *
    go_wp2_with fail
    refine (unhide HS1).mono ?_
    rintro e w2 ⟨rfl, hx2⟩
    clear HS1
    have own2 := owns_below own1 hx2
    have b2 : Below B0 w w2 := b1.trans (Below.mono hx2 (Nat.le_trans hB b1.size))
    clear own1 b1 hx2
    cases sb with
    | true =>
      simp only [if_true] at E
      cases last with
      | true =>
        simp only [if_true] at E
        have RL := RdV.lit w2 [S []] 9 (0, 0) (by simp)
        have own3 := owns_below own2 (Ext.alloc w2 (.cells #[S []] 9 (0, 0)))
        have hb2 : Below B0 w (w2.alloc (.cells #[S []] 9 (0, 0))) := b2.trans (Below.mono (Ext.alloc w2 _) (Nat.le_trans hB b2.size))
        have hbase : B0 ≤ (w2.alloc (.cells #[S []] 9 (0, 0))).heap.size := Nat.le_trans hB hb2.size
        have hone : ∀ u ∈ [S []], u.oneCell' = true := by simp [Value.oneCell']
        have hbd : (ps.length + 1) * (16 + 1) ≤ 140737488355328 := by omega
        have hE := hide E
        clear own2 b2 E hB
        go_wp2_with (at_builtin; refine wpList_app rfl (.tmp 27) (.tmp 28) 22 9 (.string ⟨#[]⟩) 16 Tryd.underlying22 infoSt rfl rfl B0 _ _ _ rfl own3 _ _ _ [S []] rfl rfl RL hone hbd hbase ?_)
        intro v2 w3 o2 b3
        clear own3 RL hone
        have kk := hide (unhide APP ps [] _ v2 w3 hb2 o2 b3 (unhide hE))
        clear o2 b3 APP hE hb2
        go_wp2
        go_ret
        exact unhide kk
      | false =>
        simp only [Bool.false_eq_true, if_false] at E
        have FF : Hid (∃ g' c', Ending.returned (.slice (some ⟨g, 0, none⟩) ps.length c) = .returned (.slice (some ⟨g', 0, none⟩) (stp ps x false).length c') ∧ w2.ownsRow B0 9 1 (.slice (some ⟨g', 0, none⟩) (stp ps x false).length c') (stp ps x false).length ((stp ps x false).map S) ∧ Below B0 w w2) := by
          rw [E]
          exact ⟨_, _, rfl, own2, b2⟩
        clear own2 b2 E APP
        go_wp2
        go_ret
        exact unhide FF
    | false =>
      simp only [Bool.false_eq_true, if_false] at E
      obtain ⟨cc, w3, hcv, R3, hx3, _⟩ := conv_bytes w2 x hx
      have HE := hide (Pct.encode_own 4 (some ⟨w2.heap.size, 0, none⟩) x.length cc x w3 rfl (by omega) R3)
      have own3 := owns_below own2 hx3
      have b3 : Below B0 w w3 := b2.trans (Below.mono hx3 (Nat.le_trans hB b2.size))
      have hE : Hid (stp ps x last = ps ++ [Pct.encd 4 x]) := E
      clear own2 b2 hx3 R3 E
      generalize Pct.encd 4 x = y at *
      go_wp2_with fail
      refine (unhide HE).mono ?_
      rintro e w4 ⟨rfl, hx4⟩
      clear HE
      have RL := RdV.lit w4 [S y] 9 (0, 0) (by simp)
      have own5 := owns_below (owns_below own3 hx4) (Ext.alloc w4 (.cells #[S y] 9 (0, 0)))
      have hb2 : Below B0 w (w4.alloc (.cells #[S y] 9 (0, 0))) := b3.trans (Below.mono (hx4.trans (Ext.alloc w4 _)) (Nat.le_trans hB b3.size))
      have hbase : B0 ≤ (w4.alloc (.cells #[S y] 9 (0, 0))).heap.size := Nat.le_trans hB hb2.size
      have hone : ∀ u ∈ [S y], u.oneCell' = true := by simp [Value.oneCell']
      have hbd : (ps.length + 1) * (16 + 1) ≤ 140737488355328 := by omega
      clear own3 b3 hx4 hB hcv
      go_wp2_with (at_builtin; refine wpList_app rfl (.tmp 20) (.tmp 24) 22 9 (.string ⟨#[]⟩) 16 Tryd.underlying22 infoSt rfl rfl B0 _ _ _ rfl own5 _ _ _ [S y] rfl rfl RL hone hbd hbase ?_)
      intro v2 w5 o2 b5
      clear own5 RL hone
      have kk := hide (unhide APP ps y _ v2 w5 hb2 o2 b5 (unhide hE))
      clear o2 b5 APP hE hb2
      go_wp2
      go_ret
      exact unhide kk

/-- How much is left: the text, while there is more. -/
def leftV : Value → Value → Nat
  | v, .bool true => strLen v + 1
  | _, _ => 0

set_option maxHeartbeats 1000000 in
theorem parse_any (s : List UInt8) (sp : Bool) (ao : Option Addr) (cap : Nat) (base : List (List UInt8)) (w : World) (hs : s.length ≤ 100000) (hn : base.length ≤ 1000) (hb : ∀ p ∈ base, p.length ≤ 2000000) (h : RdV w ao cap (base.map S)) (hM : MaxL w) :
    Calls Tryd.prog 9 #[S s, .bool sp, .slice ao base.length cap] w fun e w' => ∃ g c, e = .returned (.slice (some ⟨g, 0, none⟩) (par s sp base).length c) ∧
      w'.ownsRow w.heap.size 9 1 (.slice (some ⟨g, 0, none⟩) (par s sp base).length c) (par s sp base).length ((par s sp base).map S) ∧ Ext w w' := by
  have HR := hide (repl_any s w (by omega) hM)
  have HC := hide (fun (v : World) (hx : Ext w v) => copied_any ao cap base v hn hb (h.below hx))
  have HM := hide hM
  have HL : Hid (par s sp base = way base (pcs 47 (swp sp s)) ∧ (swp sp s).length ≤ 100000) := ⟨rfl, by rw [swp_len]; exact hs⟩
  clear h hM hb
  generalize par s sp base = RR at *
  go_enter Tryd.func9, Tryd.ntmps9
  cases sp with
  | true =>
    go_wp2_with fail
    refine (unhide HR).mono ?_
    rintro e w1 ⟨rfl, hx1⟩
    clear HR
    generalize swp true s = T0 at *
    go_wp2_with fail
    refine (unhide HC w1 hx1).mono ?_
    rintro e w2 ⟨g0, c0, rfl, own0, hx2⟩
    clear HC
    have own0' := owns_mono own0 hx1.size
    have b0 : Below w.heap.size w w2 := hx1.then hx2 hx1.size
    have ST : Hid (∃ (t : List UInt8) (qs : List (List UInt8)) (g c : Nat) (b : Bool), S T0 = S t ∧ Value.slice (some ⟨g0, 0, none⟩) base.length c0 = .slice (some ⟨g, 0, none⟩) qs.length c ∧ Value.bool true = .bool b ∧ w2.ownsRow w.heap.size 9 1 (.slice (some ⟨g, 0, none⟩) qs.length c) qs.length (qs.map S) ∧ Below w.heap.size w w2 ∧ t.length ≤ 100000 ∧ (b = true → way qs (pcs 47 t) = RR ∧ qs.length + t.length ≤ 200000) ∧ (b = false → qs = RR)) :=
      ⟨T0, base, g0, c0, true, rfl, rfl, rfl, own0', b0, (unhide HL).2, fun _ => ⟨(unhide HL).1.symm, by have := (unhide HL).2; omega⟩, fun h => by cases h⟩
    clear own0 own0' b0 hx1 hx2 HL
    go_wp2_with fail
    go_loopw [0, 7, 8] (fun v l m wr => ∃ (t : List UInt8) (qs : List (List UInt8)) (g c : Nat) (b : Bool), v = S t ∧ l = .slice (some ⟨g, 0, none⟩) qs.length c ∧ m = .bool b ∧ wr.ownsRow w.heap.size 9 1 (.slice (some ⟨g, 0, none⟩) qs.length c) qs.length (qs.map S) ∧ Below w.heap.size w wr ∧ t.length ≤ 100000 ∧ (b = true → way qs (pcs 47 t) = RR ∧ qs.length + t.length ≤ 200000) ∧ (b = false → qs = RR)) (fun v _ m _ => leftV v m)
    case atStart => exact unhide ST
    case round =>
      clear ST
      obtain ⟨t, qs, g, c, b, rfl, rfl, rfl, own, hbr, htl, hyes, hno⟩ := hrel
      cases b with
      | true =>
        obtain ⟨hway, hql⟩ := hyes rfl
        have hMr := MaxL.below (unhide HM) hbr
        clear hyes hno
        have HU := hide (cut_any t wr (by omega) hMr)
        clear hMr
        go_wp2_with fail
        refine (unhide HU).mono ?_
        rintro e w3 ⟨x, r, more, rfl, ⟨n, rfl⟩, hxl, hrl0, hcase⟩
        clear HU
        have own3 := owns_below own (Ext.drewN wr n)
        have b3 : Below w.heap.size w (wr.drewN n) := hbr.trans (Below.mono (Ext.drewN wr n) hbr.size)
        have HW := hide (walk_any w.heap.size g c qs x (!more) (wr.drewN n) b3.size (by omega) (by omega) own3)
        have hsl := stp_len qs x (!more)
        have KEY : Hid (∀ (g' c' : Nat) (w' : World), w'.ownsRow w.heap.size 9 1 (.slice (some ⟨g', 0, none⟩) (stp qs x (!more)).length c') (stp qs x (!more)).length ((stp qs x (!more)).map S) → Below w.heap.size (wr.drewN n) w' →
            (∃ (t' : List UInt8) (qs' : List (List UInt8)) (g1 c1 : Nat) (b : Bool), S r = S t' ∧ Value.slice (some ⟨g', 0, none⟩) (stp qs x (!more)).length c' = .slice (some ⟨g1, 0, none⟩) qs'.length c1 ∧ Value.bool more = .bool b ∧ w'.ownsRow w.heap.size 9 1 (.slice (some ⟨g1, 0, none⟩) qs'.length c1) qs'.length (qs'.map S) ∧ Below w.heap.size w w' ∧ t'.length ≤ 100000 ∧ (b = true → way qs' (pcs 47 t') = RR ∧ qs'.length + t'.length ≤ 200000) ∧ (b = false → qs' = RR)) ∧ leftV (S r) (.bool more) < leftV (S t) (.bool true)) := by
          intro g' c' w' o' b'
          rcases hcase with ⟨rfl, hp⟩ | ⟨rfl, hp, hrl⟩
          · refine ⟨⟨r, _, g', c', false, rfl, rfl, rfl, o', b3.trans b', by omega, (fun h => by cases h), fun _ => ?_⟩, ?_⟩
            · rw [hp] at hway
              exact hway
            · show 0 < strLen (S t) + 1
              omega
          · refine ⟨⟨r, _, g', c', true, rfl, rfl, rfl, o', b3.trans b', by omega, fun _ => ⟨?_, ?_⟩, (fun h => by cases h)⟩, ?_⟩
            · rw [hp, way, show (pcs 47 r).isEmpty = false by
                cases hq : pcs 47 r with
                | nil => exact absurd hq (pcs_ne 47 r)
                | cons a l => rfl] at hway
              exact hway
            · omega
            · show (⟨r.toArray⟩ : ByteArray).size + 1 < (⟨t.toArray⟩ : ByteArray).size + 1
              rw [size_S, size_S]
              omega
        clear own hbr hway hql own3 b3 hcase hxl hsl hrl0
        generalize stp qs x (!more) = qs2 at *
        go_wp2_with fail
        refine (unhide HW).mono ?_
        rintro e w4 ⟨g1, c1, rfl, own4, b4⟩
        clear HW
        have kk := hide (unhide KEY g1 c1 w4 own4 b4)
        clear own4 b4 KEY
        go_wp2
        exact unhide kk
      | false =>
        obtain rfl := hno rfl
        have FF : Hid (∃ g' c', Ending.returned (.slice (some ⟨g, 0, none⟩) qs.length c) = .returned (.slice (some ⟨g', 0, none⟩) qs.length c') ∧ wr.ownsRow w.heap.size 9 1 (.slice (some ⟨g', 0, none⟩) qs.length c') qs.length (qs.map S) ∧ Ext w wr) := ⟨_, _, rfl, own, hbr⟩
        clear own hbr hyes hno HM
        go_wp2
        go_ret
        exact unhide FF
  | false =>
    clear HR
    have hx1 := Ext.refl w
    have HL2 : Hid (RR = way base (pcs 47 s) ∧ s.length ≤ 100000) := HL
    clear HL
    have HL := HL2
    clear HL2
    go_wp2_with fail
    refine (unhide HC w hx1).mono ?_
    rintro e w2 ⟨g0, c0, rfl, own0, hx2⟩
    clear HC
    have own0' := owns_mono own0 hx1.size
    have b0 : Below w.heap.size w w2 := hx1.then hx2 hx1.size
    have ST : Hid (∃ (t : List UInt8) (qs : List (List UInt8)) (g c : Nat) (b : Bool), S s = S t ∧ Value.slice (some ⟨g0, 0, none⟩) base.length c0 = .slice (some ⟨g, 0, none⟩) qs.length c ∧ Value.bool true = .bool b ∧ w2.ownsRow w.heap.size 9 1 (.slice (some ⟨g, 0, none⟩) qs.length c) qs.length (qs.map S) ∧ Below w.heap.size w w2 ∧ t.length ≤ 100000 ∧ (b = true → way qs (pcs 47 t) = RR ∧ qs.length + t.length ≤ 200000) ∧ (b = false → qs = RR)) :=
      ⟨s, base, g0, c0, true, rfl, rfl, rfl, own0', b0, (unhide HL).2, fun _ => ⟨(unhide HL).1.symm, by have := (unhide HL).2; omega⟩, fun h => by cases h⟩
    clear own0 own0' b0 hx1 hx2 HL
    go_wp2_with fail
    go_loopw [0, 7, 8] (fun v l m wr => ∃ (t : List UInt8) (qs : List (List UInt8)) (g c : Nat) (b : Bool), v = S t ∧ l = .slice (some ⟨g, 0, none⟩) qs.length c ∧ m = .bool b ∧ wr.ownsRow w.heap.size 9 1 (.slice (some ⟨g, 0, none⟩) qs.length c) qs.length (qs.map S) ∧ Below w.heap.size w wr ∧ t.length ≤ 100000 ∧ (b = true → way qs (pcs 47 t) = RR ∧ qs.length + t.length ≤ 200000) ∧ (b = false → qs = RR)) (fun v _ m _ => leftV v m)
    case atStart => exact unhide ST
    case round =>
      clear ST
      obtain ⟨t, qs, g, c, b, rfl, rfl, rfl, own, hbr, htl, hyes, hno⟩ := hrel
      cases b with
      | true =>
        obtain ⟨hway, hql⟩ := hyes rfl
        have hMr := MaxL.below (unhide HM) hbr
        clear hyes hno
        have HU := hide (cut_any t wr (by omega) hMr)
        clear hMr
        go_wp2_with fail
        refine (unhide HU).mono ?_
        rintro e w3 ⟨x, r, more, rfl, ⟨n, rfl⟩, hxl, hrl0, hcase⟩
        clear HU
        have own3 := owns_below own (Ext.drewN wr n)
        have b3 : Below w.heap.size w (wr.drewN n) := hbr.trans (Below.mono (Ext.drewN wr n) hbr.size)
        have HW := hide (walk_any w.heap.size g c qs x (!more) (wr.drewN n) b3.size (by omega) (by omega) own3)
        have hsl := stp_len qs x (!more)
        have KEY : Hid (∀ (g' c' : Nat) (w' : World), w'.ownsRow w.heap.size 9 1 (.slice (some ⟨g', 0, none⟩) (stp qs x (!more)).length c') (stp qs x (!more)).length ((stp qs x (!more)).map S) → Below w.heap.size (wr.drewN n) w' →
            (∃ (t' : List UInt8) (qs' : List (List UInt8)) (g1 c1 : Nat) (b : Bool), S r = S t' ∧ Value.slice (some ⟨g', 0, none⟩) (stp qs x (!more)).length c' = .slice (some ⟨g1, 0, none⟩) qs'.length c1 ∧ Value.bool more = .bool b ∧ w'.ownsRow w.heap.size 9 1 (.slice (some ⟨g1, 0, none⟩) qs'.length c1) qs'.length (qs'.map S) ∧ Below w.heap.size w w' ∧ t'.length ≤ 100000 ∧ (b = true → way qs' (pcs 47 t') = RR ∧ qs'.length + t'.length ≤ 200000) ∧ (b = false → qs' = RR)) ∧ leftV (S r) (.bool more) < leftV (S t) (.bool true)) := by
          intro g' c' w' o' b'
          rcases hcase with ⟨rfl, hp⟩ | ⟨rfl, hp, hrl⟩
          · refine ⟨⟨r, _, g', c', false, rfl, rfl, rfl, o', b3.trans b', by omega, (fun h => by cases h), fun _ => ?_⟩, ?_⟩
            · rw [hp] at hway
              exact hway
            · show 0 < strLen (S t) + 1
              omega
          · refine ⟨⟨r, _, g', c', true, rfl, rfl, rfl, o', b3.trans b', by omega, fun _ => ⟨?_, ?_⟩, (fun h => by cases h)⟩, ?_⟩
            · rw [hp, way, show (pcs 47 r).isEmpty = false by
                cases hq : pcs 47 r with
                | nil => exact absurd hq (pcs_ne 47 r)
                | cons a l => rfl] at hway
              exact hway
            · omega
            · show (⟨r.toArray⟩ : ByteArray).size + 1 < (⟨t.toArray⟩ : ByteArray).size + 1
              rw [size_S, size_S]
              omega
        clear own hbr hway hql own3 b3 hcase hxl hsl hrl0
        generalize stp qs x (!more) = qs2 at *
        go_wp2_with fail
        refine (unhide HW).mono ?_
        rintro e w4 ⟨g1, c1, rfl, own4, b4⟩
        clear HW
        have kk := hide (unhide KEY g1 c1 w4 own4 b4)
        clear own4 b4 KEY
        go_wp2
        exact unhide kk
      | false =>
        obtain rfl := hno rfl
        have FF : Hid (∃ g' c', Ending.returned (.slice (some ⟨g, 0, none⟩) qs.length c) = .returned (.slice (some ⟨g', 0, none⟩) qs.length c') ∧ wr.ownsRow w.heap.size 9 1 (.slice (some ⟨g', 0, none⟩) qs.length c') qs.length (qs.map S) ∧ Ext w wr) := ⟨_, _, rfl, own, hbr⟩
        clear own hbr hyes hno HM
        go_wp2
        go_ret
        exact unhide FF
end Go.Proofs.YtbmikdocjnpidaaDoor
