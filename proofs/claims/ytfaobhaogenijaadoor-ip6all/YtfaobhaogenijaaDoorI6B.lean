/-
  The reader's pieces: ParseUint, add, addPiece, addNumbers.
-/
import Derived.Test.YtfaobhaogenijaaDoorI6U
import Derived.Laws.CopyOwn
import Derived.Deep.RegionLaw
import Derived.BigRegion
namespace Go.Proofs.YtfaobhaogenijaaDoor
set_option linter.unusedVariables false
open Go.RowKit

set_option maxHeartbeats 1000000 in
set_option maxRecDepth 100000 in
theorem parse16_any (p : List UInt8) (w : World) (hp : p.length ≤ 4) (tb : Tb8 w) : Calls Tryd.prog 36 #[S p, .int .i64 16, .int .i64 16] w fun e w' => numE (hexW p) (fun x => ∃ N, x = .iface 96 (.pointer (some ⟨N, 0, none⟩))) e ∧ Ext w w' := by
  have HI := hide (iparse_any p w hp)
  have HE : Hid (∀ w2, Ext w w2 → Calls Tryd.prog 50 #[.string ⟨#[80, 97, 114, 115, 101, 85, 105, 110, 116]⟩, S p, .int .i64 16, .int .i64 16, .iface 94 (.int .i64 2)] w2 fun e w' => (∃ N, e = .returned (.iface 96 (.pointer (some ⟨N, 0, none⟩)))) ∧ Ext w w') := fun w2 hx => by
    obtain ⟨te, pe, he⟩ := (tb.below hx).es
    refine (Tryd.strconv_toError_syntax _ ⟨p.toArray⟩ 16 16 (.iface te pe) w2 (by rw [size_S]; omega) he (.inr ⟨te, pe, rfl⟩)).mono ?_
    rintro e w' ⟨N, rfl, _, _, hb⟩
    exact ⟨⟨N, rfl⟩, hx.trans hb⟩
  have yes : ∀ v : Nat, hexW p = some v → numE (hexW p) (fun x => ∃ N, x = .iface 96 (.pointer (some ⟨N, 0, none⟩))) (.returned (.tuple #[.int .u64 (v : Int), .nilIface])) := fun v h => by rw [h]; rfl
  have no : ∀ N, hexW p = none → numE (hexW p) (fun x => ∃ N, x = .iface 96 (.pointer (some ⟨N, 0, none⟩))) (.returned (.tuple #[.int .u64 0, .iface 96 (.pointer (some ⟨N, 0, none⟩))])) := fun N h => by rw [h]; exact ⟨_, ⟨N, rfl⟩, rfl⟩
  have NO := hide no
  have YES := hide yes
  clear no yes
  generalize numE (hexW p) (fun x => ∃ N, x = .iface 96 (.pointer (some ⟨N, 0, none⟩))) = Q at *
  go_enter Tryd.func36, Tryd.ntmps36
  go_wp2_with fail
  refine (unhide HI).mono ?_
  rintro e w2 ⟨he, hx⟩
  clear HI
  cases hh : hexW p with
  | some v =>
    rw [hh] at he
    obtain rfl : e = .returned (.tuple #[.int .u64 (v : Int), .nilIface]) := he
    have HY := hide (unhide YES v hh)
    clear hh HE YES NO
    go_wp2
    go_ret2
    exact ⟨unhide HY, hx⟩
  | none =>
    rw [hh] at he
    obtain ⟨x, rfl, rfl⟩ := he
    have HN := hide (fun N => unhide NO N hh)
    clear hh YES NO
    go_wp2_with fail
    refine (unhide HE _ hx).mono ?_
    rintro e w3 ⟨⟨N, rfl⟩, hx3⟩
    clear HE
    go_wp2
    go_ret2
    exact ⟨unhide HN N, hx3⟩

theorem rdX_add (s : List UInt8) (k : Nat) (ps vs : List Nat) (g : Int) (h1 : vs.length = 1 ∨ vs.length = 2) (h : ps.length + vs.length ≤ 8) :
    (splice (rdX s k ps g).toList (2 + ps.length) (vs.map U)).toArray.setIfInBounds 10 (.int .i64 ((ps.length : Int) + (vs.length : Int))) = rdX s k (ps ++ vs) g := by
  rcases h1 with h1 | h1
  · match vs, h1 with
    | [x], _ =>
      match ps with
      | [] => rfl
      | [_] => rfl
      | [_, _] => rfl
      | [_, _, _] => rfl
      | [_, _, _, _] => rfl
      | [_, _, _, _, _] => rfl
      | [_, _, _, _, _, _] => rfl
      | [_, _, _, _, _, _, _] => rfl
      | _ :: _ :: _ :: _ :: _ :: _ :: _ :: _ :: _ => simp at h
  · match vs, h1 with
    | [x, y], _ =>
      match ps with
      | [] => rfl
      | [_] => rfl
      | [_, _] => rfl
      | [_, _, _] => rfl
      | [_, _, _, _] => rfl
      | [_, _, _, _, _] => rfl
      | [_, _, _, _, _, _] => rfl
      | _ :: _ :: _ :: _ :: _ :: _ :: _ :: _ => simp at h

theorem splice_behind {α : Type} {L cs : List α} {off i : Nat} (h1 : off ≤ L.length) (h : off + cs.length ≤ i) : (splice L off cs)[i]? = L[i]? := by
  unfold splice
  rw [List.getElem?_append_right (by rw [List.length_take]; omega), List.getElem?_append_right (by rw [List.length_take]; omega), List.getElem?_drop, List.length_take]
  congr 1
  omega
theorem arr_len : Tryd.prog.arrayLen 23 = 8 := by kernel_rfl
theorem arr_elem : Tryd.prog.elem 23 = 22 := by kernel_rfl
theorem arr_und : Tryd.prog.underlying 23 = some (TypeDesc.array (Tryd.prog.arrayLen 23) (Tryd.prog.elem 23)) := by kernel_rfl
theorem arr_size (w : World) : (sizeOf (Tryd.prog.elem 23)).run Tryd.prog w = .ok 1 w := by
  rw [arr_elem]
  kernel_rfl
/-- a[n:], a[:n], a[l:h], a[:] of eight pieces in memory. -/
theorem arr_from (w : World) (b o n : Nat) (hn : n < 8) : (Instr.sliceAt 23 (.pointer (some ⟨b, o, none⟩)) (some (.int .i64 (n : Int))) none none).run Tryd.prog w = .ok (.slice (some ⟨b, o + n, none⟩) (8 - n) (8 - n)) w := by
  rw [run_sliceAt_array_l w _ _ arr_und .i64 (n : Int) (by omega) (by rw [arr_len]; omega), arr_size, arr_len]
  show Result.ok (slicedAt ⟨b, o, none⟩ (n : Int).toNat 8 8 1) w = _
  unfold slicedAt
  rw [Int.toNat_natCast, if_neg (by omega), Nat.mul_one, Addr.add_lit]
theorem arr_from8 (w : World) (b o n : Nat) (hn : n = 8) : (Instr.sliceAt 23 (.pointer (some ⟨b, o, none⟩)) (some (.int .i64 (n : Int))) none none).run Tryd.prog w = .ok (.slice (some ⟨b, o, none⟩) 0 0) w := by
  rw [run_sliceAt_array_l w _ _ arr_und .i64 (n : Int) (by omega) (by rw [arr_len]; omega), arr_size, arr_len]
  show Result.ok (slicedAt ⟨b, o, none⟩ (n : Int).toNat 8 8 1) w = _
  unfold slicedAt
  rw [Int.toNat_natCast, if_pos hn.symm, hn]
theorem arr_to (w : World) (b o n : Nat) (hn : n ≤ 8) : (Instr.sliceAt 23 (.pointer (some ⟨b, o, none⟩)) none (some (.int .i64 (n : Int))) none).run Tryd.prog w = .ok (.slice (some ⟨b, o, none⟩) n 8) w := by
  rw [run_sliceAt_array_h w _ _ arr_und .i64 (n : Int) (by omega) (by rw [arr_len]; omega), arr_size, arr_len]
  show Result.ok (slicedAt ⟨b, o, none⟩ 0 (n : Int).toNat 8 1) w = _
  unfold slicedAt
  rw [Int.toNat_natCast, if_neg (by omega), Nat.zero_mul, Addr.add_lit]
  rfl
theorem arr_all (w : World) (b o : Nat) : (Instr.sliceAt 23 (.pointer (some ⟨b, o, none⟩)) none none none).run Tryd.prog w = .ok (.slice (some ⟨b, o, none⟩) 8 8) w := by
  rw [run_sliceAt_array_all w _ _ arr_und, arr_size, arr_len]
  show Result.ok (slicedAt ⟨b, o, none⟩ 0 8 8 1) w = _
  unfold slicedAt
  rw [if_neg (by omega), Nat.zero_mul, Addr.add_lit]
  rfl
theorem arr_mid (w : World) (b o l h : Nat) (hl : l < 8) (hlh : l ≤ h) (hh : h ≤ 8) : (Instr.sliceAt 23 (.pointer (some ⟨b, o, none⟩)) (some (.int .i64 (l : Int))) (some (.int .i64 (h : Int))) none).run Tryd.prog w = .ok (.slice (some ⟨b, o + l, none⟩) (h - l) (8 - l)) w := by
  rw [run_sliceAt_array_lh w _ _ arr_und .i64 .i64 (l : Int) (h : Int) (by omega) (by omega) (by rw [arr_len]; omega), arr_size, arr_len]
  show Result.ok (slicedAt ⟨b, o, none⟩ (l : Int).toNat (h : Int).toNat 8 1) w = _
  unfold slicedAt
  rw [Int.toNat_natCast, Int.toNat_natCast, if_neg (by omega), Nat.mul_one, Addr.add_lit]

theorem infoU1 : (Tryd.prog.info? 22).map (·.size) = some 1 := by kernel_rfl

set_option maxHeartbeats 2000000 in
set_option maxRecDepth 100000 in
theorem add_any (b : Nat) (s : List UInt8) (k : Nat) (ps vs : List Nat) (g : Int) (q : Nat) (W : World) (h : Rd W b s k ps g) (h1 : vs.length = 1 ∨ vs.length = 2) (h8 : ps.length ≤ 8)
    (hrd : RdV W (some ⟨q, 0, none⟩) vs.length (vs.map U)) :
    Calls Tryd.prog 35 #[.pointer (some ⟨b, 0, none⟩), .slice (some ⟨q, 0, none⟩) vs.length vs.length] W fun e w' =>
      (if ps.length + vs.length ≤ 8 then e = .returned (.bool true) ∧ Rd w' b s k (ps ++ vs) g else e = .returned (.bool false)) ∧ Below b W w' := by
  have c10 := h.count
  have f10 := h.froz 10
  by_cases hc : ps.length + vs.length ≤ 8
  · have hc' : ¬ (8 : Int) < (ps.length : Int) + (vs.length : Int) := by omega
    have hsub : (8 : Int) - (ps.length : Int) = ((8 - ps.length : Nat) : Int) := by omega
    have KEY : Hid (∀ w', Hid (w'.heap[b]? = some (.cells (splice (rdX s k ps g).toList (2 + ps.length) (vs.map U)).toArray 33 (0, 0))) → Below b W w' →
        w'.cell? ⟨b, 10, none⟩ = some (.int .i64 (ps.length : Int)) ∧ w'.frozen? ⟨b, 10, none⟩ = false ∧ Rd (w'.setCell ⟨b, 10, none⟩ (.int .i64 ((ps.length : Int) + (vs.length : Int)))) b s k (ps ++ vs) g ∧ Below b W (w'.setCell ⟨b, 10, none⟩ (.int .i64 ((ps.length : Int) + (vs.length : Int))))) := by
      intro w' hg hb
      have hg := unhide hg
      have hl : (splice (rdX s k ps g).toList (2 + ps.length) (vs.map U)).length = 12 := by
        rw [length_splice _ _ _ (by rw [List.length_map]; show 2 + ps.length + vs.length ≤ 12; omega)]
        rfl
      refine ⟨?_, by simp [World.frozen?, hg], ?_, hb.trans (below_set (Nat.le_refl _))⟩
      · have e := splice_behind (L := (rdX s k ps g).toList) (cs := vs.map U) (off := 2 + ps.length) (i := 10) (by show 2 + ps.length ≤ 12; omega) (by rw [List.length_map]; omega)
        have e2 : (splice (rdX s k ps g).toList (2 + ps.length) (vs.map U))[10]? = some (.int .i64 (ps.length : Int)) := e
        simp [World.cell?, hg, e2]
      · unfold Rd
        rw [← rdX_add s k ps vs g h1 hc]
        simp [World.setCell, Array.getElem?_modify, hg]
    have hg0 : W.drew.heap[b]? = some (.cells (rdX s k ps g).toList.toArray 33 (0, 0)) := h
    have hsrc : ∀ j v, (vs.map U)[j]? = some v → W.drew.cell? ((⟨q, 0, none⟩ : Addr).add j) = some v := hrd.news _ rfl
    have hone : ∀ v ∈ vs.map U, v.oneCell' = true := by
      intro v hv
      obtain ⟨x, _, rfl⟩ := List.mem_map.1 hv
      rfl
    have hlen : (vs.map U).length = vs.length := List.length_map _
    have hfit : 2 + ps.length + vs.length ≤ 12 := by omega
    have hcur : (rdX s k ps g).toList.length = 12 := rfl
    generalize vs.map U = cs at *
    generalize (rdX s k ps g).toList = cur at *
    have hsl := fun v => arr_from v b 2 ps.length (by omega)
    have hwr : IntKind.i64.wrap ((ps.length : Int) + (vs.length : Int)) = (ps.length : Int) + (vs.length : Int) := by rw [IntKind.wrap_i64]; omega
    clear h hrd
    simp only [if_pos hc]
    go_enter Tryd.func35, Tryd.ntmps35
    go_wp2_with fail
    go_region_law (first
      | (refine step_copy_splice rfl (.tmp 24) (.tmp 25) 35 35 rfl 22 Tryd.underlying35 infoU1 (some ⟨b, 2 + ps.length, none⟩) (some ⟨q, 0, none⟩) (8 - ps.length) (8 - ps.length) vs.length vs.length ?_ ?_ b (2 + ps.length) cur 33 hg0 cs ?_ ?_ ?_ hone b W ?_ (Nat.le_refl _) ?_
         · simp [Act.eval, Act.put]
         · simp [Act.eval, Act.put]
         · rw [hlen]; show vs.length = min vs.length (8 - ps.length); omega
         · exact fun _ => ⟨rfl, _, rfl, hsrc⟩
         · rw [hlen, hcur]; omega
         · exact (Below.refl _ _).drew
         intro w4 hg4 hb4
         obtain ⟨c4, f4, r4, b4⟩ := unhide KEY w4 hg4 hb4
         have R4 := hide (And.intro r4 b4)
         rw [hlen]
         clear hg4 hb4 r4 b4))
    all_goals
      clear KEY
      go_wp2
      go_ret
      exact ⟨⟨rfl, (unhide R4).1⟩, (unhide R4).2⟩
  · have hc' : (8 : Int) < (ps.length : Int) + (vs.length : Int) := by omega
    simp only [if_neg hc]
    clear h hrd
    go_enter Tryd.func35, Tryd.ntmps35
    go_wp2
    go_ret
    exact ⟨rfl, Below.refl _ _⟩
end Go.Proofs.YtfaobhaogenijaaDoor
