/-
  Which segments a way has, which of them lead nowhere, and how they are shown, by the document's own words, for every text of at most 80 bytes and every base of at most 8 texts; where the arguments are of bulk at most 1048576 (eight texts together may be longer than a Builder takes).
-/
import Derived.Test.YtbmikdocjnpidaaDoorRows
import Derived.Test.YtbmikdocjnpidaaDoorCards
import Derived.Test.YtbmikdocjnpidaaDoorTie
import Derived.Test.YtbmikdocjnpidaaDoorPthL
import Derived.Test.YtbmikdocjnpidaaDoorPthJ
import Derived.WalkKit
import Derived.ProofKit
import Derived.OpenShut
import Derived.ShutString
import Derived.ChangeOld
import Derived.Below
import Derived.Carry
import Derived.Stop.Joined
import Derived.SevenTiedAt
import Derived.Deep.DeepHandedRow
import Derived.Deep.Strs
namespace Go.Proofs.YtbmikdocjnpidaaDoor.pathAllUpto
open Go.ChangeShapes Go.WideShapes Go.ChangeAt Go.RowKit
open Go.ChangeMaps (open_string shut_string)
set_option linter.unusedVariables false

theorem own' : ownKnob Tryd.prog.godebug = none := by kernel_rfl
theorem laidOut : laidOutB Tryd.prog = true := by kernel_rfl

/-- What texts hold together. -/
theorem bulk_texts {H : Type} : ∀ l : List (List UInt8), Rows.uptoBulkAll (l.map fun p => (DataW.lit (.string p) : DataW H)) = (shw l).length
  | [] => rfl
  | x :: l => by
    have e : shw (x :: l) = 47 :: (x ++ shw l) := by simp [shw]
    rw [e, List.map_cons, Rows.uptoBulkAll, bulk_texts l, Rows.uptoBulk, List.length_cons, List.length_append]
    omega

theorem open_texts {H : Type} {enc : TypeId × Value → H} {W : World} {a : Option Addr} {len cap : Nat} {d : DataW H} {p : List MemPlace} (h : DataW.Trod enc Tryd.prog W 0 (fun _ => true) true 22 (.slice a len cap) d p) :
    ∃ ps : List (List UInt8), ps.length = len ∧ RdV W a cap (ps.map S) ∧ (shw ps).length ≤ Rows.uptoBulk d := by
  obtain ⟨fuel, hf⟩ := h
  rcases Go.Deep.open_strs Tryd.underlying22 Tryd.underlying9 (by kernel_rfl) hf with ⟨hcs, hx⟩ | ⟨x, l, c, m, Sx, hcs, _, hl, hm, hmm, hx, hcell⟩
  · simp [Value.cells] at hcs
    obtain ⟨rfl, rfl, rfl⟩ := hcs
    exact ⟨[], rfl, RdV.nothing W, by simp [shw]⟩
  · simp [Value.cells] at hcs
    obtain ⟨rfl, rfl, rfl⟩ := hcs
    simp only [if_true] at hmm
    subst hmm
    simp only [Prod.mk.injEq] at hx
    obtain ⟨rfl, _⟩ := hx
    refine ⟨(List.range len).map fun i => (Sx i).data.toList, by simp, ⟨by simpa using hl, by unfold maxLen at hm; omega, fun e => (by cases e), fun i hi => ?_⟩, ?_⟩
    · have hi' : i < len := by simpa using hi
      have hci := (hcell i (by omega)).1
      obtain ⟨b, off, spot⟩ := x
      have hs : spot = none := by simpa [Addr.add] using World.cell?_spot (hcell 0 (by omega)).1
      subst hs
      refine ⟨b, off, rfl, ?_⟩
      rw [Addr.add_lit] at hci
      rw [hci]
      simp [hi', S]
    · have e := bulk_texts (H := H) ((List.range len).map fun i => (Sx i).data.toList)
      rw [List.map_map] at e
      rw [Rows.uptoBulk, ← e]
      show Rows.uptoBulkAll _ ≤ Rows.uptoBulkAll _ + _ + 1
      simp only [Function.comp_def]
      omega

theorem walk (s0 : ByteArray) (b1 : Bool) (a : Option Addr) (len cap : Nat) (ps : List (List UInt8)) (w : World) (tb : MaxL w) (hl : ps.length = len) (h : RdV w a cap (ps.map S)) (hs : (shw ps).length ≤ 1048576) :
    Calls Tryd.prog 3 #[.string s0, .bool b1, .slice a len cap] w fun e w' => e = .returned (.bool true) ∧ Below w.heap.size w w' := by
  subst hl
  have hb : ∀ p ∈ ps, p.length ≤ 2000000 := fun p hp => by
    have h1 : p.length < (shw ps).length := by
      unfold shw
      have : (47 :: p).Sublist (ps.flatMap fun x => 47 :: x) := by
        obtain ⟨l1, l2, rfl⟩ := List.append_of_mem hp
        rw [List.flatMap_append, List.flatMap_cons]
        exact (List.sublist_append_left _ _).trans (List.sublist_append_right _ _)
      have := this.length_le
      rw [List.length_cons] at this
      omega
    omega
  have hw : Calls Tryd.prog 3 #[.string ⟨s0.data.toList.toArray⟩, .bool b1, .slice a ps.length cap] w fun e w' => e = .returned (.bool true) ∧ Below w.heap.size w w' := all10_walk s0.data.toList b1 a cap ps w tb h hb (by omega)
  rw [bytes_eta] at hw
  exact hw

theorem reads (os : Os) {H : Type} (enc : TypeId × Value → H) : ∃ places, DataW.whole enc Tryd.prog ((World.laidAll Tryd.prog os laidR).forCall (fun _ _ => 0) ⟨#[], #[.string ByteArray.empty, .bool false, .slice none 0 0], []⟩).memory Tryd.f3.params.toList Rows.pathAllSpec.vars false #[Value.string ByteArray.empty, .bool false, .slice none 0 0].toList 8 = some ([.lit (.string []), .lit (.bool false), .nil], [], places) :=
  ⟨[], by kernel_rfl⟩
theorem laid_met (os : Os) (args : Array Value) : laidMet Tryd.prog laidR ((World.laidAll Tryd.prog os laidR).forCall (fun _ _ => 0) ⟨#[], args, []⟩).memory :=
  laidMet_laidAll _ (by kernel_rfl) (by kernel_rfl)

set_option maxRecDepth 100000 in
theorem lifted (os : Os) (started : os.Started) (H : Type) (enc : TypeId × Value → H) (F : Stop.Interp) :
    ReturnsInHanded {} Tryd.checked os 3 .any ((Rows.OpenSpec.upto Rows.pathAllSpec).preRow enc Tryd.prog Tryd.f3 Rows.pathAllUptoRow.domain false Rows.pathAllUptoRow.laid) (((Rows.OpenSpec.upto Rows.pathAllSpec).at F).post enc Tryd.prog Tryd.f3 false true false false) := by
  obtain ⟨places, hx⟩ := reads os enc
  refine returnsInHanded_of_row (C := Tryd.checked) (s := Rows.OpenSpec.upto Rows.pathAllSpec) own' started (by kernel_rfl) Tryd.func3
    ⟨World.laidAll Tryd.prog os laidR, fun _ _ => 0, ⟨#[], #[.string ByteArray.empty, .bool false, .slice none 0 0], []⟩, World.laidAll_os _ _ _, World.shaped_of_ZipB (by kernel_rfl) (by kernel_rfl),
      rfl, (Input.okWide_of_okWideB (by kernel_rfl)).2,
      OpenSpec.preRow_of_cond 8 hx (by kernel_rfl) (fun k hk => by cases hk; kernel_rfl) (by kernel_rfl) (laid_met os _), by
        simp only [Assume.holds]
        exact ⟨by simp, by simp, fun _ => Modest.zero, by simp, by simp⟩⟩ ?_
  intro W base args ds gs before hval0 hW _ hk _ hL hsh _
  have hval : ∀ (j : Nat) t v, Tryd.f3.params[j]? = some t → args[j]? = some v → Value.okWide Tryd.prog W .any base t v := hval0
  have hW' := hW
  obtain ⟨p, q, hA0, hV, rfl, hfz, hnd⟩ := hW
  have hA : DataW.TrodAll enc Tryd.prog W 0 (fun _ => true) true Tryd.f3.params.toList args.toList ds p := hA0
  rw [Tryd.params3] at hA hval
  obtain ⟨v0, vs0, d0, ds0, p0, q0, hargs, rfl, rfl, h0, r0⟩ := trodAll_cons hA
  obtain ⟨v1, vs1, d1, ds1, p1, q1, rfl, rfl, rfl, h1, r1⟩ := trodAll_cons r0
  obtain ⟨v2, vs2, d2, ds2, p2, q2, rfl, rfl, rfl, h2, r2⟩ := trodAll_cons r1
  obtain ⟨rfl, rfl, rfl⟩ := trodAll_nil r2
  obtain rfl : args = #[v0, v1, v2] := by cases args; simp_all
  obtain ⟨rfl, rfl⟩ := trodVars_none hV
  obtain ⟨s0, rfl, rfl, rfl, w0⟩ := open_string Tryd.underlying9 (hval 0 9 v0 rfl rfl) h0
  obtain ⟨b1, rfl, rfl, rfl⟩ := open_bool Tryd.underlying4 (hval 1 4 v1 rfl rfl) h1
  obtain ⟨a2, len2, cap2, rfl⟩ := okWide_slice Tryd.underlying22 (hval 2 22 v2 rfl rfl)
  have k2 := h2
  have lt2 : ∀ x ∈ p2, x.block < W.heap.size := by obtain ⟨m, hm⟩ := k2; exact DataW.trod_lt m _ _ _ hm
  obtain ⟨ps, hl, hr, hbk⟩ := open_texts h2
  have hkk : Rows.uptoBulkAll _ ≤ 1048576 := of_decide_eq_true (hk _ rfl)
  have hsum : (shw ps).length ≤ 1048576 := by
    simp only [List.append_nil, Rows.uptoBulkAll] at hkk
    omega
  clear hA0 hval0
  refine (walk s0 b1 a2 len2 cap2 ps W (tb_of_laid hL hsh) hl hr hsum).mono fun e W' ⟨he, bel⟩ => ?_
  subst he
  exact ⟨_, rfl, _, _, _, [], _, [], hW', trodAll_mk1 (shut_bool Tryd.underlying4 _), (trodAll_cons_mk (shut_string Tryd.underlying9 w0) (trodAll_cons_mk (shut_bool Tryd.underlying4 _) (trodAll_cons_mk (Below.trod laidOut (by kernel_rfl) (of_decide_eq_true (by kernel_rfl)) k2 bel lt2) trodAll_mk0))), rfl, bel.frame _, fun h => by cases h⟩

theorem said : Rows.PathAllUptoSaid :=
  OpenClaim.holds_of_cond 3 Tryd.f3 rfl rfl rfl rfl rfl rfl rfl ⟨rfl, rfl, rfl, rfl, rfl⟩ rfl rfl rfl rfl rfl (by kernel_rfl) Tryd.func3 (by kernel_rfl)
    (of_decide_eq_true (by kernel_rfl)) (by unfold Func.isWrapper; first | (rw [if_pos (by decide +kernel)]; kernel_rfl) | (rw [if_neg (by decide +kernel)]; exact ⟨rfl, rfl⟩))
    (fun os started H enc _ F => by rw [OpenClaim.pre_eq_preRow]; exact lifted os started H enc F)

theorem plain (f : FuncId) (fn : Func) (hf : Tryd.pinned.checked.prog.funcNamed "shortcut/shortcutlaw10.PathAll" = some f) (hfn : Tryd.pinned.checked.prog.funcs[f]? = some fn) :
    false = Tryd.pinned.checked.prog.looks [] ∧ ∀ (j : Nat) t, fn.params[j]? = some t → Tryd.pinned.checked.prog.wantsStandIn t = false := by
  obtain rfl : f = 3 := Option.some.inj ((show Tryd.prog.funcNamed "shortcut/shortcutlaw10.PathAll" = some 3 by kernel_rfl).symm.trans hf) |>.symm
  obtain rfl : fn = Tryd.f3 := (Option.some.inj (Tryd.func3.symm.trans hfn)).symm
  refine ⟨by kernel_rfl, fun j t ht => ?_⟩
  rw [Tryd.params3] at ht
  have hm : t ∈ ([4, 9, 22] : List Nat) := by have := Array.mem_of_getElem? ht; simp at this; rcases this with h | h | h <;> simp [h]
  have hall : (([4, 9, 22] : List Nat).all fun u => !Tryd.prog.wantsStandIn u) = true := by kernel_rfl
  exact (show Tryd.prog.wantsStandIn t = false by simpa using List.all_eq_true.1 hall t hm)

theorem card : Rows.PathAllUptoCardSaid :=
  Claim7.holds_tied_plain_at .later [] _ _ _ _ said (fun _ h => by cases h) (by kernel_rfl) (fun _ h => by cases h) pathAllUpto_row_tie rfl ⟨rfl, rfl⟩ (by kernel_rfl) rfl plain (by kernel_rfl)
end Go.Proofs.YtbmikdocjnpidaaDoor.pathAllUpto
namespace Go.Proofs.YtbmikdocjnpidaaDoor
theorem pathAll_upto_card_said : Rows.PathAllUptoCardSaid := pathAllUpto.card
#print axioms pathAll_upto_card_said
end Go.Proofs.YtbmikdocjnpidaaDoor
