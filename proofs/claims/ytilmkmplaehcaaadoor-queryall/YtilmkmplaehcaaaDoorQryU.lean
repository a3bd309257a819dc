/-
  Show of package query.
-/
import Derived.Test.YtilmkmplaehcaaaDoorQryT
import Derived.Test.YtilmkmplaehcaaaDoorQryE
namespace Go.Proofs.YtilmkmplaehcaaaDoor
set_option linter.unusedVariables false
open Go.RowKit Go.Shelf

theorem bwrite (B b : Nat) (bs : List Value) (s : ByteArray) (w : World) (h : Lib.IsBuilderF 43 5 B b bs w) (hlen : bs.length + s.size ≤ 140737488355328) (hBw : B ≤ w.heap.size) :
    Calls Tryd.prog 20 #[.pointer (some ⟨b, 0, none⟩), .string s] w fun e w' => e = .returned (.tuple #[.int .i64 s.size, .nilIface]) ∧ (Lib.BuilderAtF 43 5 B b (.pointer (some ⟨b, 0, none⟩)) (bs ++ Lib.strCells s) w' ∧ Below B w w' ∧ Lib.OthersKept 5 (some b) w w') :=
  Any.Builder_WriteString_k { Tryd.lays155 with } Tryd.Builder_Extra_155 B b bs s w h hlen hBw

theorem bf_ext {T e : TypeId} {B b : Nat} {bs : List Value} {w w' : World} (h : Lib.IsBuilderF T e B b bs w) (hx : Ext w w') : Lib.IsBuilderF T e B b bs w' := by
  have key : ∀ p, Lib.BuilderAtF T e B b p bs w → Lib.BuilderAtF T e B b p bs w' := by
    rintro p ⟨hB, v, hb, hown, hne⟩
    have lt : ∀ {k o}, w.heap[k]? = some o → k < w.heap.size := fun h => (Array.getElem?_eq_some_iff.1 h).1
    refine ⟨hB, v, (hx.block b (lt hb)).trans hb, ⟨hown.1, ?_⟩, hne⟩
    rcases hown.2 with hn | ⟨g, cap, cur, fz, hv, hbg, hg, rest⟩
    · exact .inl hn
    · exact .inr ⟨g, cap, cur, fz, hv, hbg, (hx.block g (lt hg)).trans hg, rest⟩
  exact h.elim (fun x => .inl (key _ x)) (fun x => .inr (key _ x))

theorem cell_of {w : World} {g i : Nat} {cs : Array Value} {T : TypeId} {fz : Nat × Nat} {v : Value} (h : w.heap[g]? = some (.cells cs T fz)) (hi : cs[i]? = some v) : w.cell? ⟨g, i, none⟩ = some v := cellP h hi

set_option maxHeartbeats 4000000 in
set_option maxRecDepth 20000 in
theorem show_any (ao : Option Addr) (cap : Nat) (l : List Pr) (w : World) (hs : (shwQ l).length ≤ 1000000) (hb : ∀ p ∈ l, p.1.length ≤ 100000 ∧ p.2.length ≤ 100000) (h : RdP w ao cap l) :
    Calls Tryd.prog 12 #[.slice ao l.length cap] w fun e w' => e = .returned (S (shwQ l)) ∧ Ext w w' := by
  have hle := h.le
  have hmx := h.max
  have h0 : Lib.IsBuilderF 43 5 w.heap.size w.heap.size [] (w.alloc (.cells #[.pointer none, .slice none 0 0] 43)) := Lib.IsBuilderF.of (Lib.fresh_isBuilder 43 5 w)
  have b0 : Below w.heap.size w (w.alloc (.cells #[.pointer none, .slice none 0 0] 43)) := (Below.refl _ w).alloc (Nat.le_refl _) _
  have ST : Hid (∃ k : Nat, k ≤ l.length ∧ Value.int .i64 0 = .int .i64 (k : Int) ∧ Lib.IsBuilderF 43 5 w.heap.size w.heap.size (Lib.byteCells (shwQ (l.take k))) (w.alloc (.cells #[.pointer none, .slice none 0 0] 43)) ∧ Below w.heap.size w (w.alloc (.cells #[.pointer none, .slice none 0 0] 43))) :=
    ⟨0, by omega, rfl, h0, b0⟩
  have HR := hide h
  clear h h0 b0
  go_enter Tryd.func12, Tryd.ntmps12
  go_wp2
  go_loopw [8] (fun i wr => ∃ k : Nat, k ≤ l.length ∧ i = .int .i64 (k : Int) ∧ Lib.IsBuilderF 43 5 w.heap.size w.heap.size (Lib.byteCells (shwQ (l.take k))) wr ∧ Below w.heap.size w wr) (fun i _ => l.length - (intOf i).toNat)
  case atStart => exact unhide ST
  case round =>
    clear ST
    obtain ⟨k, hk, rfl, hB, hbr⟩ := hrel
    by_cases hkl : k < l.length
    · obtain ⟨b, off, rfl, hc⟩ := ((unhide HR).below hbr).cells (by omega)
      obtain ⟨c0, c1⟩ := hc k hkl
      have hkl' : (k : Int) < (l.length : Int) := by omega
      obtain ⟨hp1, hp2⟩ := hb (l.getD k ([], [])) (by simp [List.getD, hkl])
      have hT : shwQ (l.take (k + 1)) = shwQ (l.take k) ++ (if k = 0 then [] else [38]) ++ shw1 (l.getD k ([], [])) := by
        rw [take_snoc l k ([], []) hkl, shwQ_snoc]
        congr 2
        by_cases h0 : k = 0
        · subst h0
          simp
        · rw [if_neg h0, if_neg]
          intro e
          have := congrArg List.length e
          rw [List.length_take, List.length_nil] at this
          omega
      have hL : (shwQ (l.take (k + 1))).length ≤ 1000000 := Nat.le_trans (shwQ_le l (k + 1)) hs
      rw [hT] at hL
      have HT := hide hT
      have HB := hide hB
      have hlt : w.heap.size < wr.heap.size := hB.elim (·.lt) (·.lt)
      clear hc HR hb hT hB
      generalize l.getD k ([], []) = p at *
      generalize shwQ (l.take k) = L at *
      have hst0 : (wr.alloc (.cells #[S p.1, S p.2] 25)).heap[wr.heap.size]? = some (.cells #[S p.1, S p.2] 25 (0, 0)) := heap_alloc_new wr _
      have hba : Below w.heap.size w (wr.alloc (.cells #[S p.1, S p.2] 25)) := hbr.trans (Below.mono (Ext.alloc wr _) hbr.size)
      have HBa := hide (bf_ext (unhide HB) (Ext.alloc wr (.cells #[S p.1, S p.2] 25)))
      have KEY0 : Hid (∀ w', Lib.BuilderAtF 43 5 w.heap.size w.heap.size (.pointer (some ⟨w.heap.size, 0, none⟩)) (Lib.byteCells (L ++ (if k = 0 then [] else [38]) ++ shw1 p)) w' → Below w.heap.size w w' →
          (∃ k' : Nat, k' ≤ l.length ∧ Value.int .i64 ((k : Int) + 1) = .int .i64 (k' : Int) ∧ Lib.IsBuilderF 43 5 w.heap.size w.heap.size (Lib.byteCells (shwQ (l.take k'))) w' ∧ Below w.heap.size w w') ∧ l.length - ((k : Int) + 1).toNat < l.length - k) := fun w' hb' hx' =>
        ⟨⟨k + 1, by omega, by simp, by rw [unhide HT]; exact Or.inr hb', hx'⟩, by omega⟩
      clear HB HT hbr
      have he1 : Hid (shw1 p = Pct.encd 6 p.1 ++ 61 :: Pct.encd 6 p.2) := rfl
      rcases Nat.eq_zero_or_pos k with hk0 | hk0
      · have hk0' : ¬ (0 : Int) < (k : Int) := by omega
        have KEY : Hid (∀ w', Lib.BuilderAtF 43 5 w.heap.size w.heap.size (.pointer (some ⟨w.heap.size, 0, none⟩)) (Lib.byteCells (L ++ Pct.encd 6 p.1 ++ [61] ++ Pct.encd 6 p.2)) w' → Below w.heap.size w w' →
            (∃ k' : Nat, k' ≤ l.length ∧ Value.int .i64 ((k : Int) + 1) = .int .i64 (k' : Int) ∧ Lib.IsBuilderF 43 5 w.heap.size w.heap.size (Lib.byteCells (shwQ (l.take k'))) w' ∧ Below w.heap.size w w') ∧ l.length - ((k : Int) + 1).toNat < l.length - k) := fun w' hb' hx' =>
          unhide KEY0 w' (by rw [if_pos hk0, unhide he1, show L ++ [] ++ (Pct.encd 6 p.1 ++ 61 :: Pct.encd 6 p.2) = L ++ Pct.encd 6 p.1 ++ [61] ++ Pct.encd 6 p.2 by simp]; exact hb') hx'
        rw [unhide he1] at hL
        simp only [List.length_append, List.length_cons] at hL
        have hLn : L.length + (Pct.encd 6 p.1).length + (Pct.encd 6 p.2).length + 1 ≤ 1000000 := by omega
        have hst := hst0
        have hbz := hba
        have HBz := HBa
        clear KEY0 hL he1 hk0 hst0 hba HBa
        have HBz := HBz
        have cz0 := cell_of (i := 0) hst rfl
        have hs2 := hide hst
        have HE := hide (written_any p.1 (wr.alloc (.cells #[S p.1, S p.2] 25)) hp1)
        have b2 : Hid (Below w.heap.size w (wr.alloc (.cells #[S p.1, S p.2] 25))) := hbz
        clear hst hbz
        generalize Pct.encd 6 p.1 = E1 at *
        go_wp2_with fail
        refine (unhide HE).mono ?_
        rintro e w3 ⟨rfl, hx3⟩
        clear HE cz0
        have hs3 := hide ((hx3.block _ (Array.getElem?_eq_some_iff.1 (unhide hs2)).1).trans (unhide hs2))
        have b3 : Hid (Below w.heap.size w w3) := (unhide b2).trans (Below.mono hx3 (unhide b2).size)
        have W1 := hide (bwrite w.heap.size w.heap.size (Lib.byteCells (L)) ⟨E1.toArray⟩ w3 (bf_ext (unhide HBz) hx3) (by rw [Lib.byteCells_length, size_S]; omega) (unhide b3).size)
        clear hx3 HBz hs2 b2
        go_wp2_with fail
        refine (unhide W1).mono ?_
        rintro e w4 ⟨rfl, h4, b4, k4⟩
        clear W1
        rw [Lib.strCells_eq, ← Lib.byteCells_append] at h4
        have hs4 := hide (k4 _ _ (unhide hs3) (by simp; omega) (fun c fz e => by simp at e))
        have b4' : Hid (Below w.heap.size w w4) := (unhide b3).trans b4
        have W2 := hide (bwrite w.heap.size w.heap.size (Lib.byteCells (L ++ E1)) ⟨#[61]⟩ w4 (Or.inr h4) (by rw [Lib.byteCells_length, List.length_append]; show _ + 1 ≤ _; omega) (unhide b4').size)
        clear h4 b4 k4 hs3 b3
        go_wp2_with fail
        refine (unhide W2).mono ?_
        rintro e w5 ⟨rfl, h5, b5, k5⟩
        clear W2
        rw [Lib.strCells_eq, ← Lib.byteCells_append] at h5
        have hs5 := k5 _ _ (unhide hs4) (by simp; omega) (fun c fz e => by simp at e)
        have b5' : Hid (Below w.heap.size w w5) := (unhide b4').trans b5
        have HB5 : Hid (Lib.IsBuilderF 43 5 w.heap.size w.heap.size (Lib.byteCells (L ++ E1 ++ [61])) w5) := Or.inr h5
        have c51 := cell_of (i := 1) hs5 rfl
        have HE := hide (written_any p.2 w5 hp2)
        clear hs5 h5 b5 k5 hs4 b4'
        generalize Pct.encd 6 p.2 = E2 at *
        go_wp2_with fail
        refine (unhide HE).mono ?_
        rintro e w7 ⟨rfl, hx7⟩
        clear HE c51
        have b7 : Hid (Below w.heap.size w w7) := (unhide b5').trans (Below.mono hx7 (unhide b5').size)
        have W3 := hide (bwrite w.heap.size w.heap.size (Lib.byteCells (L ++ E1 ++ [61])) ⟨E2.toArray⟩ w7 (bf_ext (unhide HB5) hx7) (by rw [Lib.byteCells_length, size_S, List.length_append, List.length_append, List.length_singleton]; omega) (unhide b7).size)
        clear hx7 HB5 b5'
        go_wp2_with fail
        refine (unhide W3).mono ?_
        rintro e w8 ⟨rfl, h8, b8, _⟩
        clear W3
        rw [Lib.strCells_eq, ← Lib.byteCells_append] at h8
        have kk := hide (unhide KEY w8 h8 ((unhide b7).trans b8))
        clear h8 b8 b7 KEY
        go_wp2
        exact unhide kk
      · have hk0' : (0 : Int) < (k : Int) := by omega
        have KEY : Hid (∀ w', Lib.BuilderAtF 43 5 w.heap.size w.heap.size (.pointer (some ⟨w.heap.size, 0, none⟩)) (Lib.byteCells (L ++ [38] ++ Pct.encd 6 p.1 ++ [61] ++ Pct.encd 6 p.2)) w' → Below w.heap.size w w' →
            (∃ k' : Nat, k' ≤ l.length ∧ Value.int .i64 ((k : Int) + 1) = .int .i64 (k' : Int) ∧ Lib.IsBuilderF 43 5 w.heap.size w.heap.size (Lib.byteCells (shwQ (l.take k'))) w' ∧ Below w.heap.size w w') ∧ l.length - ((k : Int) + 1).toNat < l.length - k) := fun w' hb' hx' =>
          unhide KEY0 w' (by rw [if_neg (by omega), unhide he1, show L ++ [38] ++ (Pct.encd 6 p.1 ++ 61 :: Pct.encd 6 p.2) = L ++ [38] ++ Pct.encd 6 p.1 ++ [61] ++ Pct.encd 6 p.2 by simp]; exact hb') hx'
        rw [unhide he1, if_neg (by omega)] at hL
        simp only [List.length_append, List.length_cons, List.length_nil] at hL
        have hW0 := hide (bwrite w.heap.size w.heap.size (Lib.byteCells L) ⟨#[38]⟩ (wr.alloc (.cells #[S p.1, S p.2] 25)) (unhide HBa) (by rw [Lib.byteCells_length]; show L.length + 1 ≤ _; omega) hba.size)
        have hLn : L.length + 1 + (Pct.encd 6 p.1).length + (Pct.encd 6 p.2).length + 1 ≤ 1000000 := by omega
        clear KEY0 hL he1 hk0 HBa
        go_wp2_with fail
        refine (unhide hW0).mono ?_
        rintro e wz ⟨rfl, hz, bz, kz⟩
        clear hW0
        rw [Lib.strCells_eq, ← Lib.byteCells_append] at hz
        have hst := kz _ _ hst0 (by simp; omega) (fun c fz e => by simp at e)
        have hbz := hba.trans bz
        have HBz : Hid (Lib.IsBuilderF 43 5 w.heap.size w.heap.size (Lib.byteCells (L ++ [38])) wz) := Or.inr hz
        have hL1 : (L ++ [38]).length = L.length + 1 := by simp
        clear hst0 hba hz bz kz c0 c1
        generalize L ++ [38] = L1 at *
        have HBz := HBz
        have cz0 := cell_of (i := 0) hst rfl
        have hs2 := hide hst
        have HE := hide (written_any p.1 wz hp1)
        have b2 : Hid (Below w.heap.size w wz) := hbz
        clear hst hbz
        generalize Pct.encd 6 p.1 = E1 at *
        go_wp2_with fail
        refine (unhide HE).mono ?_
        rintro e w3 ⟨rfl, hx3⟩
        clear HE cz0
        have hs3 := hide ((hx3.block _ (Array.getElem?_eq_some_iff.1 (unhide hs2)).1).trans (unhide hs2))
        have b3 : Hid (Below w.heap.size w w3) := (unhide b2).trans (Below.mono hx3 (unhide b2).size)
        have W1 := hide (bwrite w.heap.size w.heap.size (Lib.byteCells (L1)) ⟨E1.toArray⟩ w3 (bf_ext (unhide HBz) hx3) (by rw [Lib.byteCells_length, size_S]; omega) (unhide b3).size)
        clear hx3 HBz hs2 b2
        go_wp2_with fail
        refine (unhide W1).mono ?_
        rintro e w4 ⟨rfl, h4, b4, k4⟩
        clear W1
        rw [Lib.strCells_eq, ← Lib.byteCells_append] at h4
        have hs4 := hide (k4 _ _ (unhide hs3) (by simp; omega) (fun c fz e => by simp at e))
        have b4' : Hid (Below w.heap.size w w4) := (unhide b3).trans b4
        have W2 := hide (bwrite w.heap.size w.heap.size (Lib.byteCells (L1 ++ E1)) ⟨#[61]⟩ w4 (Or.inr h4) (by rw [Lib.byteCells_length, List.length_append]; show _ + 1 ≤ _; omega) (unhide b4').size)
        clear h4 b4 k4 hs3 b3
        go_wp2_with fail
        refine (unhide W2).mono ?_
        rintro e w5 ⟨rfl, h5, b5, k5⟩
        clear W2
        rw [Lib.strCells_eq, ← Lib.byteCells_append] at h5
        have hs5 := k5 _ _ (unhide hs4) (by simp; omega) (fun c fz e => by simp at e)
        have b5' : Hid (Below w.heap.size w w5) := (unhide b4').trans b5
        have HB5 : Hid (Lib.IsBuilderF 43 5 w.heap.size w.heap.size (Lib.byteCells (L1 ++ E1 ++ [61])) w5) := Or.inr h5
        have c51 := cell_of (i := 1) hs5 rfl
        have HE := hide (written_any p.2 w5 hp2)
        clear hs5 h5 b5 k5 hs4 b4'
        generalize Pct.encd 6 p.2 = E2 at *
        go_wp2_with fail
        refine (unhide HE).mono ?_
        rintro e w7 ⟨rfl, hx7⟩
        clear HE c51
        have b7 : Hid (Below w.heap.size w w7) := (unhide b5').trans (Below.mono hx7 (unhide b5').size)
        have W3 := hide (bwrite w.heap.size w.heap.size (Lib.byteCells (L1 ++ E1 ++ [61])) ⟨E2.toArray⟩ w7 (bf_ext (unhide HB5) hx7) (by rw [Lib.byteCells_length, size_S, List.length_append, List.length_append, List.length_singleton]; omega) (unhide b7).size)
        clear hx7 HB5 b5'
        go_wp2_with fail
        refine (unhide W3).mono ?_
        rintro e w8 ⟨rfl, h8, b8, _⟩
        clear W3
        rw [Lib.strCells_eq, ← Lib.byteCells_append] at h8
        have kk := hide (unhide KEY w8 h8 ((unhide b7).trans b8))
        clear h8 b8 b7 KEY
        go_wp2
        exact unhide kk
    · have hk2 : k = l.length := by omega
      subst hk2
      rw [List.take_length] at hB
      have HS := hide (Tryd.Builder_String_any_k w.heap.size w.heap.size (shwQ l) wr hB hbr.size)
      have hbr' := hbr
      clear hB HR
      obtain ⟨R, hR⟩ : ∃ R, R = shwQ l := ⟨_, rfl⟩
      rw [← hR] at HS
      go_wp2_with fail
      refine (unhide HS).mono ?_
      rintro e w1 ⟨rfl, _, b1, _⟩
      clear HS
      have FF : Hid (Ext w w1) := hbr'.trans b1
      clear hbr hbr' b1
      go_wp2
      go_ret
      exact ⟨by rw [← hR]; rfl, unhide FF⟩
end Go.Proofs.YtilmkmplaehcaaaDoor
