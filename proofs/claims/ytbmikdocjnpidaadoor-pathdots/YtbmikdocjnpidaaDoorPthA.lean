/-
  What path stands on: the Builder's writing, []byte(s), texts cut at a sign, the other stroke as the one, texts cloned; and path's dots.
-/
import Derived.Test.YtbmikdocjnpidaaDoorPthP
import Derived.Test.YtbmikdocjnpidaaDoorCut
import Derived.Test.YtbmikdocjnpidaaDoorShelf
import Derived.Laws.IdiomStrings
import Derived.Lib.ReplaceLaws
import Derived.Lib.Replace
namespace Go.Proofs.YtbmikdocjnpidaaDoor
set_option linter.unusedVariables false
open Go.RowKit Go.Shelf

theorem bwrite (B b : Nat) (bs : List Value) (s : ByteArray) (w : World) (h : Lib.IsBuilderF 45 5 B b bs w) (hlen : bs.length + s.size ≤ 140737488355328) (hBw : B ≤ w.heap.size) :
    Calls Tryd.prog 26 #[.pointer (some ⟨b, 0, none⟩), .string s] w fun e w' => e = .returned (.tuple #[.int .i64 s.size, .nilIface]) ∧ (Lib.BuilderAtF 45 5 B b (.pointer (some ⟨b, 0, none⟩)) (bs ++ Lib.strCells s) w' ∧ Below B w w' ∧ Lib.OthersKept 5 (some b) w w') :=
  Any.Builder_WriteString_k { Tryd.lays155 with } Tryd.Builder_Extra_155 B b bs s w h hlen hBw

/-- []byte(s). -/
theorem conv_bytes (w : World) (bs : List UInt8) (hm : bs.length ≤ 1000000) : ∃ c w', (convert 9 40 (S bs)).run Tryd.prog w = .ok (.slice (some ⟨w.heap.size, 0, none⟩) bs.length c) w' ∧ RdV w' (some ⟨w.heap.size, 0, none⟩) c (bs.map B) ∧ Ext w w' ∧ ∀ i, i < bs.length → w'.frozen? ⟨w.heap.size, i, none⟩ = false := by
  have hr := run_bytes_of_string (P := Tryd.prog) w 9 40 5 ⟨bs.toArray⟩ Tryd.underlying9 Tryd.underlying40 Tryd.underlying5
  have hsz : (⟨bs.toArray⟩ : ByteArray).size = bs.length := by simp [ByteArray.size]
  rw [hsz] at hr
  have hle := grownCap_ge w bs.length 0 5
  have hmx := grownCap_le_maxLen w bs.length 0 5 (by unfold maxLen; omega)
  refine ⟨_, _, hr, ⟨by simpa using hle, by unfold maxLen at hmx; omega, fun e => (by cases e), fun i hi => ⟨w.heap.size, 0, rfl, ?_⟩⟩, (Ext.drew w).trans (Ext.alloc w.drew _), fun i hi => ?_⟩
  · have hi' : i < bs.length := by simpa using hi
    rw [Nat.zero_add]
    have e : w.heap.size = w.drew.heap.size := rfl
    rw [e, World.cell?_alloc_mark]
    unfold bytesRow
    rw [Array.getElem?_append_left (by simp; omega)]
    simp [B, hi']
  · have e : w.heap.size = w.drew.heap.size := rfl
    rw [e, World.frozen?_alloc_mark]
    have hs : (bytesRow ⟨bs.toArray⟩ (grownCap w bs.length 0 5)).size = bs.length + (grownCap w bs.length 0 5 - bs.length) := by
      unfold bytesRow
      simp [ByteArray.size]
    rw [hs]
    have : ¬ bs.length + (grownCap w bs.length 0 5 - bs.length) ≤ i := by omega
    simp [this]

/-- One byte is written. -/
theorem RdV.put {w : World} {g c : Nat} {ts : List UInt8} (h : RdV w (some ⟨g, 0, none⟩) c (ts.map B)) (i : Nat) (hi : i < ts.length) (x : UInt8) : RdV (w.setCell ⟨g, i, none⟩ (B x)) (some ⟨g, 0, none⟩) c ((ts.set i x).map B) := by
  have hle := h.le
  rw [List.length_map] at hle
  refine ⟨by simpa using hle, h.max, fun e => (by cases e), fun j hj => ⟨g, 0, rfl, ?_⟩⟩
  have hj' : j < ts.length := by simpa using hj
  obtain ⟨b, off, e, hc⟩ := h.cell j (by simpa using hj')
  simp only [Option.some.injEq, Addr.mk.injEq] at e
  obtain ⟨rfl, rfl, _⟩ := e
  rw [Nat.zero_add] at *
  rw [List.map_set, List.getElem?_set]
  by_cases e : i = j
  · subst e
    rw [if_pos rfl]
    have := getB ts i hj'
    rw [this] at hc
    rw [World.cell?_setCell_same w _ _ hc]
    simp [hj']
  · rw [if_neg e, World.cell?_setCell_other w _ _ _ (by intro e2; simp only [Addr.mk.injEq] at e2; exact e e2.2.1), hc]

/-- Some int lies in the library's own variable. -/
def MaxL (w : World) : Prop := ∃ m : Int, w.cell? ⟨0, 0, none⟩ = some (.int .i64 m)
theorem MaxL.below {w w' : World} (h : MaxL w) (hx : Ext w w') : MaxL w' := by
  obtain ⟨m, hm⟩ := h
  exact ⟨m, (hx.cell (p := ⟨0, 0, none⟩) (cell_lt hm)).trans hm⟩

theorem clone_any (s : List UInt8) (w : World) (hs : s.length ≤ 2000000) : Calls Tryd.prog 29 #[S s] w fun e w' => e = .returned (S s) ∧ Ext w w' := by
  have HC : Hid (Calls Tryd.prog 39 #[S s] w fun e w' => e = .returned (S s) ∧ Below w.heap.size w w') := Tryd.stringslite_Clone ⟨s.toArray⟩ w (by rw [size_S]; omega)
  go_enter Tryd.func29, Tryd.ntmps29
  go_wp2_with fail
  refine (unhide HC).mono ?_
  rintro e w2 ⟨rfl, hx⟩
  clear HC
  go_wp2
  go_ret
  exact ⟨rfl, hx⟩

/-- What strings.Cut tells, at a stroke. -/
theorem cut_any (s : List UInt8) (w : World) (hs : s.length ≤ 1000000) (hM : MaxL w) :
    Calls Tryd.prog 20 #[S s, .string ⟨#[47]⟩] w fun e w' => ∃ (x r : List UInt8) (more : Bool), e = .returned (.tuple #[S x, S r, .bool more]) ∧ (∃ n, w' = w.drewN n) ∧
      x.length ≤ s.length ∧ r.length ≤ s.length ∧ ((more = false ∧ pcs 47 s = [x]) ∨ (more = true ∧ pcs 47 s = x :: pcs 47 r ∧ r.length < s.length)) := by
  obtain ⟨m, hm⟩ := hM
  refine (Tryd.strings_Cut ⟨s.toArray⟩ ⟨#[47]⟩ m w (by rw [size_S]; omega) hm).mono ?_
  rintro e w' ⟨rfl, hw⟩
  refine ⟨_, _, _, rfl, hw, ?_⟩
  have e0 : Lib.index s [47] = Lib.indexByte s 47 := Lib.index_one s 47
  have hg := Lib.indexByte_ge s 47
  have hl := Lib.index_le s [47]
  show (Lib.cut s [47]).1.length ≤ s.length ∧ (Lib.cut s [47]).2.1.length ≤ s.length ∧ (((Lib.cut s [47]).2.2 = false ∧ pcs 47 s = [(Lib.cut s [47]).1]) ∨ ((Lib.cut s [47]).2.2 = true ∧ pcs 47 s = (Lib.cut s [47]).1 :: pcs 47 (Lib.cut s [47]).2.1 ∧ (Lib.cut s [47]).2.1.length < s.length))
  unfold Lib.cut
  by_cases h : Lib.indexByte s 47 = -1
  · rw [e0, h, if_neg (by omega)]
    exact ⟨Nat.le_refl _, Nat.zero_le _, .inl ⟨rfl, pcs_miss 47 s h⟩⟩
  · obtain ⟨i, hi⟩ : ∃ i : Nat, Lib.indexByte s 47 = i := ⟨(Lib.indexByte s 47).toNat, by omega⟩
    have hlt := (List.getElem?_eq_some_iff.1 (Lib.indexByte_some hi).1).1
    rw [e0, hi, if_pos (by omega)]
    simp only [Int.toNat_natCast, List.length_singleton]
    exact ⟨by rw [List.length_take]; omega, by rw [List.length_drop]; omega, .inr ⟨trivial, pcs_hit 47 s i hi, by rw [List.length_drop]; omega⟩⟩

theorem repl_k : ∀ (k : Nat) (s : List UInt8), Lib.count s [92] = k → Lib.replaceK [92] [47] k s = swp true s
  | 0, s, h => by
    rw [Lib.replaceK, swp_same true s fun _ x hx => ?_]
    rintro rfl
    by_cases hm : Lib.indexByte s 92 = -1
    · obtain ⟨k, hk⟩ := List.getElem?_of_mem hx
      exact Lib.indexByte_none hm k hk
    · have hg := Lib.indexByte_ge s 92
      obtain ⟨i, hi⟩ : ∃ i : Nat, Lib.indexByte s 92 = i := ⟨(Lib.indexByte s 92).toNat, by omega⟩
      have := Lib.count_hit (s := s) (sub := [92]) (i := i) (by simp) (by rw [Lib.index_one]; exact hi)
      omega
  | k + 1, s, h => by
    have hg := Lib.indexByte_ge s 92
    by_cases hm : Lib.indexByte s 92 = -1
    · have := Lib.count_miss (s := s) (sub := [92]) (by rw [Lib.index_one]; exact hm)
      omega
    · obtain ⟨i, hi⟩ : ∃ i : Nat, Lib.indexByte s 92 = i := ⟨(Lib.indexByte s 92).toNat, by omega⟩
      have hc := Lib.count_hit (s := s) (sub := [92]) (i := i) (by simp) (by rw [Lib.index_one]; exact hi)
      rw [Lib.replaceK_hit _ _ k s i (by rw [Lib.index_one]; exact hi)]
      simp only [List.length_singleton] at hc ⊢
      rw [repl_k k _ (by omega)]
      obtain ⟨hx, hn⟩ := Lib.indexByte_some hi
      have hlt := (List.getElem?_eq_some_iff.1 hx).1
      have e : s = s.take i ++ 92 :: s.drop (i + 1) := by
        have e1 := List.take_append_drop i s
        have e2 : s.drop i = 92 :: s.drop (i + 1) := by
          rw [List.drop_eq_getElem_cons hlt]
          congr 1
          have := List.getElem?_eq_getElem hlt
          rw [hx] at this
          exact (Option.some.inj this).symm
        rw [e2] at e1
        exact e1.symm
      have ht : swp true (s.take i) = s.take i := swp_same true _ fun _ x hx2 => by
        rintro rfl
        obtain ⟨j, hj⟩ := List.getElem?_of_mem hx2
        rw [List.getElem?_take] at hj
        split at hj
        · exact hn j (by assumption) hj
        · cases hj
      conv => rhs; rw [e]
      rw [show s.take i ++ 92 :: s.drop (i + 1) = s.take i ++ ([92] ++ s.drop (i + 1)) by simp, swp_app, swp_app, ht]
      simp [show swp true [92] = [47] by decide]
theorem repl_any (s : List UInt8) (w : World) (hs : s.length ≤ 1000000) (hM : MaxL w) :
    Calls Tryd.prog 18 #[S s, .string ⟨#[92]⟩, .string ⟨#[47]⟩] w fun e w' => e = .returned (S (swp true s)) ∧ Ext w w' := by
  obtain ⟨m, hm⟩ := hM
  have hc : Lib.countB ⟨s.toArray⟩ ⟨#[92]⟩ ≤ s.length := by
    have := Lib.countB_mul_le ⟨#[92]⟩ (by decide) s.length ⟨s.toArray⟩ (by rw [size_S]; omega)
    have e1 : (⟨#[92]⟩ : ByteArray).size = 1 := rfl
    have e2 := size_S s
    rw [e1, e2] at this
    omega
  refine (Tryd.strings_ReplaceAll ⟨s.toArray⟩ ⟨#[92]⟩ ⟨#[47]⟩ m w (by rw [size_S]; omega) hm (by decide) (by have e1 : (⟨#[47]⟩ : ByteArray).size = 1 := rfl; have e2 := size_S s; rw [e1, e2]; omega)).mono ?_
  rintro e w' ⟨rfl, hx⟩
  refine ⟨?_, hx⟩
  have : Lib.replaceAll s [92] [47] = swp true s := by
    unfold Lib.replaceAll Lib.replace Lib.replaceNum
    rw [if_neg (by decide), if_pos (by omega)]
    exact repl_k _ s rfl
  show Ending.returned (S (Lib.replaceAll s [92] [47])) = _
  rw [this]

theorem front_eq (s : List UInt8) : front s = if Lib.hasPrefix s [46] then some (Lib.trimPrefix s [46]) else if Lib.hasPrefix s [37, 50, 101] then some (Lib.trimPrefix s [37, 50, 101]) else if Lib.hasPrefix s [37, 50, 69] then some (Lib.trimPrefix s [37, 50, 69]) else none := by
  unfold front Lib.trimPrefix Lib.hasPrefix
  split
  · rfl
  · split
    · rfl
    · split <;> rfl
theorem front_hit (s : List UInt8) (k : Nat) (hk : k < 3) (h : Lib.hasPrefix s (ones.getD k []) = true) (hn : ∀ j < k, Lib.hasPrefix s (ones.getD j []) = false) : front s = some (Lib.trimPrefix s (ones.getD k [])) := by
  rw [front_eq]
  match k, hk with
  | 0, _ => exact if_pos h
  | 1, _ =>
    have h0 : Lib.hasPrefix s [46] = false := hn 0 (by omega)
    rw [h0]
    exact if_pos h
  | 2, _ =>
    have h0 : Lib.hasPrefix s [46] = false := hn 0 (by omega)
    have h1 : Lib.hasPrefix s [37, 50, 101] = false := hn 1 (by omega)
    rw [h0, h1]
    exact if_pos h
theorem front_miss (s : List UInt8) (hn : ∀ j < 3, Lib.hasPrefix s (ones.getD j []) = false) : front s = none := by
  have h0 : Lib.hasPrefix s [46] = false := hn 0 (by omega)
  have h1 : Lib.hasPrefix s [37, 50, 101] = false := hn 1 (by omega)
  have h2 : Lib.hasPrefix s [37, 50, 69] = false := hn 2 (by omega)
  rw [front_eq, h0, h1, h2]
  rfl

theorem cutf_any (s : List UInt8) (g off cap : Nat) (w : World) (h : RdV w (some ⟨g, off, none⟩) cap (ones.map S)) :
    Calls Tryd.prog 22 #[S s, .slice (some ⟨g, off, none⟩) 3 cap] w fun e w' => e = .returned (.tuple #[S ((front s).getD []), .bool (front s).isSome]) ∧ Ext w w' := by
  have hle := h.le
  have hmx := h.max
  simp only [List.length_map, show ones.length = 3 from rfl] at hle
  have hc : ∀ i, i < 3 → w.cell? ⟨g, off + i, none⟩ = some (S (ones.getD i [])) := fun i hi => by
    obtain ⟨b', off', eb, hc⟩ := h.cell i (by simpa [ones] using hi)
    simp only [Option.some.injEq, Addr.mk.injEq] at eb
    obtain ⟨rfl, rfl, _⟩ := eb
    rw [hc]
    simp [List.getD, show i < ones.length from hi]
  clear h
  have HCP := hide (fun (o : List UInt8) (v : World) => Tryd.strings_CutPrefix ⟨s.toArray⟩ ⟨o.toArray⟩ v)
  go_enter Tryd.func22, Tryd.ntmps22
  go_wp2
  go_loopw [12] (fun i wr => ∃ k : Nat, k ≤ 3 ∧ i = .int .i64 k ∧ (∃ n, wr = w.drewN n) ∧ ∀ j < k, Lib.hasPrefix s (ones.getD j []) = false) (fun i _ => 3 - (intOf i).toNat)
  case atStart => exact ⟨0, Nat.zero_le _, rfl, ⟨0, rfl⟩, fun j hj => absurd hj (by omega)⟩
  case round =>
    obtain ⟨k, hk, rfl, ⟨n, rfl⟩, hn⟩ := hrel
    by_cases hkl : k < 3
    · have c1 := hc k hkl
      have i2 : (k : Int) < 3 := by omega
      have FH := front_hit s k hkl
      have NX : Lib.hasPrefix s (ones.getD k []) = false → ∀ j < k + 1, Lib.hasPrefix s (ones.getD j []) = false := fun h0 j hj => by
        rcases Nat.lt_succ_iff_lt_or_eq.1 hj with h1 | rfl
        · exact hn j h1
        · exact h0
      have HK : Hid (∀ v : World, Calls Tryd.prog 32 #[S s, S (ones.getD k [])] v fun e w' => e = .returned (.tuple #[S (Lib.trimPrefix s (ones.getD k [])), .bool (Lib.hasPrefix s (ones.getD k []))]) ∧ w' = v) := unhide HCP (ones.getD k [])
      clear hc HCP
      generalize ones.getD k [] = o at *
      generalize Lib.trimPrefix s o = tr at *
      generalize Lib.hasPrefix s o = hp at *
      go_wp2_with fail
      refine (unhide HK _).mono ?_
      rintro e w2 ⟨rfl, hw⟩
      subst hw
      clear HK
      cases hp with
      | true =>
        have e1 := FH rfl hn
        clear hn FH NX
        go_wp2
        go_ret2
        exact ⟨by rw [e1]; rfl, Ext.drewN _ _⟩
      | false =>
        have NX2 := hide (NX rfl)
        clear NX FH hn
        go_wp2
        go_roundw
        case rel => exact ⟨k + 1, by omega, by go_num, ⟨_, rfl⟩, unhide NX2⟩
        case measure => simp [intOf]; omega
    · have hk3 : k = 3 := by omega
      subst hk3
      have e1 := front_miss s hn
      clear hn HCP
      go_wp2
      go_ret2
      exact ⟨by rw [e1]; rfl, Ext.drewN _ _⟩

theorem sing_any (s : List UInt8) (w : World) : Calls Tryd.prog 10 #[S s] w fun e w' => e = .returned (.bool (sing s)) ∧ Ext w w' := by
  have HC : Hid (Calls Tryd.prog 22 #[S s, .slice (some ⟨w.heap.size, 0, none⟩) 3 3] (w.alloc (.cells #[.string ⟨#[46]⟩, .string ⟨#[37, 50, 101]⟩, .string ⟨#[37, 50, 69]⟩] 9 (0, 0))) fun e w' => e = .returned (.tuple #[S ((front s).getD []), .bool (front s).isSome]) ∧ Ext w w') :=
    (cutf_any s w.heap.size 0 3 _ (RdV.lit w (ones.map S) 9 (0, 0) (by simp [ones]))).mono fun e w' ⟨he, hx⟩ => ⟨he, (Ext.alloc w _).trans hx⟩
  have e1 : sing s = (front s == some []) := rfl
  generalize sing s = sb at *
  generalize front s = fr at *
  go_enter Tryd.func10, Tryd.ntmps10
  go_wp2_with fail
  refine (unhide HC).mono ?_
  rintro e w2 ⟨rfl, hx⟩
  clear HC
  cases fr with
  | none =>
    go_wp2
    go_ret
    exact ⟨by rw [e1]; rfl, hx⟩
  | some r =>
    go_wp2
    go_ret
    refine ⟨?_, hx⟩
    rw [e1]
    show Ending.returned (.bool r.isEmpty) = _
    cases r <;> rfl

theorem doub_any (s : List UInt8) (w : World) : Calls Tryd.prog 12 #[S s] w fun e w' => e = .returned (.bool (doub s)) ∧ Ext w w' := by
  have HC : Hid (Calls Tryd.prog 22 #[S s, .slice (some ⟨w.heap.size, 0, none⟩) 3 3] (w.alloc (.cells #[.string ⟨#[46]⟩, .string ⟨#[37, 50, 101]⟩, .string ⟨#[37, 50, 69]⟩] 9 (0, 0))) fun e w' => e = .returned (.tuple #[S ((front s).getD []), .bool (front s).isSome]) ∧ Ext w w') :=
    (cutf_any s w.heap.size 0 3 _ (RdV.lit w (ones.map S) 9 (0, 0) (by simp [ones]))).mono fun e w' ⟨he, hx⟩ => ⟨he, (Ext.alloc w _).trans hx⟩
  have e1 : doub s = match front s with
    | some r => sing r
    | none => false := rfl
  generalize doub s = sb at *
  generalize front s = fr at *
  go_enter Tryd.func12, Tryd.ntmps12
  go_wp2_with fail
  refine (unhide HC).mono ?_
  rintro e w2 ⟨rfl, hx⟩
  clear HC
  cases fr with
  | none =>
    go_wp2
    go_ret
    exact ⟨by rw [e1]; rfl, hx⟩
  | some r =>
    have HS := hide (sing_any r w2)
    have e2 : sb = sing r := e1
    clear e1
    generalize sing r = q at *
    go_wp2_with fail
    refine (unhide HS).mono ?_
    rintro e w3 ⟨rfl, hx3⟩
    clear HS
    go_wp2
    go_ret
    exact ⟨by rw [e2]; rfl, hx.trans hx3⟩
end Go.Proofs.YtbmikdocjnpidaaDoor
