/-
  I6V, I6H, I6I, I6J.
-/
import Derived.Test.YtenlampiiodkhaaGreatDoorBWc
import Derived.Test.YtenlampiiodkhaaGreatDoorBNc
namespace Go.Proofs.YtenlampiiodkhaaGreatDoor
set_option linter.unusedVariables false
open Go.RowKit
theorem and15 (x : Nat) (h : x < 65536) : bits .and .u64 (x : Int) 15 = ((x % 16 : Nat) : Int) := by
  have e := u64_and_nat x (2 ^ 4 - 1) (by omega) (by decide); rw [Nat.and_two_pow_sub_one_eq_mod] at e; exact e
set_option maxHeartbeats 4000000 in
set_option maxRecDepth 100000 in
theorem tz16 (w : World) (tb : Tb8 w) : Calls Tryz.prog 190 #[.int .u64 16] w fun e w' => e = .returned (.int .i64 4) ∧ w' = w := by
  have c0 := tb.tz; have b1 : bits .and .u64 16 18446744073709551600 = 16 := by decide +kernel
  have b2 : IntKind.u64.wrap (-16) = 18446744073709551600 := by decide +kernel
  have b3 : IntKind.u64.wrap 4573923408821661840 = 4573923408821661840 := by decide +kernel
  go_enter Tryz.func190, Tryz.ntmps190; go_wp2; go_ret; exact ⟨rfl, rfl⟩
theorem pw16 (w : World) : Calls Tryz.prog 189 #[.int .i64 16] w fun e w' => e = .returned (.bool true) ∧ w' = w := by
  have b1 : bits .and .i64 16 15 = 0 := by decide +kernel
  go_enter Tryz.func189, Tryz.ntmps189; go_wp2; go_ret; exact ⟨rfl, rfl⟩
theorem arr65_len : Tryz.prog.arrayLen 192 = 65 := by kernel_rfl
theorem arr65_elem : Tryz.prog.elem 192 = 5 := by kernel_rfl
theorem arr65_und : Tryz.prog.underlying 192 = some (TypeDesc.array (Tryz.prog.arrayLen 192) (Tryz.prog.elem 192)) := by kernel_rfl
theorem arr65_size (w : World) : (sizeOf (Tryz.prog.elem 192)).run Tryz.prog w = .ok 1 w := by
  rw [arr65_elem]
  kernel_rfl
theorem arr65_from (w : World) (b n : Nat) (hn : n < 65) : (Instr.sliceAt 192 (.pointer (some ⟨b, 0, none⟩)) (some (.int .i64 (n : Int))) none none).run Tryz.prog w = .ok (.slice (some ⟨b, n, none⟩) (65 - n) (65 - n)) w := by
  rw [run_sliceAt_array_l w _ _ arr65_und .i64 (n : Int) (by omega) (by rw [arr65_len]; omega), arr65_size, arr65_len]; show Result.ok (slicedAt ⟨b, 0, none⟩ (n : Int).toNat 65 65 1) w = _; unfold slicedAt; rw [Int.toNat_natCast, if_neg (by omega), Nat.mul_one, Addr.add_lit, Nat.zero_add]
def digL : List UInt8 := [48, 49, 50, 51, 52, 53, 54, 55, 56, 57, 97, 98, 99, 100, 101, 102, 103, 104, 105, 106, 107, 108, 109, 110, 111, 112, 113, 114, 115, 116, 117, 118, 119, 120, 121, 122]
theorem digL_at : ∀ d : Fin 16, digL.getD d.val 0 = hexd d.val := by decide +kernel
theorem dig_index (d : Nat) (hd : d < 16) (w : World) : (Instr.index 9 (.string ⟨#[48, 49, 50, 51, 52, 53, 54, 55, 56, 57, 97, 98, 99, 100, 101, 102, 103, 104, 105, 106, 107, 108, 109, 110, 111, 112, 113, 114, 115, 116, 117, 118, 119, 120, 121, 122]⟩) (.int .u64 (d : Int))).run Tryz.prog w = .ok (B (hexd d)) w := by
  have h := idx_str w digL .u64 d (by show d < 36; omega); rw [digL_at ⟨d, hd⟩] at h; exact h
theorem row_set (j : Nat) (z x : Value) (l : List Value) : (List.replicate (j + 1) z ++ l).toArray.setIfInBounds j x = (List.replicate j z ++ x :: l).toArray := by
  rw [List.setIfInBounds_toArray]; congr 1; rw [List.replicate_succ', List.append_assoc, List.set_append_right j x (by simp)]; simp
def Dg (w : World) (g j : Nat) (acc : List UInt8) : Prop := w.heap[g]? = some (.cells (List.replicate j (B 0) ++ acc.map B).toArray 192 (0, 0))
theorem Dg.put {w : World} {g j : Nat} {acc : List UInt8} (h : Dg w g (j + 1) acc) (x : UInt8) : Dg (w.setCell ⟨g, j, none⟩ (B x)) g j (x :: acc) := by
  unfold Dg; rw [set_heap h, row_set]; rfl
theorem Dg.cell {w : World} {g j : Nat} {acc : List UInt8} (h : Dg w g (j + 1) acc) : w.cell? ⟨g, j, none⟩ = some (B 0) := by
  unfold Dg at h; simp [World.cell?, h, List.getElem?_append_left]
theorem Dg.rd {w : World} {g j : Nat} {acc : List UInt8} (h : Dg w g j acc) (hl : acc.length ≤ 100) : RdV w (some ⟨g, j, none⟩) acc.length (acc.map B) := by
  refine ⟨by rw [List.length_map]; exact Nat.le_refl _, by omega, fun e => (by cases e), fun i hi => ⟨g, j, rfl, ?_⟩⟩; unfold Dg at h; simp [World.cell?, h, List.getElem?_append_right]
theorem Dg.start (w : World) : Dg (w.alloc (.cells Tryz.zeroCells192 192)) w.heap.size 65 [] := by
  unfold Dg; rw [alloc_new]; rfl
set_option maxHeartbeats 4000000 in
set_option maxRecDepth 100000 in
theorem bits_any (B0 n u : Nat) (hu : u < 65536) (sv : Value) (xs : List Value) (w : World) (hown : w.ownsRow B0 5 1 sv n xs) (hBw : B0 ≤ w.heap.size) (hlim : n ≤ 1000) (tb : Tb8 w) :
    Calls Tryz.prog 159 #[sv, .int .u64 (u : Int), .int .i64 16, .bool false, .bool true] w fun e w' => ∃ v', e = .returned (.tuple #[v', .string ⟨#[]⟩]) ∧ w'.ownsRow B0 5 1 v' (n + (bdg 16 u).length) (xs ++ (bdg 16 u).map B) ∧ Below B0 w w' := by
  have HT := hide (fun w' hx => tz16 w' (tb.below hx)); have HP := hide (fun w' => pw16 w'); have ST := hide (And.intro (Dg.start w) (Ext.alloc w (.cells Tryz.zeroCells192 192))); clear tb; go_enter Tryz.func159, Tryz.ntmps159; go_wp2_with fail
  refine (unhide HP _).mono ?_; rintro e w2 ⟨rfl, rfl⟩; clear HP; go_wp2_with fail
  refine (unhide HT _ (Ext.alloc _ _)).mono ?_; rintro e w2 ⟨rfl, rfl⟩; clear HT; go_wp2_with fail
  generalize w.alloc (.cells Tryz.zeroCells192 192) = w1 at *
  go_loopw [1, 13] (fun x i wr => ∃ (m i' : Nat) (acc : List UInt8), x = .int .u64 (m : Int) ∧ i = .int .i64 (i' : Int) ∧ Hid (Wrt 16 u m acc) ∧ i' + acc.length = 65 ∧ m < 65536 ∧ Hid (Dg wr w.heap.size i' acc) ∧ Ext w wr) (fun x _ _ => (intOf x).toNat)
  case atStart => exact ⟨u, 65, [], rfl, rfl, Wrt.start 16 u, rfl, hu, (unhide ST).1, (unhide ST).2⟩
  case round =>
    clear ST; obtain ⟨m, i, acc, rfl, rfl, HW, hil, hm, HD, hx⟩ := hrel; have hlen := (unhide HW).len (by omega); obtain ⟨j, rfl⟩ : ∃ j, i = j + 1 := ⟨i - 1, by omega⟩; have hj : ((j + 1 : Nat) : Int) - 1 = (j : Int) := by omega
    have hj65 : j < 65 := by omega
    have c0 := (unhide HD).cell; have f0 : wr.frozen? ⟨w.heap.size, j, none⟩ = false := froz8 (unhide HD) j; by_cases hm16 : m < 16
    · have hlast := (unhide HW).last (by decide) hm16; rw [Nat.mod_eq_of_lt hm16] at hlast; have HD2 := hide ((unhide HD).put (hexd m)); have hx2 : Ext w (wr.setCell ⟨w.heap.size, j, none⟩ (B (hexd m))) := Below.trans hx (below_set (Nat.le_refl _)); have hm' : ¬ (16 : Int) ≤ (m : Int) := by omega
      have hdi := dig_index m hm16; have hsl := fun v => arr65_from v w.heap.size j hj65; have hcl : (hexd m :: acc).length = 65 - j := by rw [List.length_cons]; omega
      have RD := (unhide HD2).rd (by rw [hcl]; omega); rw [hcl] at RD; have own2 := owns_below hown hx2; have hBs := hx2.size; have FIN : Hid (∀ (v' : Value) (w' : World), w'.ownsRow B0 5 1 v' (n + (65 - j)) (xs ++ (hexd m :: acc).map B) → w'.ownsRow B0 5 1 v' (n + (bdg 16 u).length) (xs ++ (bdg 16 u).map B)) := fun v' w' h => by
        rw [hlast, hcl]; exact h
      have hone : ∀ u ∈ (hexd m :: acc).map B, u.oneCell' = true := one_B _; have hys : ((hexd m :: acc).map B).length = 65 - j := by rw [List.length_map, hcl]
      have HX2 := hide hx2; have hlim2 : (n + (65 - j)) * (1 + 1) ≤ 140737488355328 := by omega
      have hB2 : B0 ≤ (wr.setCell ⟨w.heap.size, j, none⟩ (B (hexd m))).heap.size := by omega
      clear HW hlast hown HD HD2 hx hx2 hcl; generalize (hexd m :: acc).map B = ys at *; go_wp2_with (at_builtin; refine wpList_app rfl (.tmp 95) (.tmp 97) 22 5 (.int .u8 0) 1 Tryz.underlying22 infoB4 rfl rfl B0 _ _ _ rfl own2 (some ⟨w.heap.size, j, none⟩) (65 - j) (65 - j) ys rfl hys RD hone hlim2 hB2 ?_)
      intro v3 w3 o3 b3; have O3 := hide (unhide FIN v3 w3 o3); have B3 := hide ((Below.mono (unhide HX2) hBw).trans b3); clear FIN o3 b3 RD own2; go_wp2; go_ret2; exact ⟨v3, rfl, unhide O3, unhide B3⟩
    · have hm' : (16 : Int) ≤ (m : Int) := by omega
      have HW2 := hide ((unhide HW).next (by decide) hm16); have HD2 := hide ((unhide HD).put (hexd (m % 16))); have hx2 : Ext w (wr.setCell ⟨w.heap.size, j, none⟩ (B (hexd (m % 16)))) := Below.trans hx (below_set (Nat.le_refl _)); have hdi := dig_index (m % 16) (Nat.mod_lt _ (by decide)); have hband := and15 m hm; have KK : Hid ((∃ (m' i' : Nat) (acc' : List UInt8), Value.int .u64 ((m : Int) / 16) = .int .u64 (m' : Int) ∧ Value.int .i64 (j : Int) = .int .i64 (i' : Int) ∧ Hid (Wrt 16 u m' acc') ∧ i' + acc'.length = 65 ∧ m' < 65536 ∧ Hid (Dg (wr.setCell ⟨w.heap.size, j, none⟩ (B (hexd (m % 16)))) w.heap.size i' acc') ∧ Ext w (wr.setCell ⟨w.heap.size, j, none⟩ (B (hexd (m % 16))))) ∧ ((m : Int) / 16).toNat < (m : Int).toNat) :=
        ⟨⟨m / 16, j, hexd (m % 16) :: acc, by simp, rfl, HW2, by rw [List.length_cons]; omega, by omega, HD2, hx2⟩, by omega⟩
      clear HW HW2 HD HD2 hown hx hx2; generalize hexd (m % 16) = hx at *; generalize m % 16 = d at *; go_wp2; exact unhide KK
end Go.Proofs.YtenlampiiodkhaaGreatDoor
namespace Go.Proofs.YtenlampiiodkhaaGreatDoor
set_option linter.unusedVariables false
open Go.RowKit
theorem wpList_txt {w : World} {ops : Array Oper} {rest : List Oper} {o : Oper} {a : Act} {Q : Exit → Act → World → Prop} (hgd : o.guard = none) (sl x : Operand)
    (ho : o.op = .call { callee := .builtin .append, args := #[sl, x], argTypes := #[22, 9] })
    (base : Nat) (v : Value) (n : Nat) (xs : List Value) (hs : a.eval sl = v) (hown : w.ownsRow base 5 1 v n xs) (tx : List UInt8) (ht : tx = [58] ∨ tx = [58, 58]) (hx : a.eval x = .string ⟨tx.toArray⟩)
    (hn : n ≤ 1000) (hbase : base ≤ w.heap.size)
    (h : ∀ v' w', w'.ownsRow base 5 1 v' (n + tx.length) (xs ++ tx.map B) → Below base w w' → wpList Tryz.prog ops Q rest (a.put o.dst v') w') : wpList Tryz.prog ops Q (o :: rest) a w := by
  obtain ⟨i0, hi, hz0, hz1, hz2⟩ := info_parts infoB4; rcases ht with rfl | rfl
  · refine Lib.wpList_append_own_string (w := w) hgd sl x 22 9 ho base 5 i0 Tryz.underlying22 Tryz.underlying9 hi hz0 hz1 hz2 v n xs hs hown ⟨#[58]⟩ hx (by unfold maxLen; show n + 1 ≤ _; omega) (by show n + 1 ≤ _; omega) hbase ?_; intro v' w' h1 h2 _; exact h v' w' h1 ((Below.refl _ _).grown h2 hbase (fun t ht => (hown.lt t ht).1))
  · refine Lib.wpList_append_own_string (w := w) hgd sl x 22 9 ho base 5 i0 Tryz.underlying22 Tryz.underlying9 hi hz0 hz1 hz2 v n xs hs hown ⟨#[58, 58]⟩ hx (by unfold maxLen; show n + 2 ≤ _; omega) (by show n + 2 ≤ _; omega) hbase ?_; intro v' w' h1 h2 _; exact h v' w' h1 ((Below.refl _ _).grown h2 hbase (fun t ht => (hown.lt t ht).1))
theorem wrap64u (u : Nat) (h : u < 65536) : IntKind.u64.wrap (u : Int) = (u : Int) := by
  simp [IntKind.wrap, IntKind.bits, IntKind.signed]; omega
set_option maxHeartbeats 1000000 in
set_option maxRecDepth 100000 in
theorem iapp16_any (B0 n u : Nat) (hu : u < 65536) (sv : Value) (xs : List Value) (w : World) (hown : w.ownsRow B0 5 1 sv n xs) (hBw : B0 ≤ w.heap.size) (hlim : n ≤ 1000) (tb : Tb8 w) :
    Calls Tryz.prog 123 #[sv, .int .u64 (u : Int), .int .i64 16] w fun e w' => ∃ v', e = .returned v' ∧ w'.ownsRow B0 5 1 v' (n + (bdg 16 u).length) (xs ++ (bdg 16 u).map B) ∧ Below B0 w w' := by
  have HC := hide (bits_any B0 n u hu sv xs w hown hBw hlim tb); generalize (bdg 16 u).map B = ds at *; generalize (bdg 16 u).length = dl at *; clear hown; go_enter Tryz.func123, Tryz.ntmps123; go_wp2_with fail
  refine (unhide HC).mono ?_; rintro e w2 ⟨v', rfl, h1, h2⟩; clear HC; have H1 := hide h1; have H2 := hide h2; clear h1 h2; go_wp2; go_ret; exact ⟨v', rfl, unhide H1, unhide H2⟩
set_option maxHeartbeats 1000000 in
set_option maxRecDepth 100000 in
theorem app16_any (B0 n u : Nat) (hu : u < 65536) (sv : Value) (xs : List Value) (w : World) (hown : w.ownsRow B0 5 1 sv n xs) (hBw : B0 ≤ w.heap.size) (hlim : n ≤ 1000) (tb : Tb8 w) :
    Calls Tryz.prog 85 #[sv, .int .u64 (u : Int), .int .i64 16] w fun e w' => ∃ v', e = .returned v' ∧ w'.ownsRow B0 5 1 v' (n + (bdg 16 u).length) (xs ++ (bdg 16 u).map B) ∧ Below B0 w w' := by
  have HC := hide (iapp16_any B0 n u hu sv xs w hown hBw hlim tb); generalize (bdg 16 u).map B = ds at *; generalize (bdg 16 u).length = dl at *; clear hown; go_enter Tryz.func85, Tryz.ntmps85; go_wp2_with fail
  refine (unhide HC).mono ?_; rintro e w2 ⟨v', rfl, h1, h2⟩; clear HC; have H1 := hide h1; have H2 := hide h2; clear h1 h2; go_wp2; go_ret; exact ⟨v', rfl, unhide H1, unhide H2⟩
theorem RdV.low {w w' : World} {ao : Option Addr} {cap b0 : Nat} {vs : List Value} (h : RdV w ao cap vs) (hb0 : ∀ b off, ao = some ⟨b, off, none⟩ → b < b0) (hb : Below b0 w w') : RdV w' ao cap vs := by
  refine ⟨h.le, h.max, h.nil, fun i hi => ?_⟩; obtain ⟨b, off, e, hc⟩ := h.cell i hi; refine ⟨b, off, e, ?_⟩; rw [← hc]; exact hb.cell (p := ⟨b, off + i, none⟩) (hb0 b off e)
theorem jb_snoc (c : UInt8) (q : List UInt8) : ∀ ps : List (List UInt8), ps ≠ [] → jb c (ps ++ [q]) = jb c ps ++ c :: q
  | [], h => absurd rfl h
  | [p], _ => rfl
  | p :: r :: t, _ => by
    show p ++ c :: jb c ((r :: t) ++ [q]) = _; rw [jb_snoc c q (r :: t) (by simp)]; simp [jb]
theorem jp_snoc (l : List Nat) (v : Nat) (h : l ≠ []) : jp (l ++ [v]) = jp l ++ [58] ++ bdg 16 v := by
  unfold jp; rw [List.map_append, List.map_singleton, jb_snoc 58 _ _ (by simpa using h)]; simp
theorem bdg16_len (v : Nat) (h : v < 65536) : (bdg 16 v).length ≤ 4 := (hexW_parts (hexW_bdg v h)).2.1
theorem jp_len : ∀ l : List Nat, i6small l → (jp l).length ≤ 5 * l.length
  | [], _ => by simp [jp, jb]
  | [v], h => by
    have := bdg16_len v (h v (by simp)); show (bdg 16 v).length ≤ _; simp; omega
  | v :: u :: t, h => by
    have h1 := bdg16_len v (h v (by simp)); have h2 := jp_len (u :: t) fun x hx => h x (List.mem_cons_of_mem _ hx); show (bdg 16 v ++ 58 :: jp (u :: t)).length ≤ _; rw [List.length_append, List.length_cons, List.length_cons]; omega
set_option maxHeartbeats 4000000 in
set_option maxRecDepth 100000 in
theorem appendPieces_any (B0 n : Nat) (sv : Value) (xs : List Value) (ao : Option Addr) (cap ln : Nat) (l : List Nat) (w : World) (hln : l.length = ln) (hown : w.ownsRow B0 5 1 sv n xs) (hBw : B0 ≤ w.heap.size) (hlim : n ≤ 100) (h8 : l.length ≤ 8) (hsm : i6small l)
    (hrd : RdV w ao cap (l.map U)) (hlow : ∀ b off, ao = some ⟨b, off, none⟩ → b < B0) (tb : TbF B0 w) :
    Calls Tryz.prog 129 #[sv, .slice ao ln cap] w fun e w' => ∃ v', e = .returned v' ∧ w'.ownsRow B0 5 1 v' (n + (jp l).length) (xs ++ (jp l).map B) ∧ Below B0 w w' := by
  subst hln; have hle := hrd.le; have hmx := hrd.max; rw [List.length_map] at hle; have HRD := hide (fun w' (hb : Below B0 w w') => hrd.low hlow hb); have HTB := hide (fun w' (hb : Below B0 w w') => hb.size); have HT := hide tb; have HS := hide hsm; have ST : Hid (w.ownsRow B0 5 1 sv (n + (jp (l.take 0)).length) (xs ++ (jp (l.take 0)).map B)) := by
    show w.ownsRow B0 5 1 sv (n + 0) (xs ++ []); rw [List.append_nil]; exact hown
  clear hrd hown tb hsm; go_enter Tryz.func129, Tryz.ntmps129; go_wp2_with fail
  go_loopw [0, 9] (fun v i wr => ∃ k : Nat, k ≤ l.length ∧ i = .int .i64 k ∧ Hid (wr.ownsRow B0 5 1 v (n + (jp (l.take k)).length) (xs ++ (jp (l.take k)).map B)) ∧ Below B0 w wr) (fun _ i _ => l.length - (intOf i).toNat)
  case atStart => exact ⟨0, by omega, rfl, ST, Below.refl _ _⟩
  case round =>
    clear ST; obtain ⟨k, hk, rfl, OWN, hb⟩ := hrel; have own := unhide OWN; have hbs := hb.size; by_cases hkl : k < l.length
    · have hkl' : (k : Int) < (l.length : Int) := by omega
      obtain ⟨bb, off, hao, hc⟩ := (unhide HRD wr hb).cells (by simp; omega); subst hao; have c0 : wr.cell? ⟨bb, off + k, none⟩ = some (U (l.getD k 0)) := by
        rw [hc k (by simpa using hkl)]; simp [List.getD, hkl]
      have hlk := jp_len (l.take k) fun v hv => unhide HS v (List.mem_of_mem_take hv); rw [List.length_take] at hlk; have hvs : l.getD k 0 < 65536 := unhide HS _ (by simp [List.getD, hkl]); have HT2 := hide (take_snoc l k 0 hkl); have hTB := (unhide HT).on hb; have hw64 : IntKind.u64.wrap ((l.getD k 0 : Nat) : Int) = ((l.getD k 0 : Nat) : Int) := wrap64u _ hvs; clear hc OWN; by_cases hk0 : 0 < k
      · have hk0' : (0 : Int) < (k : Int) := by omega
        have HJ := hide (jp_snoc (l.take k) (l.getD k 0) (by
          intro e; have := congrArg List.length e; rw [List.length_take, List.length_nil] at this; omega))
        generalize l.getD k 0 = v at *; generalize hjl : jp (l.take k) = J at *; have hJ40 : n + J.length ≤ 1000 := by omega
        go_wp2_with (at_builtin; refine wpList_txt rfl (.tmp 16) (.const (.string ⟨#[58]⟩)) rfl B0 _ _ _ rfl own [58] (.inl rfl) rfl hJ40 (by omega) ?_)
        intro v1 w1 o1 b1; have hs1 := b1.size; have HC := hide (app16_any B0 (n + J.length + 1) v hvs v1 _ w1 o1 (by omega) (by omega) (hTB.on b1).tb); have hb1 := hb.trans b1; clear own o1 b1; go_wp2_with fail
        refine (unhide HC).mono ?_; rintro e w2 ⟨v2, rfl, o2, b2⟩; clear HC; have KK : Hid ((∃ k' : Nat, k' ≤ l.length ∧ Value.int .i64 ((k : Int) + 1) = .int .i64 k' ∧ Hid (w2.ownsRow B0 5 1 v2 (n + (jp (l.take k')).length) (xs ++ (jp (l.take k')).map B)) ∧ Below B0 w w2) ∧ l.length - ((k : Int) + 1).toNat < l.length - k) := by
          refine ⟨⟨k + 1, by omega, by simp, ?_, hb1.trans b2⟩, by omega⟩; show w2.ownsRow _ _ _ _ _ _; rw [unhide HT2, unhide HJ]; simpa [Nat.add_assoc, Nat.add_comm 1 (bdg 16 v).length] using o2
        clear o2 b2 HJ HT2; go_wp2; exact unhide KK
      · have ht0 : l.take k = [] := by
          rw [show k = 0 by omega]; rfl
        have hk0' : ¬ (0 : Int) < (k : Int) := by omega
        have HJ : Hid (jp (l.take (k + 1)) = bdg 16 (l.getD k 0)) := by
          show _ = _; rw [unhide HT2, ht0]; rfl
        generalize l.getD k 0 = v at *; have own' := own; rw [ht0, show jp [] = [] from rfl, List.map_nil, List.append_nil, List.length_nil, Nat.add_zero] at own'; have HC := hide (app16_any B0 n v hvs _ xs wr own' (by omega) (by omega) hTB.tb); clear own own' ht0; go_wp2_with fail
        refine (unhide HC).mono ?_; rintro e w2 ⟨v2, rfl, o2, b2⟩; clear HC; have KK : Hid ((∃ k' : Nat, k' ≤ l.length ∧ Value.int .i64 ((k : Int) + 1) = .int .i64 k' ∧ Hid (w2.ownsRow B0 5 1 v2 (n + (jp (l.take k')).length) (xs ++ (jp (l.take k')).map B)) ∧ Below B0 w w2) ∧ l.length - ((k : Int) + 1).toNat < l.length - k) := by
          refine ⟨⟨k + 1, by omega, by simp, ?_, hb.trans b2⟩, by omega⟩; show w2.ownsRow _ _ _ _ _ _; rw [unhide HJ]; exact o2
        clear o2 b2 HJ HT2; go_wp2; exact unhide KK
    · have hkl' : ¬ (k : Int) < (l.length : Int) := by omega
      rw [show l.take k = l from List.take_of_length_le (by omega)] at OWN; clear own HRD HT HS; go_wp2; go_ret; exact ⟨_, rfl, unhide OWN, hb⟩
end Go.Proofs.YtenlampiiodkhaaGreatDoor
namespace Go.Proofs.YtenlampiiodkhaaGreatDoor
set_option linter.unusedVariables false
open Go.RowKit
def X8 (w : World) (a0 a1 a2 a3 a4 a5 a6 a7 : Nat) : World := w.alloc (.cells #[U a0, U a1, U a2, U a3, U a4, U a5, U a6, U a7] 36)
theorem X8_rd (w : World) (a0 a1 a2 a3 a4 a5 a6 a7 : Nat) : RdV (X8 w a0 a1 a2 a3 a4 a5 a6 a7) (some ⟨w.heap.size, 0, none⟩) 8 ([a0, a1, a2, a3, a4, a5, a6, a7].map U) := RdV.lit w _ _ _ (by simp)
theorem rd_from {w : World} {g : Nat} {l : List Value} (h : RdV w (some ⟨g, 0, none⟩) l.length l) (k : Nat) (hk : k < l.length) : RdV w (some ⟨g, k, none⟩) (l.length - k) (l.drop k) := by
  have := h.drop k (by omega); rw [if_neg (by omega)] at this; have e : (some (⟨g, 0, none⟩ : Addr)).map (·.add k) = some ⟨g, k, none⟩ := by
    show some ((⟨g, 0, none⟩ : Addr).add k) = _; rw [Addr.add_lit, Nat.zero_add]
  rwa [e] at this
set_option maxHeartbeats 4000000 in
set_option maxRecDepth 100000 in
theorem show6_any (a0 a1 a2 a3 a4 a5 a6 a7 : Nat) (w : World) (hsm : i6small [a0, a1, a2, a3, a4, a5, a6, a7]) (tb : Tb8 w) : Calls Tryz.prog 89 #[.agg #[U a0, U a1, U a2, U a3, U a4, U a5, U a6, U a7]] w fun e w' =>
    e = .returned (S (shw6 [a0, a1, a2, a3, a4, a5, a6, a7])) ∧ Ext w w' := by
  obtain ⟨r1, r2, r3, r4⟩ := row_facts [a0, a1, a2, a3, a4, a5, a6, a7] rfl; have HLR := hide (fun w' => longest_any a0 a1 a2 a3 a4 a5 a6 a7 w'); have HX := hide (X8_rd w a0 a1 a2 a3 a4 a5 a6 a7); have hx1 : Ext w (X8 w a0 a1 a2 a3 a4 a5 a6 a7) := Ext.alloc _ _; have hs1 : (X8 w a0 a1 a2 a3 a4 a5 a6 a7).heap.size = w.heap.size + 1 := alloc_size _ _; have HTB := hide (TbF.of (tb.below hx1) (show (X8 w a0 a1 a2 a3 a4 a5 a6 a7).heap.size ≤ w.heap.size + 1 by omega)); have FIN : Hid (∀ z, z = shw6 [a0, a1, a2, a3, a4, a5, a6, a7] → Ending.returned (S z) = .returned (S (shw6 [a0, a1, a2, a3, a4, a5, a6, a7]))) := fun z h => by rw [h]
  have HSH : Hid (shw6 [a0, a1, a2, a3, a4, a5, a6, a7] = jp ([a0, a1, a2, a3, a4, a5, a6, a7].take (rowOf (zb [a0, a1, a2, a3, a4, a5, a6, a7])).1) ++ if (rowOf (zb [a0, a1, a2, a3, a4, a5, a6, a7])).1 < (rowOf (zb [a0, a1, a2, a3, a4, a5, a6, a7])).2 then 58 :: 58 :: jp ([a0, a1, a2, a3, a4, a5, a6, a7].drop (rowOf (zb [a0, a1, a2, a3, a4, a5, a6, a7])).2) else []) := rfl; clear r3 r4 tb; generalize (rowOf (zb [a0, a1, a2, a3, a4, a5, a6, a7])).1 = fr at *; generalize (rowOf (zb [a0, a1, a2, a3, a4, a5, a6, a7])).2 = en at *; generalize shw6 [a0, a1, a2, a3, a4, a5, a6, a7] = sh at *; have c0 : ∀ i, i < 8 → (X8 w a0 a1 a2 a3 a4 a5 a6 a7).cell? ⟨w.heap.size, i, none⟩ = some (U ([a0, a1, a2, a3, a4, a5, a6, a7].getD i 0)) := fun i hi => box8 w a0 a1 a2 a3 a4 a5 a6 a7 _ i hi; have d0 := c0 0 (by decide); have d1 := c0 1 (by decide); have d2 := c0 2 (by decide); have d3 := c0 3 (by decide); have d4 := c0 4 (by decide); have d5 := c0 5 (by decide); have d6 := c0 6 (by decide); have d7 := c0 7 (by decide); have hl8 : [a0, a1, a2, a3, a4, a5, a6, a7].length = 8 := rfl; unfold X8 at d0 d1 d2 d3 d4 d5 d6 d7; clear c0; have s1 := fun v => arr_to v w.heap.size 0 fr (by omega); go_enter Tryz.func89, Tryz.ntmps89; go_wp2_with fail
  refine (unhide HLR _).mono ?_; rintro e w2 ⟨rfl, hx2⟩; clear HLR d0 d1 d2 d3 d4 d5 d6 d7; change Ext (X8 w a0 a1 a2 a3 a4 a5 a6 a7) w2 at hx2; generalize X8 w a0 a1 a2 a3 a4 a5 a6 a7 = w1 at *; generalize [a0, a1, a2, a3, a4, a5, a6, a7] = a at *; have hb2 : Below (w.heap.size + 1) w1 w2 := Below.mono hx2 (by omega); have hR2 := (unhide HX).below hx2; have hT2 := (unhide HTB).on hb2; have hs2 := hx2.size; have htl : (a.take fr).length = fr := by rw [List.length_take]; omega
  have HA1 := hide (appendPieces_any (w.heap.size + 1) 0 (.slice none 0 0) [] (some ⟨w.heap.size, 0, none⟩) 8 fr (a.take fr) w2 htl (World.ownsRow_nil _ _ _ _) (by omega) (by omega) (by omega) (small_take hsm fr) (by rw [List.map_take]; exact hR2.take fr) (fun b off e => by simp only [Option.some.injEq, Addr.mk.injEq] at e; omega) hT2); have hj1 := jp_len (a.take fr) (small_take hsm fr); rw [htl] at hj1; generalize jp (a.take fr) = J1 at *; go_wp2_with fail
  refine (unhide HA1).mono ?_; rintro e w3 ⟨v3, rfl, o3, b3⟩; clear HA1; rw [Nat.zero_add, List.nil_append] at o3; have hs3 := b3.size; have hx3 : Ext w w3 := Below.trans hx1 (Below.mono (Below.trans hb2 b3) (by omega)); have hb3 : Below (w.heap.size + 1) w1 w3 := hb2.trans b3; by_cases hlt : fr < en
  · have hlt' : (fr : Int) < (en : Int) := by omega
    have HSH2 := unhide HSH; rw [if_pos hlt] at HSH2; have HS2 := hide HSH2; clear HSH2 HSH; go_wp2_with (at_builtin; refine wpList_txt rfl (.tmp 17) (.const (.string ⟨#[58, 58]⟩)) rfl (w.heap.size + 1) _ _ _ rfl o3 [58, 58] (.inr rfl) rfl (by omega) (by omega) ?_)
    intro v4 w4 o4 b4; have hs4 := b4.size; have hb4 := hb3.trans b4; have hx4 : Ext w w4 := Below.trans hx1 (Below.mono hb4 (by omega)); have hT4 := (unhide HTB).on hb4; have hR4 := RdV.low (unhide HX) (b0 := w.heap.size + 1) (fun b off e => by simp only [Option.some.injEq, Addr.mk.injEq] at e; omega) hb4; have hdl : (a.drop en).length = 8 - en := by rw [List.length_drop]; omega
    clear o3 b3 b4; by_cases he8 : en = 8
    · have s2 := fun v => arr_from8 v w.heap.size 0 en he8; have hdn : a.drop en = [] := List.drop_of_length_le (by omega); have HA2 := hide (appendPieces_any (w.heap.size + 1) (J1.length + 2) v4 _ (some ⟨w.heap.size, 0, none⟩) 0 0 (a.drop en) w4 (by omega) o4 (by omega) (by omega) (by omega) (small_drop hsm en) (by rw [hdn]; exact ⟨Nat.le_refl _, by omega, fun e => (by cases e), fun i hi => by simp at hi⟩) (fun b off e => by simp only [Option.some.injEq, Addr.mk.injEq] at e; omega) hT4); have HS3 : Hid (sh = (J1 ++ [58, 58]) ++ jp (a.drop en)) := by
        show _ = _; rw [unhide HS2]; simp
      generalize jp (a.drop en) = J2 at *; clear hR4 o4 hb3 hb2 hR2 hT2 HX HTB hx2 hx3; go_wp2_with fail
      refine (unhide HA2).mono ?_; rintro e w5 ⟨v5, rfl, o5, b5⟩; clear HA2; have hx5 : Ext w w5 := Below.trans hx4 (Below.mono b5 (by omega)); have o6 : w5.ownsRow (w.heap.size + 1) 5 1 v5 (J1.length + 2 + J2.length) ((J1 ++ [58, 58] ++ J2).map B) := by
        rw [List.map_append, List.map_append]; exact o5
      clear o5; obtain ⟨ao, cap, rfl, hr, hn⟩ := RdV.of_owned o6; have cs := oconv_str w5 ao (J1.length + 2 + J2.length) cap (J1 ++ [58, 58] ++ J2) (by simp; omega) hr; have FF := hide (unhide FIN _ (unhide HS3).symm); clear o6 FIN hr hn HS3 HS2; generalize J1 ++ [58, 58] ++ J2 = Z at *; go_wp2; go_ret; exact ⟨unhide FF, hx5⟩
    · have s2 : ∀ v, (Instr.sliceAt 36 (.pointer (some ⟨w.heap.size, 0, none⟩)) (some (.int .i64 (en : Int))) none none).run Tryz.prog v = .ok (.slice (some ⟨w.heap.size, en, none⟩) (8 - en) (8 - en)) v := fun v => by
        have := arr_from v w.heap.size 0 en (by omega)
        rwa [Nat.zero_add] at this
      have HA2 := hide (appendPieces_any (w.heap.size + 1) (J1.length + 2) v4 _ (some ⟨w.heap.size, en, none⟩) (8 - en) (8 - en) (a.drop en) w4 hdl o4 (by omega) (by omega) (by omega) (small_drop hsm en) (by have h1 := rd_from (l := a.map U) (by rw [List.length_map, hl8]; exact hR4) en (by rw [List.length_map]; omega); rw [List.length_map, hl8, ← List.map_drop] at h1; exact h1) (fun b off e => by simp only [Option.some.injEq, Addr.mk.injEq] at e; omega) hT4); have HS3 : Hid (sh = (J1 ++ [58, 58]) ++ jp (a.drop en)) := by
        show _ = _; rw [unhide HS2]; simp
      generalize jp (a.drop en) = J2 at *; clear hR4 o4 hb3 hb2 hR2 hT2 HX HTB hx2 hx3; go_wp2_with fail
      refine (unhide HA2).mono ?_; rintro e w5 ⟨v5, rfl, o5, b5⟩; clear HA2; have hx5 : Ext w w5 := Below.trans hx4 (Below.mono b5 (by omega)); have o6 : w5.ownsRow (w.heap.size + 1) 5 1 v5 (J1.length + 2 + J2.length) ((J1 ++ [58, 58] ++ J2).map B) := by
        rw [List.map_append, List.map_append]; exact o5
      clear o5; obtain ⟨ao, cap, rfl, hr, hn⟩ := RdV.of_owned o6; have cs := oconv_str w5 ao (J1.length + 2 + J2.length) cap (J1 ++ [58, 58] ++ J2) (by simp; omega) hr; have FF := hide (unhide FIN _ (unhide HS3).symm); clear o6 FIN hr hn HS3 HS2; generalize J1 ++ [58, 58] ++ J2 = Z at *; go_wp2; go_ret; exact ⟨unhide FF, hx5⟩
  · have hlt' : ¬ (fr : Int) < (en : Int) := by omega
    have HSH2 := unhide HSH; rw [if_neg hlt, List.append_nil] at HSH2; obtain ⟨ao, cap, rfl, hr, hn⟩ := RdV.of_owned o3; have cs := oconv_str w3 ao _ cap J1 rfl hr; have FF := hide (unhide FIN _ HSH2.symm); clear o3 FIN hr hn HSH2 HSH HX HTB hR2 hT2 hb2 hb3 b3 hx2; go_wp2; go_ret; exact ⟨unhide FF, hx3⟩
end Go.Proofs.YtenlampiiodkhaaGreatDoor
namespace Go.Proofs.YtenlampiiodkhaaGreatDoor
set_option linter.unusedVariables false
open Go.RowKit
def bd16 (v : Nat) : List UInt8 := if v < 16 then [hexd v] else if v < 256 then [hexd (v / 16), hexd (v % 16)] else if v < 4096 then [hexd (v / 256), hexd (v / 16 % 16), hexd (v % 16)] else h4 v
theorem bd16_eq (v : Nat) (h : v < 65536) : bdg 16 v = bd16 v := by
  unfold bd16 h4; by_cases a : v < 16
  · rw [if_pos a, bdg_small a (by decide)]
  · rw [if_neg a, bdg_great a (by decide)]; by_cases b : v < 256
    · rw [if_pos b, bdg_small (by omega) (by decide)]; rfl
    · rw [if_neg b, bdg_great (by omega) (by decide)]; by_cases c : v < 4096
      · rw [if_pos c, bdg_small (by omega) (by decide), show v / 16 / 16 = v / 256 by omega]; rfl
      · rw [if_neg c, bdg_great (by omega) (by decide), bdg_small (by omega) (by decide), show v / 16 / 16 / 16 = v / 4096 by omega, show v / 16 / 16 % 16 = v / 256 % 16 by omega]; rfl
def jp16 (l : List Nat) : List UInt8 := jb 58 (l.map bd16)
def shF (a : List Nat) : List UInt8 := jp16 (a.take (rowOf (zb a)).1) ++ if (rowOf (zb a)).1 < (rowOf (zb a)).2 then 58 :: 58 :: jp16 (a.drop (rowOf (zb a)).2) else []
theorem jp16_eq (l : List Nat) (h : i6small l) : jp l = jp16 l := by
  unfold jp jp16; congr 1; exact List.map_congr_left fun v hv => bd16_eq v (h v hv)
theorem shF_eq (a : List Nat) (h : i6small a) : shw6 a = shF a := by
  unfold shw6 shF; rw [jp16_eq _ (small_take h _), jp16_eq _ (small_drop h _)]
theorem small_dec (a : List Nat) (h : a.all (fun v => decide (v < 65536)) = true) : i6small a := by
  intro v hv; simpa using List.all_eq_true.1 h v hv
theorem cells8of {w : World} {g : Nat} {t : TypeId} {fr : Nat × Nat} {x0 x1 x2 x3 x4 x5 x6 x7 : Value} (h : w.heap[g]? = some (.cells #[x0, x1, x2, x3, x4, x5, x6, x7] t fr)) :
    w.cell? ⟨g, 0, none⟩ = some x0 ∧ w.cell? ⟨g, 1, none⟩ = some x1 ∧ w.cell? ⟨g, 2, none⟩ = some x2 ∧ w.cell? ⟨g, 3, none⟩ = some x3 ∧ w.cell? ⟨g, 4, none⟩ = some x4 ∧ w.cell? ⟨g, 5, none⟩ = some x5 ∧ w.cell? ⟨g, 6, none⟩ = some x6 ∧ w.cell? ⟨g, 7, none⟩ = some x7 := by
  simp [World.cell?, h]
theorem heap_lt {w : World} {g : Nat} {o : Obj} (h : w.heap[g]? = some o) : g < w.heap.size := by
  rcases Nat.lt_or_ge g w.heap.size with h' | h'
  · exact h'
  · rw [Array.getElem?_eq_none h'] at h
    cases h
theorem heap_ext {w w' : World} {g : Nat} {o : Obj} (h : w.heap[g]? = some o) (hx : Ext w w') : w'.heap[g]? = some o := (hx.block g (heap_lt h)).trans h
end Go.Proofs.YtenlampiiodkhaaGreatDoor
