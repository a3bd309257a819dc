/-
  Show of package ip4, whole.
-/
import Derived.Test.YtfaobhaogenijaaDoorI4E
import Derived.Laws.BitsAllLaws
namespace Go.Proofs.YtfaobhaogenijaaDoor
set_option linter.unusedVariables false
open Go.RowKit

theorem infoB4 : (Tryd.prog.info? 5).map (fun i => (i.zero, i.size, i.bytes)) = some (some (.int .u8 0), 1, 1) := by kernel_rfl
theorem wpList_dot {w : World} {ops : Array Oper} {rest : List Oper} {o : Oper} {a : Act} {Q : Exit → Act → World → Prop} (hgd : o.guard = none) (sl x : Operand)
    (ho : o.op = .call { callee := .builtin .append, args := #[sl, x], argTypes := #[40, 9] })
    (base : Nat) (v : Value) (n : Nat) (xs : List Value) (hs : a.eval sl = v) (hown : w.ownsRow base 5 1 v n xs) (hx : a.eval x = .string ⟨#[46]⟩)
    (hn : n ≤ 1000) (hbase : base ≤ w.heap.size)
    (h : ∀ v' w', w'.ownsRow base 5 1 v' (n + 1) (xs ++ [B 46]) → Below base w w' → wpList Tryd.prog ops Q rest (a.put o.dst v') w') : wpList Tryd.prog ops Q (o :: rest) a w := by
  obtain ⟨i0, hi, hz0, hz1, hz2⟩ := info_parts infoB4
  refine Lib.wpList_append_own_string (w := w) hgd sl x 40 9 ho base 5 i0 Tryd.underlying40 Tryd.underlying9 hi hz0 hz1 hz2 v n xs hs hown ⟨#[46]⟩ hx (by unfold maxLen; show n + 1 ≤ _; omega) (by show n + 1 ≤ _; omega) hbase ?_
  intro v' w' h1 h2 _
  exact h v' w' h1 ((Below.refl _ _).grown h2 hbase (fun t ht => (hown.lt t ht).1))

theorem wrap_u64 (u : Nat) (h : u < 256) : IntKind.u64.wrap (u : Int) = (u : Int) := by
  have key : ∀ x : Fin 256, IntKind.u64.wrap (x.val : Int) = (x.val : Int) := by decide +kernel
  exact key ⟨u, h⟩
theorem mask8 (x : Nat) (h : x < 4294967296) : bits .and .u32 (x : Int) 255 = ((x % 256 : Nat) : Int) := by
  have := u32_and_nat x 255 h (by decide)
  rw [show ((255 : Nat) : Int) = 255 from rfl] at this
  rw [this, show (255 : Nat) = 2 ^ 8 - 1 from rfl, Nat.and_two_pow_sub_one_eq_mod]
theorem shr_eq (k a : Nat) (hk : k ≤ 3) (ha : a < 4294967296) : bits .and .u32 ((a : Int) / 2 ^ (8 * (3 - k))) 255 = ((a / 256 ^ (3 - k) % 256 : Nat) : Int) := by
  have e : (a : Int) / 2 ^ (8 * (3 - k)) = ((a / 256 ^ (3 - k) : Nat) : Int) := by
    have hk3 : k = 0 ∨ k = 1 ∨ k = 2 ∨ k = 3 := by omega
    rcases hk3 with rfl | rfl | rfl | rfl <;> simp
  rw [e, mask8]
  exact Nat.lt_of_le_of_lt (Nat.div_le_self _ _) ha

set_option maxHeartbeats 2000000 in
set_option maxRecDepth 100000 in
theorem show_any (a : Nat) (w : World) (ha : a < 4294967296) (tb : Tb4 w) : Calls Tryd.prog 34 #[.int .u32 (a : Int)] w fun e w' => e = .returned (S (shw a)) ∧ Ext w w' := by
  have FIN := hide (show ∀ s, s = shwK a 4 → Ending.returned (S s) = .returned (S (shw a)) from fun s h => by rw [h, shwK_4 a ha])
  have TB := hide (fun (w' : World) (hx : Below w.heap.size w w') => tb.below hx)
  clear tb
  go_enter Tryd.func34, Tryd.ntmps34
  go_wp2_with fail
  go_loopw [3, 6] (fun v i wr => ∃ (k : Nat), k ≤ 4 ∧ i = .int .i64 k ∧ wr.ownsRow w.heap.size 5 1 v (shwK a k).length ((shwK a k).map B) ∧ Below w.heap.size w wr) (fun _ i _ => 4 - (intOf i).toNat)
  case atStart => exact ⟨0, by omega, rfl, World.ownsRow_nil _ _ _ _, Below.refl _ _⟩
  case round =>
    obtain ⟨k, hk, rfl, own, hbr⟩ := hrel
    have hln := shwK_len a k hk
    by_cases hkl : k < 4
    · have hkl' : (k : Int) < 4 := by omega
      by_cases hk0 : 0 < k
      · have hk0' : 0 < (k : Int) := by omega
        have hbase := hbr.size
        go_wp2_with (at_builtin; refine wpList_dot rfl (.tmp 11) (.const (.string ⟨#[46]⟩)) rfl w.heap.size _ _ _ rfl own rfl (by omega) hbase ?_)
        intro v1 w1 o1 b1
        obtain ⟨pre, hpre⟩ : ∃ pre, pre = shwK a k ++ if 0 < k then [46] else [] := ⟨_, rfl⟩
        have own1 : w1.ownsRow w.heap.size 5 1 v1 pre.length (pre.map B) := by
          rw [hpre, if_pos hk0, List.length_append, List.map_append]
          exact o1
        have hb1 := hbr.trans b1
        have hpl0 : pre.length = (shwK a k).length + 1 := by rw [hpre, if_pos hk0, List.length_append]; rfl
        clear o1 b1
        have hpl : pre.length ≤ 1000 := by omega
        have SH := hide (shiftOf_any k w1 (by omega))
        clear own hbr
        go_wp2_with fail
        refine (unhide SH).mono ?_
        rintro e w2 ⟨rfl, hw⟩
        subst hw
        clear SH
        have hsq := shr_eq k a (by omega) ha
        have hu : a / 256 ^ (3 - k) % 256 < 256 := Nat.mod_lt _ (by decide)
        have KK : Hid (∀ v' w', w'.ownsRow w.heap.size 5 1 v' (pre.length + (Lib.decDigits (a / 256 ^ (3 - k) % 256)).length) (pre.map B ++ (Lib.decDigits (a / 256 ^ (3 - k) % 256)).map B) → Below w.heap.size w2 w' → ((∃ (k' : Nat), k' ≤ 4 ∧ Value.int .i64 ((k : Int) + 1) = .int .i64 k' ∧ w'.ownsRow w.heap.size 5 1 v' (shwK a k').length ((shwK a k').map B) ∧ Below w.heap.size w w') ∧ 4 - ((k : Int) + 1).toNat < 4 - k)) := fun v' w' h1 h2 =>
          ⟨⟨k + 1, by omega, by simp, by
            have e : shwK a (k + 1) = pre ++ Lib.decDigits (a / 256 ^ (3 - k) % 256) := by rw [hpre]; rfl
            rw [e, List.length_append, List.map_append]
            exact h1, hb1.trans h2⟩, by omega⟩
        have AU := hide (appUint_any w.heap.size pre.length (a / 256 ^ (3 - k) % 256) hu v1 (pre.map B) w2 own1 hb1.size hpl (unhide TB w2 hb1))
        generalize a / 256 ^ (3 - k) % 256 = u at *
        clear own1 hpre
        have hwr : IntKind.u64.wrap (u : Int) = (u : Int) := wrap_u64 u hu
        go_wp2_with fail
        refine (unhide AU).mono ?_
        rintro e w3 ⟨v3, rfl, o3, b3⟩
        clear AU
        have kk := hide (unhide KK v3 w3 o3 b3)
        clear o3 b3 KK hsq hwr
        go_wp2
        exact unhide kk
      · have hk0' : ¬ 0 < (k : Int) := by omega
        obtain ⟨pre, hpre⟩ : ∃ pre, pre = shwK a k ++ if 0 < k then [46] else [] := ⟨_, rfl⟩
        obtain ⟨w1, hw1⟩ : ∃ w1, w1 = wr := ⟨_, rfl⟩
        obtain ⟨v1, hv1⟩ : ∃ v1, v1 = u3 := ⟨_, rfl⟩
        have own1 : w1.ownsRow w.heap.size 5 1 v1 pre.length (pre.map B) := by
          rw [hpre, if_neg hk0, List.append_nil, hw1, hv1]
          exact own
        have hb1 : Below w.heap.size w w1 := by
          rw [hw1]
          exact hbr
        have hpl0 : pre.length = (shwK a k).length := by rw [hpre, if_neg hk0, List.append_nil]
        subst hw1 hv1
        have hpl : pre.length ≤ 1000 := by omega
        have SH := hide (shiftOf_any k w1 (by omega))
        clear own hbr
        go_wp2_with fail
        refine (unhide SH).mono ?_
        rintro e w2 ⟨rfl, hw⟩
        subst hw
        clear SH
        have hsq := shr_eq k a (by omega) ha
        have hu : a / 256 ^ (3 - k) % 256 < 256 := Nat.mod_lt _ (by decide)
        have KK : Hid (∀ v' w', w'.ownsRow w.heap.size 5 1 v' (pre.length + (Lib.decDigits (a / 256 ^ (3 - k) % 256)).length) (pre.map B ++ (Lib.decDigits (a / 256 ^ (3 - k) % 256)).map B) → Below w.heap.size w2 w' → ((∃ (k' : Nat), k' ≤ 4 ∧ Value.int .i64 ((k : Int) + 1) = .int .i64 k' ∧ w'.ownsRow w.heap.size 5 1 v' (shwK a k').length ((shwK a k').map B) ∧ Below w.heap.size w w') ∧ 4 - ((k : Int) + 1).toNat < 4 - k)) := fun v' w' h1 h2 =>
          ⟨⟨k + 1, by omega, by simp, by
            have e : shwK a (k + 1) = pre ++ Lib.decDigits (a / 256 ^ (3 - k) % 256) := by rw [hpre]; rfl
            rw [e, List.length_append, List.map_append]
            exact h1, hb1.trans h2⟩, by omega⟩
        have AU := hide (appUint_any w.heap.size pre.length (a / 256 ^ (3 - k) % 256) hu v1 (pre.map B) w2 own1 hb1.size hpl (unhide TB w2 hb1))
        generalize a / 256 ^ (3 - k) % 256 = u at *
        clear own1 hpre
        have hwr : IntKind.u64.wrap (u : Int) = (u : Int) := wrap_u64 u hu
        go_wp2_with fail
        refine (unhide AU).mono ?_
        rintro e w3 ⟨v3, rfl, o3, b3⟩
        clear AU
        have kk := hide (unhide KK v3 w3 o3 b3)
        clear o3 b3 KK hsq hwr
        go_wp2
        exact unhide kk
    · have hk4 : k = 4 := by omega
      subst hk4
      obtain ⟨ao, cap, rfl, hr, hn⟩ := RdV.of_owned own
      have cs := oconv_str wr ao _ cap (shwK a 4) rfl hr
      have FF := hide (unhide FIN (shwK a 4) rfl)
      clear own FIN hr hn hln
      generalize shwK a 4 = Z at *
      have hbr2 : Ext w wr := hbr
      clear hbr
      go_wp2
      go_ret
      exact ⟨unhide FF, hbr2⟩
end Go.Proofs.YtfaobhaogenijaaDoor
