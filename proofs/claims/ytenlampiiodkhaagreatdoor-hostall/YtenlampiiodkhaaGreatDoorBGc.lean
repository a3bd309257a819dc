/-
  DmC, DmD, DmE, DmF, DmG, DmH, DmI.
-/
import Derived.Test.YtenlampiiodkhaaGreatDoorDmBc
import Derived.Test.YtenlampiiodkhaaGreatDoorEncWc
import Derived.Test.YtenlampiiodkhaaGreatDoorDecWc
import Derived.Test.YtenlampiiodkhaaGreatDoorBFc
import Derived.Laws.Cover4
import Derived.Test.YtenlampiiodkhaaGreatDoorShelfc
import Derived.Lib.Join
namespace Go.Proofs.YtenlampiiodkhaaGreatDoor
set_option linter.unusedVariables false
open Go.RowKit
theorem cat_S (a b : List UInt8) : (⟨a.toArray⟩ : ByteArray) ++ (⟨b.toArray⟩ : ByteArray) = ⟨(a ++ b).toArray⟩ := by
  apply ByteArray.ext; rw [ByteArray.data_append]; simp
theorem cat_xn (b : List UInt8) : (⟨#[120, 110, 45, 45]⟩ : ByteArray) ++ (⟨b.toArray⟩ : ByteArray) = ⟨(xn ++ b).toArray⟩ := cat_S [120, 110, 45, 45] b
set_option maxHeartbeats 1000000 in
theorem dencode_any (ao : Option Addr) (l cap : Nat) (rs : List Int) (w : World) (hl : rs.length = l) (hm : l ≤ 1000) (hr : ∀ r ∈ rs, -2147483648 ≤ r ∧ r ≤ 2147483647) (h : RdV w ao cap (rs.map R)) :
    Calls Tryz.prog 97 #[.slice ao l cap] w fun e w' => e = .returned (.tuple #[S (xn ++ eS rs), .bool (penI rs).isSome]) ∧ Ext w w' := by
  have fin : ∀ (u : List UInt8) (b : Bool), u = xn ++ eS rs → b = (penI rs).isSome → Ending.returned (.tuple #[S u, .bool b]) = .returned (.tuple #[S (xn ++ eS rs), .bool (penI rs).isSome]) := fun u b h1 h2 => by rw [h1, h2]
  have FIN := hide fin; clear fin; have HE := hide (encode_len ao l cap rs w hl hm hr h); have hE : (eE rs = 0 ∧ Hid (true = (penI rs).isSome)) ∨ (eE rs = 1 ∧ Hid (false = (penI rs).isSome)) := by
    unfold eE Hid
    cases (penI rs).isSome <;> simp
  go_enter Tryz.func97, Tryz.ntmps97; go_wp2_with fail
  refine (unhide HE).mono ?_; rintro e w2 ⟨rfl, hx2, hlen⟩; clear HE; have hc := cat_xn (eS rs); have hlen2 : ¬ 9223372036854775807 < 4 + (eS rs).length := by omega
  obtain ⟨s, hs⟩ : ∃ s, s = eS rs := ⟨_, rfl⟩; rw [← hs] at hc hlen2 ⊢; have HS := hide hs; clear hs hlen; rcases hE with ⟨k1, HB⟩ | ⟨k1, HB⟩
  · rw [k1]; clear k1; go_wp2; go_ret2; exact ⟨unhide FIN _ _ (congrArg (xn ++ ·) (unhide HS)) (unhide HB), hx2⟩
  · rw [k1]; clear k1; go_wp2; go_ret2; exact ⟨unhide FIN _ _ (congrArg (xn ++ ·) (unhide HS)) (unhide HB), hx2⟩
theorem known_none {t : List UInt8} (h : pdec t = none) : known t = false := by unfold known; rw [h]
theorem known_plain {t : List UInt8} {ns : List Nat} (h : pdec t = some ns) (hp : ((ints ns).all fun r => decide (r ≤ 127)) = true) : known t = false := by
  unfold known; rw [h]; have : (ns.any fun x => decide (127 < x)) = false := by
    rw [Bool.eq_false_iff]; intro ha; obtain ⟨x, hx, h2⟩ := List.any_eq_true.1 ha; have := List.all_eq_true.1 hp (x : Int) (List.mem_map.2 ⟨x, hx, rfl⟩); simp at this h2; omega
  simp [this]
theorem known_text {t : List UInt8} {ns : List Nat} (h : pdec t = some ns) (hp : txt (ints ns) ≠ ints ns) : known t = false := by
  unfold known; rw [h]; simp [hp]
theorem known_last {t : List UInt8} {ns : List Nat} (h : pdec t = some ns) (hp : ((ints ns).all fun r => decide (r ≤ 127)) = false) (ht : txt (ints ns) = ints ns) : known t = ((penI (ints ns)).isSome && (xn ++ eS (ints ns) == xn ++ t)) := by
  have e : penI (ints ns) = penc ns := by rw [penI, if_pos (ints_all ns), ints_back]
  have ha : (ns.any fun x => decide (127 < x)) = true := by
    refine Classical.byContradiction fun hc => ?_; rw [Bool.eq_false_iff] at hp; refine hp (List.all_eq_true.2 fun r hr => ?_); obtain ⟨x, hx, rfl⟩ := List.mem_map.1 hr; have : ¬ 127 < x := fun h2 => hc (List.any_eq_true.2 ⟨x, hx, by simpa using h2⟩); simp; omega
  unfold known eS; rw [h, e]; simp only [ha, ht]
  cases penc ns with
  | none => simp
  | some u =>
    simp; rw [Bool.eq_iff_iff]; simp
theorem pdec_cp {t : List UInt8} {ns : List Nat} (h : pdec t = some ns) (hu : ∀ b ∈ t, ¬ (65 ≤ b.toNat ∧ b.toNat ≤ 90)) : ∀ r ∈ ints ns, -2147483648 ≤ r ∧ r ≤ 2147483647 := by
  intro r hr; obtain ⟨x, hx, rfl⟩ := List.mem_map.1 hr; have := penc_cp (penc_pdec h hu) x hx; omega
theorem dL_some {t : List UInt8} {ns : List Nat} (h : pdec t = some ns) : dL t = ints ns ∧ dE t = 0 := by
  unfold dL dE; rw [h]; exact ⟨rfl, rfl⟩
theorem dL_none {t : List UInt8} (h : pdec t = none) : dL t = [] ∧ dE t = 2 := by
  unfold dL dE; rw [h]; exact ⟨rfl, rfl⟩
set_option maxHeartbeats 1000000 in
set_option maxRecDepth 100000 in
theorem isEncoded_any (t : List UInt8) (w : World) (ht : t.length ≤ 900) (hu : ∀ b ∈ t, ¬ (65 ≤ b.toNat ∧ b.toNat ≤ 90)) (tb : Tabs w) :
    Calls Tryz.prog 98 #[S (xn ++ t)] w fun e w' => e = .returned (.bool (known t)) ∧ Ext w w' := by
  have fin : ∀ b : Bool, b = known t → Ending.returned (.bool b) = .returned (.bool (known t)) := fun b h => by rw [h]
  have FIN := hide fin; clear fin; have HD := hide (decode_any t w (by omega)); have hdr : ∀ v, (Instr.slice 9 (S (xn ++ t)) (some (.int .i64 4)) none none).run Tryz.prog v = .ok (S t) v := fun v => by
    have := run_drop v (xn ++ t) 4 (by simp [xn]); rw [show (xn ++ t).drop 4 = t from rfl] at this; exact this
  obtain ⟨Z, hZ⟩ : ∃ Z, Z = xn ++ t := ⟨_, rfl⟩; rw [← hZ] at hdr ⊢; have HZ := hide hZ; clear hZ; have TB := hide (fun (w' : World) (hx : Ext w w') => tb.below hx); clear tb; go_enter Tryz.func98, Tryz.ntmps98; go_wp2_with fail
  refine (unhide HD).mono ?_; rintro e w1 ⟨a1, c1, rfl, hr1, hx1⟩; clear HD hdr
  cases hp : pdec t with
  | none =>
    obtain ⟨e1, e2⟩ := dL_none hp; have HK := hide (known_none hp); rw [e1, e2]; clear hp e1 e2 hr1; go_wp2; go_ret; exact ⟨unhide FIN _ (unhide HK).symm, hx1⟩
  | some ns =>
    obtain ⟨e1, e2⟩ := dL_some hp; rw [e1] at hr1; rw [e1, e2]; clear e1 e2; have hlen : (ints ns).length ≤ 63 := by
      have := pdec_range hp; unfold ints; simpa using this
    have HK1 := hide (known_plain hp); have HK2 := hide (known_text hp); have HK3 := hide (known_last hp); have HCP := hide (pdec_cp hp hu); clear hp; generalize ints ns = l at *; have HPL := hide (dplain_any a1 l.length c1 l w1 rfl (by omega) hr1); go_wp2_with fail
    refine (unhide HPL).mono ?_; rintro e w2 ⟨rfl, hw⟩; subst hw; clear HPL
    cases hpl : (l.all fun r => decide (r ≤ 127)) with
    | true =>
      have HK := hide (unhide HK1 hpl); clear HK1 HK2 HK3 hpl; go_wp2; go_ret; exact ⟨unhide FIN _ (unhide HK).symm, hx1⟩
    | false =>
      have HT := hide (text_any a1 l.length c1 l w2 rfl (by omega) (unhide HCP) hr1 (unhide TB w2 hx1)); have HK4 := hide (unhide HK3 hpl); clear HK1 HK3 hpl; go_wp2_with fail
      refine (unhide HT).mono ?_; rintro e w3 ⟨a3, c3, rfl, hr3, hx3⟩; clear HT; have HQ := hide (equal_any a3 a1 _ _ c3 c1 (txt l) l w3 rfl rfl hr3 (hr1.below hx3)); simp only [List.length_map] at *; go_wp2_with fail
      refine (unhide HQ).mono ?_; rintro e w4 ⟨rfl, hx4⟩; clear HQ; have hx5 := (hx1.trans hx3).trans hx4
      cases hq : decide (txt l = l) with
      | false =>
        have HK := hide (unhide HK2 (by simpa using hq)); clear HK2 HK4 hq; go_wp2; go_ret; exact ⟨unhide FIN _ (unhide HK).symm, hx5⟩
      | true =>
        have HK := hide (unhide HK4 (by simpa using hq)); have HE := hide (dencode_any a1 l.length c1 l w4 rfl (by omega) (unhide HCP) ((hr1.below hx3).below hx4)); clear HK2 HK4 hq; go_wp2_with fail
        refine (unhide HE).mono ?_; rintro e w6 ⟨rfl, hx6⟩; clear HE; rw [← unhide HZ] at HK; generalize xn ++ eS l = Y at *
        cases hb : (penI l).isSome with
        | false =>
          rw [hb] at HK; clear hb; go_wp2; go_ret; exact ⟨unhide FIN _ (by rw [unhide HK]; simp), hx5.trans hx6⟩
        | true =>
          rw [hb] at HK; clear hb; go_wp2; go_ret; exact ⟨unhide FIN _ (by rw [unhide HK]; simp), hx5.trans hx6⟩
theorem enc_low : ∀ b : Fin 128, Utf8.encode (b.val : Int) = ⟨#[UInt8.ofNat b.val]⟩ := by decide +kernel
theorem rb_low : ∀ (rs : List Int) (acc : List UInt8), (∀ r ∈ rs, 0 ≤ r ∧ r ≤ 127) → rs.foldl (fun r n => r ++ Utf8.encode n) (⟨acc.toArray⟩ : ByteArray) = ⟨(acc ++ lowB rs).toArray⟩
  | [], acc, _ => by simp [lowB]
  | x :: rs, acc, h => by
    have hx := h x (List.mem_cons_self ..); have e := enc_low ⟨x.toNat, by omega⟩; simp only [Int.toNat_of_nonneg hx.1] at e; rw [List.foldl_cons, e, show (⟨acc.toArray⟩ : ByteArray) ++ ⟨#[UInt8.ofNat x.toNat]⟩ = ⟨(acc ++ [UInt8.ofNat x.toNat]).toArray⟩ from cat_S acc [UInt8.ofNat x.toNat], rb_low rs _ fun r hr => h r (List.mem_cons_of_mem _ hr)]; simp [lowB]
theorem conv_low (w : World) (ao : Option Addr) (l cap : Nat) (rs : List Int) (hl : rs.length = l) (h : RdV w ao cap (rs.map R)) (hlow : ∀ r ∈ rs, 0 ≤ r ∧ r ≤ 127) : (convert 45 9 (.slice ao l cap)).run Tryz.prog w = .ok (S (lowB rs)) w := by
  subst hl; have eb : runesBytes rs = ⟨(lowB rs).toArray⟩ := by
    unfold runesBytes; rw [show ByteArray.empty = (⟨([] : List UInt8).toArray⟩ : ByteArray) from rfl, rb_low rs [] hlow]; simp
  cases ao with
  | none =>
    have h0 := h.nil rfl; have hle := h.le; have e : rs = [] := List.eq_nil_of_length_eq_zero (by simp at hle; omega); subst e; rw [run_convert_runes_nil w 45 9 21 _ _ Tryz.underlying45 Tryz.underlying21 Tryz.underlying9]; rfl
  | some a =>
    rw [run_convert_runes w 45 9 21 a rs.length cap rs (Nat.le_refl _) Tryz.underlying45 Tryz.underlying21 Tryz.underlying9 (fun j hj => h.news a rfl j _ (by rw [getR rs j hj])), List.take_length, eb]
theorem pre_iff (s : List UInt8) : Lib.hasPrefix (⟨s.toArray⟩ : ByteArray).data.toList (⟨#[120, 110, 45, 45]⟩ : ByteArray).data.toList = decide (s.take 4 = xn) := by
  rw [Bool.eq_iff_iff]; simp only [Lib.hasPrefix, List.isPrefixOf_iff_prefix, decide_eq_true_eq, List.prefix_iff_eq_take]; constructor
  · intro h; exact h.symm
  · intro h; exact h.symm
def TellsL (w : World) (rs : List Int) (e : Ending) (w' : World) : Prop := (∃ s, e = .returned (.tuple #[S s, .bool (labOf rs).isSome]) ∧ ∀ t, labOf rs = some t → s = t) ∧ Ext w w'
set_option maxHeartbeats 1000000 in
set_option maxRecDepth 100000 in
theorem write_any (ao : Option Addr) (l cap : Nat) (rs : List Int) (w : World) (hl : rs.length = l) (hm : l ≤ 800) (hr : ∀ r ∈ rs, 0 ≤ r ∧ r ≤ 2147483647 ∧ ¬ (65 ≤ r ∧ r ≤ 90)) (h : RdV w ao cap (rs.map R)) (tb : Tabs w) :
    Calls Tryz.prog 58 #[.slice ao l cap] w (TellsL w rs) := by
  have fin : ∀ (s : List UInt8) (b : Bool) (w' : World), b = (labOf rs).isSome → (∀ t, labOf rs = some t → s = t) → Ext w w' → TellsL w rs (.returned (.tuple #[S s, .bool b])) w' := fun s b w' h1 h2 h3 => ⟨⟨s, by rw [h1], h2⟩, h3⟩; have FIN := hide fin; clear fin; have HP := hide (dplain_any ao l cap rs w hl (by omega) h)
  cases hpl : (rs.all fun r => decide (r ≤ 127)) with
  | false =>
    rw [hpl] at HP; have HE := hide (dencode_any ao l cap rs w hl (by omega) (fun r h1 => by have := hr r h1; omega) h); have HL : Hid (labOf rs = (penI rs).map (xn ++ ·)) := by
      show labOf rs = _; unfold labOf; rw [if_neg (by simp [hpl])]
    clear hpl; go_enter Tryz.func58, Tryz.ntmps58; go_wp2_with fail
    refine (unhide HP).mono ?_; rintro e w1 ⟨rfl, hw⟩; subst hw; clear HP; go_wp2_with fail
    refine (unhide HE).mono ?_; rintro e w2 ⟨rfl, hx2⟩; clear HE; have F := hide (unhide FIN (xn ++ eS rs) (penI rs).isSome w2 (by rw [unhide HL]; simp) (fun t ht => by
      rw [unhide HL] at ht; obtain ⟨u, hu, rfl⟩ := Option.map_eq_some_iff.1 ht; unfold eS; rw [hu]; rfl) hx2)
    generalize xn ++ eS rs = u at *; generalize (penI rs).isSome = b at *; go_wp2; go_ret2; exact unhide F
  | true =>
    rw [hpl] at HP; have hlow : ∀ r ∈ rs, 0 ≤ r ∧ r ≤ 127 := fun r h1 => ⟨(hr r h1).1, by simpa using List.all_eq_true.1 hpl r h1⟩; have HC := conv_low w ao l cap rs hl h hlow; have HL : Hid (labOf rs = if (lowB rs).take 4 = xn ∧ known ((lowB rs).drop 4) = false then none else some (lowB rs)) := by
      show labOf rs = _; unfold labOf; rw [if_pos hpl]
    have hlen : (lowB rs).length = l := by unfold lowB; simpa using hl
    have hup : ∀ b ∈ lowB rs, ¬ (65 ≤ b.toNat ∧ b.toNat ≤ 90) := by
      intro b hb; obtain ⟨r, h1, rfl⟩ := List.mem_map.1 hb; have h2 := hr r h1; have h3 := hlow r h1; rw [UInt8.toNat_ofNat']; omega
    clear hpl hlow; generalize lowB rs = Z at *; have HX := hide (Tryz.strings_HasPrefix ⟨Z.toArray⟩ ⟨#[120, 110, 45, 45]⟩ w); rw [pre_iff] at HX; by_cases hpre : Z.take 4 = xn
    · obtain ⟨t, ht⟩ : ∃ t, Z = xn ++ t := ⟨Z.drop 4, by rw [← hpre, List.take_append_drop]⟩; subst ht; have hd : (xn ++ t).drop 4 = t := rfl; have HI := hide (isEncoded_any t w (by simp [xn] at hlen; omega) (fun b hb => hup b (List.mem_append_right _ hb)) tb); rw [show decide ((xn ++ t).take 4 = xn) = true by simpa using hpre] at HX; rw [hd] at HL; have HL2 : Hid (labOf rs = if known t = false then none else some (xn ++ t)) := by
        show labOf rs = _; rw [unhide HL]; simp [hpre]
      clear HL hd hpre hup tb hlen; generalize xn ++ t = Z at *
      cases hk : known t with
      | true =>
        rw [hk] at HI HL2; have F := hide (fun w' hx => unhide FIN Z true w' (by rw [unhide HL2]; simp) (fun u hu => by rw [unhide HL2] at hu; simpa using hu) hx); clear HL2 FIN hk; go_enter Tryz.func58, Tryz.ntmps58; go_wp2_with fail
        refine (unhide HP).mono ?_; rintro e w1 ⟨rfl, hw⟩; subst hw; clear HP; go_wp2_with fail
        refine (unhide HX).mono ?_; rintro e w1 ⟨rfl, hw⟩; subst hw; clear HX; go_wp2_with fail
        refine (unhide HI).mono ?_; rintro e w2 ⟨rfl, hx2⟩; clear HI; go_wp2; go_ret2; exact unhide F w2 hx2
      | false =>
        rw [hk] at HI HL2; have F := hide (fun w' hx => unhide FIN [] false w' (by rw [unhide HL2]; simp) (fun u hu => by rw [unhide HL2] at hu; simp at hu) hx); clear HL2 FIN hk; go_enter Tryz.func58, Tryz.ntmps58; go_wp2_with fail
        refine (unhide HP).mono ?_; rintro e w1 ⟨rfl, hw⟩; subst hw; clear HP; go_wp2_with fail
        refine (unhide HX).mono ?_; rintro e w1 ⟨rfl, hw⟩; subst hw; clear HX; go_wp2_with fail
        refine (unhide HI).mono ?_; rintro e w2 ⟨rfl, hx2⟩; clear HI; go_wp2; go_ret2; exact unhide F w2 hx2
    · rw [show decide (Z.take 4 = xn) = false by simpa using hpre] at HX; have HL2 : Hid (labOf rs = some Z) := by
        show labOf rs = _; rw [unhide HL]; simp [hpre]
      have F := hide (fun w' hx => unhide FIN Z true w' (by rw [unhide HL2]; simp) (fun u hu => by rw [unhide HL2] at hu; simpa using hu) hx); clear HL HL2 FIN hpre hup tb; go_enter Tryz.func58, Tryz.ntmps58; go_wp2_with fail
      refine (unhide HP).mono ?_; rintro e w1 ⟨rfl, hw⟩; subst hw; clear HP; go_wp2_with fail
      refine (unhide HX).mono ?_; rintro e w1 ⟨rfl, hw⟩; subst hw; clear HX; go_wp2; go_ret2; exact unhide F _ (Ext.refl _)
end Go.Proofs.YtenlampiiodkhaaGreatDoor
namespace Go.Proofs.YtenlampiiodkhaaGreatDoor
set_option linter.unusedVariables false
open Go.RowKit
def labAll : List (List Int) → Option (List (List UInt8))
  | [] => some []
  | l :: t => (labOf l).bind fun s => (labAll t).map (s :: ·)
theorem labAll_len : ∀ (ls : List (List Int)) (ss : List (List UInt8)), labAll ls = some ss → ss.length = ls.length
  | [], ss, h => by
    simp [labAll] at h; subst h; rfl
  | l :: t, ss, h => by
    rw [labAll] at h; obtain ⟨s, _, h2⟩ := Option.bind_eq_some_iff.1 h; obtain ⟨u, h3, rfl⟩ := Option.map_eq_some_iff.1 h2; simp [labAll_len t u h3]
theorem labAll_snoc (l : List Int) : ∀ (ls : List (List Int)), labAll (ls ++ [l]) = (labAll ls).bind fun ss => (labOf l).map fun s => ss ++ [s]
  | [] => by
    simp [labAll]
    cases labOf l <;> rfl
  | x :: t => by
    rw [List.cons_append, labAll, labAll_snoc l t, labAll]
    cases labOf x with
    | none => rfl
    | some s =>
      cases labAll t with
      | none => rfl
      | some ss => cases labOf l <;> rfl
theorem labAll_bad : ∀ (ls : List (List Int)) (k : Nat), k ≤ ls.length → labAll (ls.take k) = none → labAll ls = none := by
  intro ls
  induction ls with
  | nil => intro k hk h; simp [labAll] at h
  | cons x t ih =>
    intro k hk h
    cases k with
    | zero => simp [labAll] at h
    | succ k =>
      rw [List.take_succ_cons, labAll] at h; rw [labAll]
      cases hx : labOf x with
      | none => rfl
      | some s =>
        rw [hx] at h; simp at h; simp [ih k (by simpa using hk) h]
theorem infoS : (Tryz.prog.info? 9).map (fun i => (i.zero, i.size, i.bytes)) = some (some (.string ⟨#[]⟩), 1, 16) := by kernel_rfl
def TellsA (w : World) (ls : List (List Int)) (e : Ending) (w' : World) : Prop :=
  ((∃ ss v, labAll ls = some ss ∧ e = .returned (.tuple #[v, .bool true]) ∧ w'.ownsRow w.heap.size 9 1 v ss.length (ss.map S)) ∨ (labAll ls = none ∧ ∃ v, e = .returned (.tuple #[v, .bool false]))) ∧ Ext w w'
set_option maxHeartbeats 1000000 in
set_option maxRecDepth 100000 in
theorem writeAll_any (ao : Option Addr) (l cap : Nat) (vs : List Value) (ls : List (List Int)) (w : World) (hl : vs.length = l) (hm : l ≤ 1000) (h : RdV w ao cap vs) (hL : RdL w vs ls)
    (hr : ∀ row ∈ ls, row.length ≤ 800 ∧ ∀ r ∈ row, 0 ≤ r ∧ r ≤ 2147483647 ∧ ¬ (65 ≤ r ∧ r ≤ 90)) (tb : Tabs w) :
    Calls Tryz.prog 27 #[.slice ao l cap] w (TellsA w ls) := by
  subst hl; have hle := h.le; have hmx := h.max; have HLN := hide hL.1; have TB := hide (fun (w' : World) (hx : Below w.heap.size w w') => tb.below hx); clear tb; have HL := hide hL; clear hL; go_enter Tryz.func27, Tryz.ntmps27; go_wp2_with fail
  go_loopw [4, 11] (fun o i wr => ∃ (k : Nat) (ss : List (List UInt8)), k ≤ vs.length ∧ i = .int .i64 k ∧ Hid (labAll (ls.take k) = some ss) ∧ Hid (ss.length = k) ∧ wr.ownsRow w.heap.size 9 1 o ss.length (ss.map S) ∧ Below w.heap.size w wr) (fun _ i _ => vs.length - (intOf i).toNat)
  case atStart => exact ⟨0, [], by omega, rfl, rfl, rfl, World.ownsRow_nil _ _ _ _, Below.refl _ _⟩
  case round =>
    obtain ⟨k, ss, hk, rfl, HS, HN, own, hbr⟩ := hrel; by_cases hkl : k < vs.length
    · have hkL : k < ls.length := by
        have := unhide HLN; omega
      obtain ⟨b, off, rfl, hc⟩ := h.cells (by omega); obtain ⟨a1, c1, hv, hrd⟩ := (unhide HL).2 k (by omega); have c0 : wr.cell? ⟨b, off + k, none⟩ = some (.slice a1 (ls.getD k []).length c1) := by
        have h1 := hc k hkl; rw [hv] at h1; rw [← h1]; exact hbr.cell (p := ⟨b, off + k, none⟩) (cell_lt h1)
      have hmem : ls.getD k [] ∈ ls := by
        simp [List.getD, hkL]
      have HW := hide (write_any a1 _ c1 (ls.getD k []) wr rfl (hr _ hmem).1 (hr _ hmem).2 (hrd.below hbr) (unhide TB wr hbr)); have HT := hide (take_snoc ls k [] (by omega)); have HB := hide (fun (hn : labOf (ls.getD k []) = none) => labAll_bad ls (k + 1) (by omega) (by rw [unhide HT, labAll_snoc, unhide HS, hn]; rfl)); have HY := hide (fun (t : List UInt8) (hy : labOf (ls.getD k []) = some t) => (show labAll (ls.take (k + 1)) = some (ss ++ [t]) by rw [unhide HT, labAll_snoc, unhide HS, hy]; rfl)); have hssb : ss.length ≤ 1000 := by
        have := unhide HN; omega
      clear hc hv hrd hmem HT HS; generalize ls.getD k [] = row at *; go_wp2_with fail
      refine (unhide HW).mono ?_; rintro e w1 ⟨⟨s, rfl, hst⟩, hx1⟩; clear HW; have own1 := owns_below own hx1; have hb1 : Below w.heap.size w w1 := hbr.trans (Below.mono hx1 hbr.size); clear own hbr
      cases hlab : labOf row with
      | none =>
        have FF : Hid (∀ v, TellsA w ls (.returned (.tuple #[v, .bool false])) w1) := fun v => ⟨.inr ⟨unhide HB hlab, v, rfl⟩, hb1⟩; clear HB HY hst; go_wp2; go_ret2; exact unhide FF _
      | some t =>
        have es := hst t hlab; subst es; have HS2 := hide (unhide HY s hlab); clear HB HY hst hlab; have RL := RdV.lit w1 [S s] 9 (0, 0) (by simp); have own2 := owns_below own1 (Ext.alloc w1 (.cells #[S s] 9 (0, 0))); have hb2 : Below w.heap.size w (w1.alloc (.cells #[S s] 9 (0, 0))) := hb1.trans (Below.mono (Ext.alloc w1 _) hb1.size); have hbase2 := hb2.size; have hone : ∀ u ∈ [S s], u.oneCell' = true := by simp [Value.oneCell']
        clear own1 hb1; go_wp2_with (at_builtin; refine wpList_app rfl (.tmp 22) (.tmp 24) 28 9 (.string ⟨#[]⟩) 16 Tryz.underlying28 infoS rfl rfl w.heap.size _ _ _ rfl own2 _ _ _ [S s] rfl rfl RL hone (by omega) hbase2 ?_)
        intro v2 w2 o2 b2; clear own2 RL hone; have HO : Hid (w2.ownsRow w.heap.size 9 1 v2 (ss ++ [s]).length ((ss ++ [s]).map S)) := by
          show w2.ownsRow w.heap.size 9 1 v2 (ss ++ [s]).length ((ss ++ [s]).map S); rw [List.length_append, List.map_append]; exact o2
        have hb3 := hb2.trans b2; clear o2 b2 hb2; have kk : Hid ((∃ (k' : Nat) (ss' : List (List UInt8)), k' ≤ vs.length ∧ Value.int .i64 ((k : Int) + 1) = .int .i64 k' ∧ Hid (labAll (ls.take k') = some ss') ∧ Hid (ss'.length = k') ∧ w2.ownsRow w.heap.size 9 1 v2 ss'.length (ss'.map S) ∧ Below w.heap.size w w2) ∧ vs.length - ((k : Int) + 1).toNat < vs.length - k) :=
          ⟨⟨k + 1, ss ++ [s], by omega, by simp, HS2, (show (ss ++ [s]).length = k + 1 by rw [List.length_append, unhide HN]; rfl), unhide HO, hb3⟩, by omega⟩
        clear HO HS2 HN; go_wp2; exact unhide kk
    · have e : ls.take k = ls := List.take_of_length_le (by have := unhide HLN; omega); have hs := unhide HS; rw [e] at hs; have FF : Hid (∀ v, wr.ownsRow w.heap.size 9 1 v ss.length (ss.map S) → TellsA w ls (.returned (.tuple #[v, .bool true])) wr) := fun v hv => ⟨.inl ⟨ss, v, hs, rfl, hv⟩, hbr⟩; have OWN := hide own; clear hs HS own; go_wp2; go_ret2; exact unhide FF _ (unhide OWN)
end Go.Proofs.YtenlampiiodkhaaGreatDoor
namespace Go.Proofs.YtenlampiiodkhaaGreatDoor
set_option linter.unusedVariables false
open Go.RowKit
theorem wrong_tab : ∀ b : Fin 256, (decide (0 ≤ Lib.indexByte [35, 47, 58, 60, 62, 63, 64, 91, 92, 93, 94, 124, 37] (UInt8.ofNat b.val))) = [35, 47, 58, 60, 62, 63, 64, 91, 92, 93, 94, 124, 37].contains (UInt8.ofNat b.val) := by decide +kernel
set_option maxHeartbeats 1000000 in
theorem wrong_any (x : UInt8) (w : World) : Calls Tryz.prog 63 #[B x] w fun e w' => e = .returned (.bool (badB x)) ∧ w' = w := by
  have fin : ∀ b : Bool, b = badB x → Ending.returned (.bool b) = .returned (.bool (badB x)) := fun b h => by rw [h]
  have FIN := hide fin; clear fin; have HI := hide (Tryz.strings_IndexByte ⟨#[35, 47, 58, 60, 62, 63, 64, 91, 92, 93, 94, 124, 37]⟩ (x.toNat : Int) w); have ht := wrong_tab ⟨x.toNat, x.toNat_lt⟩; simp only [UInt8.ofNat_toNat] at ht; have ei : (((x.toNat : Int)).toNat.toUInt8) = x := by simp
  rw [ei] at HI; have hb := x.toNat_lt; have HB : Hid (badB x = (decide (x.toNat ≤ 32) || decide (x.toNat = 127) || decide (0 ≤ Lib.indexByte [35, 47, 58, 60, 62, 63, 64, 91, 92, 93, 94, 124, 37] x))) := by
    show badB x = _; unfold badB; rw [ht]
  clear ht ei; have HZ : ∃ z : Int, z = Lib.indexByte [35, 47, 58, 60, 62, 63, 64, 91, 92, 93, 94, 124, 37] x := ⟨_, rfl⟩; obtain ⟨z, hz⟩ := HZ; have HI2 : Hid (Calls Tryz.prog 102 #[.string ⟨#[35, 47, 58, 60, 62, 63, 64, 91, 92, 93, 94, 124, 37]⟩, .int .u8 (x.toNat : Int)] w fun e w' => e = .returned (.int .i64 z) ∧ w' = w) := by
    rw [hz]; exact HI
  rw [← hz] at HB; clear hz HI; go_enter Tryz.func63, Tryz.ntmps63; by_cases h1 : x.toNat ≤ 32
  · have h1' : (x.toNat : Int) ≤ 32 := by omega
    go_wp2; go_ret; exact ⟨unhide FIN _ (by rw [unhide HB]; simp [h1]), rfl⟩
  · have h1' : ¬ (x.toNat : Int) ≤ 32 := by omega
    by_cases h2 : x.toNat = 127
    · have h2b : ((x.toNat : Int) == 127) = true := by simp; omega
      have h2' : (x.toNat : Int) = 127 := by omega
      go_wp2; go_ret; exact ⟨unhide FIN _ (by rw [unhide HB]; simp [h2]), rfl⟩
    · have h2' : ¬ (x.toNat : Int) = 127 := by omega
      have h2b : ((x.toNat : Int) == 127) = false := by simpa using h2'
      go_wp2_with fail
      refine (unhide HI2).mono ?_; rintro e w2 ⟨rfl, hw⟩; subst hw; clear HI2; by_cases h3 : 0 ≤ z
      · go_wp2; go_ret; exact ⟨unhide FIN _ (by rw [unhide HB]; simp [h3]), rfl⟩
      · go_wp2; go_ret; exact ⟨unhide FIN _ (by rw [unhide HB]; simp [h1, h2]), rfl⟩
set_option maxHeartbeats 1000000 in
theorem short_any (s : List UInt8) (w : World) (hs : s.length ≤ 1000000) : Calls Tryz.prog 31 #[S s] w fun e w' => e = .returned (.bool (decide ((Lib.trimSuffix s [46]).length ≤ 253))) ∧ w' = w := by
  have HT := Tryz.strings_TrimSuffix ⟨s.toArray⟩ ⟨#[46]⟩ w (by rw [size_S]; omega); obtain ⟨t, ht⟩ : ∃ t, t = Lib.trimSuffix s [46] := ⟨_, rfl⟩; have HT2 : Hid (Calls Tryz.prog 62 #[S s, .string ⟨#[46]⟩] w fun e w' => e = .returned (S t) ∧ w' = w) := by
    rw [ht]; exact HT
  rw [← ht]; clear HT ht; have fin : ∀ b : Bool, b = decide (t.length ≤ 253) → Ending.returned (.bool b) = .returned (.bool (decide (t.length ≤ 253))) := fun b h => by rw [h]
  have FIN := hide fin; clear fin; by_cases h1 : t.length ≤ 253
  · have h1' : (t.length : Int) ≤ 253 := by omega
    go_enter Tryz.func31, Tryz.ntmps31; go_wp2_with fail
    refine (unhide HT2).mono ?_; rintro e w2 ⟨rfl, hw⟩; subst hw; clear HT2; go_wp2; go_ret; exact ⟨unhide FIN _ (by simp [h1]), rfl⟩
  · have h1' : ¬ (t.length : Int) ≤ 253 := by omega
    go_enter Tryz.func31, Tryz.ntmps31; go_wp2_with fail
    refine (unhide HT2).mono ?_; rintro e w2 ⟨rfl, hw⟩; subst hw; clear HT2; go_wp2; go_ret; exact ⟨unhide FIN _ (by simp [h1]; try omega), rfl⟩
end Go.Proofs.YtenlampiiodkhaaGreatDoor
namespace Go.Proofs.YtenlampiiodkhaaGreatDoor
set_option linter.unusedVariables false
open Go.RowKit
set_option maxHeartbeats 1000000 in
set_option maxRecDepth 100000 in
theorem hasWrong_any (s : List UInt8) (w : World) (hs : s.length ≤ 1000000) : Calls Tryz.prog 32 #[S s] w fun e w' => e = .returned (.bool (s.any badB)) ∧ w' = w := by
  have fin : ∀ b : Bool, b = s.any badB → Ending.returned (.bool b) = .returned (.bool (s.any badB)) := fun b h => by rw [h]
  have FIN := hide fin; clear fin; have hsz := size_S s; have hix : ∀ (v : World) (k : Nat), k < s.length → (Instr.index 9 (S s) (.int .i64 (k : Int))).run Tryz.prog v = .ok (B (s.getD k 0)) v := fun v k hk => idx_str v s .i64 k hk; have HIX := hide hix; clear hix; go_enter Tryz.func32, Tryz.ntmps32; go_wp2_with fail
  go_loopw [6] (fun i wr => ∃ k : Nat, k ≤ s.length ∧ i = .int .i64 k ∧ Hid (∀ b ∈ s.take k, badB b = false) ∧ wr = w) (fun i _ => s.length - (intOf i).toNat)
  case atStart => exact ⟨0, by omega, rfl, hide (by simp), rfl⟩
  case round =>
    obtain ⟨k, hk, rfl, HOK, hw⟩ := hrel; subst hw; by_cases hkl : k < s.length
    · have hx0 := unhide HIX wr k hkl; have HT := hide (take_snoc s k 0 hkl); have HMM := hide (show s.getD k 0 ∈ s by simp [List.getD, hkl]); have CC := hide (wrong_any (s.getD k 0) wr); generalize s.getD k 0 = x at *
      cases hx : badB x with
      | true =>
        rw [hx] at CC; have HF : Hid (true = s.any badB) := (List.any_eq_true.2 ⟨x, unhide HMM, hx⟩).symm; clear hx HOK HT HMM; go_wp2_with fail
        refine (unhide CC).mono ?_; rintro e w2 ⟨rfl, hw⟩; subst hw; clear CC; go_wp2; go_ret; exact ⟨unhide FIN _ (unhide HF), rfl⟩
      | false =>
        rw [hx] at CC; have HOK2 : Hid (∀ b ∈ s.take (k + 1), badB b = false) := by
          show ∀ b ∈ s.take (k + 1), badB b = false; rw [unhide HT]; intro b hb; rcases List.mem_append.1 hb with hb | hb
          · exact unhide HOK b hb
          · rw [List.mem_singleton] at hb; rw [hb]; exact hx
        clear hx HOK HT HMM; go_wp2_with fail
        refine (unhide CC).mono ?_; rintro e w2 ⟨rfl, hw⟩; subst hw; clear CC; go_wp2; exact ⟨⟨k + 1, by omega, by simp, HOK2, by first | rfl | trivial⟩, (show s.length - ((k : Int) + 1).toNat < s.length - ((k : Int)).toNat by omega)⟩
    · have hok := unhide HOK; rw [List.take_of_length_le (by omega)] at hok; have HF : Hid (false = s.any badB) := by
        show false = s.any badB; symm; rw [Bool.eq_false_iff]; intro ha; obtain ⟨b, hb, h2⟩ := List.any_eq_true.1 ha; rw [hok b hb] at h2
        cases h2
      clear hok HOK; go_wp2; go_ret; exact ⟨unhide FIN _ (unhide HF), rfl⟩
end Go.Proofs.YtenlampiiodkhaaGreatDoor
namespace Go.Proofs.YtenlampiiodkhaaGreatDoor
set_option linter.unusedVariables false
open Go.RowKit
def szAt (n i : Nat) (s : List UInt8) : Bool := decide (s.length ≤ 63) && (decide (s ≠ []) || (decide (i + 1 = n) && decide (0 < i)))
def szAll (ss : List (List UInt8)) : Bool := (List.range ss.length).all fun i => szAt ss.length i (ss.getD i [])
theorem S_empty (s : List UInt8) : ((⟨s.toArray⟩ : ByteArray) = ⟨#[]⟩) ↔ s = [] := by
  constructor
  · intro h; have := congrArg (fun b : ByteArray => b.data.toList) h; simpa using this
  · rintro rfl; rfl
set_option maxHeartbeats 1000000 in
set_option maxRecDepth 100000 in
theorem sizes_any (ao : Option Addr) (l cap : Nat) (ss : List (List UInt8)) (w : World) (hl : ss.length = l) (hm : l ≤ 1000) (h : RdV w ao cap (ss.map S)) :
    Calls Tryz.prog 29 #[.slice ao l cap] w fun e w' => e = .returned (.bool (szAll ss)) ∧ w' = w := by
  subst hl; have hle := h.le; have hmx := h.max; simp only [List.length_map] at hle; have fin : ∀ b : Bool, b = szAll ss → Ending.returned (.bool b) = .returned (.bool (szAll ss)) := fun b h => by rw [h]
  have FIN := hide fin; clear fin; go_enter Tryz.func29, Tryz.ntmps29; go_wp2_with fail
  go_loopw [12] (fun i wr => ∃ k : Nat, k ≤ ss.length ∧ i = .int .i64 k ∧ Hid (∀ i, i < k → szAt ss.length i (ss.getD i []) = true) ∧ wr = w) (fun i _ => ss.length - (intOf i).toNat)
  case atStart => exact ⟨0, by omega, rfl, hide (fun i hi => absurd hi (by omega)), rfl⟩
  case round =>
    obtain ⟨k, hk, rfl, HOK, hw⟩ := hrel; subst hw; by_cases hkl : k < ss.length
    · obtain ⟨b, off, rfl, hc⟩ := h.cells (by simp; omega); have c0 : wr.cell? ⟨b, off + k, none⟩ = some (S (ss.getD k [])) := by
        rw [hc k (by simpa using hkl)]; simp [List.getD, hkl]
      clear hc; have HGO : Hid (szAt ss.length k (ss.getD k []) = true → ∀ i, i < k + 1 → szAt ss.length i (ss.getD i []) = true) := fun hx i hi => by
        rcases Nat.lt_or_ge i k with h | h
        · exact unhide HOK i h
        · have : i = k := by omega
          subst this; exact hx
      have HNO : Hid (szAt ss.length k (ss.getD k []) = false → false = szAll ss) := fun hx => by
        symm; rw [Bool.eq_false_iff]; intro ha; have := List.all_eq_true.1 ha k (List.mem_range.2 hkl); rw [hx] at this
        cases this
      generalize ss.getD k [] = s at *; have hsz := size_S s; have hse := S_empty s; by_cases h63 : s.length ≤ 63
      · have h63' : ¬ 63 < (s.length : Int) := by omega
        by_cases hs : s = []
        · subst hs; by_cases hlast : k + 1 = ss.length ∧ 0 < k
          · have h1 : (k : Int) = (ss.length : Int) - 1 := by omega
            have h2 : 0 < (k : Int) := by omega
            have HOK2 := hide (unhide HGO (by unfold szAt; simp [hlast])); have e1 : ((k : Int) == (ss.length : Int) - 1) = true := by simpa using h1
            clear HOK HGO HNO; have H1 := hide h1; clear h1 hlast; go_wp2; exact ⟨⟨k + 1, by omega, by simp, HOK2, by first | rfl | trivial⟩, (show ss.length - ((k : Int) + 1).toNat < ss.length - ((k : Int)).toNat by omega)⟩
          · have HF := hide (unhide HNO (by unfold szAt; simp; omega)); clear HOK HGO HNO; by_cases e1 : (k : Int) = (ss.length : Int) - 1
            · have h2 : ¬ 0 < (k : Int) := by omega
              have e2 : ((k : Int) == (ss.length : Int) - 1) = true := by simpa using e1
              have H1 := hide e1; clear e1 hlast; go_wp2; go_ret; exact ⟨unhide FIN _ (unhide HF), rfl⟩
            · have e2 : ((k : Int) == (ss.length : Int) - 1) = false := by simpa using e1
              clear hlast; go_wp2; go_ret; exact ⟨unhide FIN _ (unhide HF), rfl⟩
        · have HOK2 := hide (unhide HGO (by unfold szAt; simp [hs, h63])); have hne : ¬ ((⟨s.toArray⟩ : ByteArray) = ⟨#[]⟩) := fun e => hs (hse.1 e); have hie : s.isEmpty = false := by simpa using hs
          clear HOK HGO HNO hse; by_cases e1 : (k : Int) = (ss.length : Int) - 1
          · have e2 : ((k : Int) == (ss.length : Int) - 1) = true := by simpa using e1
            have H1 := hide e1; clear e1; by_cases h2 : 0 < (k : Int)
            · go_wp2; exact ⟨⟨k + 1, by omega, by simp, HOK2, by first | rfl | trivial⟩, (show ss.length - ((k : Int) + 1).toNat < ss.length - ((k : Int)).toNat by omega)⟩
            · go_wp2; exact ⟨⟨k + 1, by omega, by simp, HOK2, by first | rfl | trivial⟩, (show ss.length - ((k : Int) + 1).toNat < ss.length - ((k : Int)).toNat by omega)⟩
          · have e2 : ((k : Int) == (ss.length : Int) - 1) = false := by simpa using e1
            go_wp2; exact ⟨⟨k + 1, by omega, by simp, HOK2, by first | rfl | trivial⟩, (show ss.length - ((k : Int) + 1).toNat < ss.length - ((k : Int)).toNat by omega)⟩
      · have h63' : 63 < (s.length : Int) := by omega
        have h63n : 63 < s.length := by omega
        have HF := hide (unhide HNO (by unfold szAt; simp [h63])); have hne : ¬ ((⟨s.toArray⟩ : ByteArray) = ⟨#[]⟩) := fun e => by
          have := hse.1 e; subst this; simp at h63'
        have hie : s.isEmpty = false := by
          cases s with
          | nil => simp at h63n
          | cons _ _ => rfl
        clear HOK HGO HNO hse; by_cases e1 : (k : Int) = (ss.length : Int) - 1
        · have e2 : ((k : Int) == (ss.length : Int) - 1) = true := by simpa using e1
          have H1 := hide e1; clear e1; by_cases h2 : 0 < (k : Int)
          · go_wp2; go_ret; exact ⟨unhide FIN _ (unhide HF), rfl⟩
          · go_wp2; go_ret; exact ⟨unhide FIN _ (unhide HF), rfl⟩
        · have e2 : ((k : Int) == (ss.length : Int) - 1) = false := by simpa using e1
          go_wp2; go_ret; exact ⟨unhide FIN _ (unhide HF), rfl⟩
    · have HF : Hid (true = szAll ss) := by
        show true = szAll ss; symm; unfold szAll; rw [List.all_eq_true]; intro i hi; exact unhide HOK i (by have := List.mem_range.1 hi; omega)
      clear HOK; go_wp2; go_ret; exact ⟨unhide FIN _ (unhide HF), rfl⟩
end Go.Proofs.YtenlampiiodkhaaGreatDoor
namespace Go.Proofs.YtenlampiiodkhaaGreatDoor
set_option linter.unusedVariables false
open Go.RowKit
def szF : Bool → List (List UInt8) → Bool
  | _, [] => true
  | first, s :: t => (decide (s.length ≤ 63) && (decide (s ≠ []) || (t.isEmpty && !first))) && szF false t
theorem labAll_nil {rs : List (List Int)} {ss : List (List UInt8)} (h : labAll rs = some ss) : ss.isEmpty = rs.isEmpty := by
  have := labAll_len rs ss h
  cases ss <;> cases rs <;> simp_all
theorem labs_all : ∀ (rs : List (List Int)) (first : Bool), labs first rs = (labAll rs).bind fun ss => if szF first ss = true then some ss else none
  | [], first => by simp [labs, labAll, szF]
  | r :: rs, first => by
    rw [labs, labAll]
    cases hl : labOf r with
    | none => rfl
    | some s =>
      have ih := labs_all rs false
      cases ha : labAll rs with
      | none =>
        rw [ha] at ih; simp only [Option.bind_none] at ih; simp [ih]
      | some ss =>
        rw [ha] at ih; have he := labAll_nil ha; have het : (rs = []) = (ss.isEmpty = true) := by
          rw [he]; simp
        simp only [Option.bind_some] at ih ⊢; simp only [Option.map_some, Option.bind_some, szF]; rw [ih]; by_cases h1 : s.length ≤ 63
        · by_cases h2 : s = []
          · subst h2
            cases first with
            | true => simp
            | false =>
              by_cases h3 : rs = []
              · have h4 : ss.isEmpty = true := by rw [← het]; exact h3
                by_cases hz : szF false ss = true <;> simp [hz, h3, h4]
              · have h4 : ss.isEmpty = false := by
                  rw [Bool.eq_false_iff]; intro h5; rw [← het] at h5; exact h3 h5
                simp [h3, h4]
          · by_cases hz : szF false ss = true <;> simp [hz, h1, h2]
        · simp [h1]
theorem szF_from (n : Nat) : ∀ (t : List (List UInt8)) (k : Nat), k + t.length = n → ((List.range t.length).all fun i => szAt n (k + i) (t.getD i [])) = szF (decide (k = 0)) t
  | [], k, _ => rfl
  | s :: t, k, h => by
    have ih := szF_from n t (k + 1) (by simp at h; omega); rw [List.length_cons, List.range_succ_eq_map, List.all_cons, List.all_map, szF]; have e : ((List.range t.length).all ((fun i => szAt n (k + i) ((s :: t).getD i [])) ∘ Nat.succ)) = ((List.range t.length).all fun i => szAt n (k + 1 + i) (t.getD i [])) := by
      congr 1; funext i; show szAt n (k + (i + 1)) _ = _; rw [show k + (i + 1) = k + 1 + i by omega]; rfl
    rw [e, ih, show decide (k + 1 = 0) = false by simp]; congr 1; unfold szAt; have e1 : decide (k + 0 + 1 = n) = t.isEmpty := by
      cases t with
      | nil => simp at h ⊢; omega
      | cons _ _ => simp at h ⊢; omega
    have e2 : decide (0 < k + 0) = !decide (k = 0) := by
      by_cases h0 : k = 0
      · simp [h0]
      · simp [h0]; omega
    rw [e1, e2]; rfl
theorem szAll_eq (ss : List (List UInt8)) : szAll ss = szF true ss := by
  have := szF_from ss.length ss 0 (by simp); unfold szAll; rw [← show decide ((0 : Nat) = 0) = true from rfl, ← this]; simp
theorem join_eq : ∀ ss : List (List UInt8), Lib.join ss [46] = joinD ss
  | [] => rfl
  | [s] => by simp [Lib.join, List.intercalate, joinD]
  | s :: s' :: t => by
    have ih := join_eq (s' :: t); unfold Lib.join at ih ⊢; show _ = s ++ 46 :: joinD (s' :: t); rw [← ih]; simp [List.intercalate, List.intersperse]
theorem outOk_eq (s : List UInt8) : outOk s = (decide ((Lib.trimSuffix s [46]).length ≤ 253) && !(s.any badB)) := by
  have e1 : (s.all fun b => !badB b) = !(s.any badB) := by
    rw [← List.not_any_eq_all_not]
  have e2 : (Lib.trimSuffix s [46]).length = s.length - (if s.getLast? = some 46 then 1 else 0) := by
    unfold Lib.trimSuffix Lib.hasSuffix; by_cases h : s.getLast? = some 46
    · obtain ⟨a, rfl⟩ := List.getLast?_eq_some_iff.1 h; rw [if_pos (by simp), if_pos h]; simp
    · rw [if_neg h, if_neg]
      · simp
      · intro hs; rw [List.isSuffixOf_iff_suffix] at hs; obtain ⟨t, rfl⟩ := hs; simp at h
  unfold outOk; rw [e1, e2, Bool.and_comm]
def nS (o : Option (List UInt8)) : List UInt8 := o.getD []
def nE (o : Option (List UInt8)) : Int := if o.isSome = true then 0 else 5
theorem rows_len : ∀ (l : List Int), (rows l).length ≤ l.length + 1
  | [] => by simp [rows]
  | r :: l => by
    have ih := rows_len l; rw [rows]
    split
    · simp; omega
    · cases h : rows l with
      | nil => simp
      | cons x t =>
        rw [h] at ih; simp at ih ⊢; omega
theorem rows_each : ∀ (l : List Int) (row : List Int), row ∈ rows l → row.length ≤ l.length
  | [], row, h => by
    simp [rows] at h; subst h; simp
  | x :: l, row, h => by
    rw [rows] at h; by_cases hx : x = 46
    · rw [if_pos hx] at h; rcases List.mem_cons.1 h with rfl | h
      · simp
      · have := rows_each l row h; simp; omega
    · rw [if_neg hx] at h
      cases hl : rows l with
      | nil => exact absurd hl (rows_ne l)
      | cons y t =>
        rw [hl] at h; simp only at h; rcases List.mem_cons.1 h with rfl | h
        · have := rows_each l y (by rw [hl]; exact List.mem_cons_self ..); simp; omega
        · have := rows_each l row (by rw [hl]; exact List.mem_cons_of_mem _ h); simp; omega
theorem decF_cp : ∀ (f : Nat) (bs : List UInt8), ∀ r ∈ decF f bs, 0 ≤ r ∧ r ≤ 1114111
  | 0, bs, r, h => by cases h
  | f + 1, bs, r, h => by
    rw [decF] at h
    split at h
    · cases h
    · split at h
      · rename_i x n ha; rcases List.mem_cons.1 h with rfl | h
        · obtain ⟨_, _, h1, _, _, h2, _⟩ := at1_len ha; refine ⟨Int.natCast_nonneg _, ?_⟩; unfold ush at h2
          repeat' split at h2
          all_goals omega
        · exact decF_cp f _ r h
      · rcases List.mem_cons.1 h with rfl | h
        · omega
        · exact decF_cp f _ r h
theorem dec_cp (b : List UInt8) : ∀ r ∈ dec b, 0 ≤ r ∧ r ≤ 1114111 := decF_cp _ _
theorem mpo_le {r : Int} (h : 0 ≤ r) (h2 : r ≤ 1114111) (hk : mpk r = true) : mpo r ≤ 2147483647 := by
  have hl : lost r = false := by unfold mpk at hk; simpa using hk
  rw [mpo_of hl]; rcases wide_cases r with ⟨hw, ew⟩ | ⟨hw, ew⟩ <;> rw [ew] <;>
    rcases small_cases (wide r) with ⟨hs, es⟩ | ⟨hs, es⟩ | ⟨hs, es⟩ | ⟨hs, es⟩ | ⟨hs, es⟩ <;> rw [ew] at hs es <;> rw [es] <;> omega
theorem txt_le : ∀ (l : List Int), (∀ r ∈ l, 0 ≤ r ∧ r ≤ 1114111) → ∀ r ∈ txt l, r ≤ 2147483647
  | [], _, r, h => by cases h
  | x :: l, hl, r, h => by
    rw [txt] at h
    split at h
    · rename_i hk; rcases List.mem_cons.1 h with rfl | h
      · exact mpo_le (hl x (List.mem_cons_self ..)).1 (hl x (List.mem_cons_self ..)).2 hk
      · exact txt_le l (fun y hy => hl y (List.mem_cons_of_mem _ hy)) r h
    · exact txt_le l (fun y hy => hl y (List.mem_cons_of_mem _ hy)) r h
theorem txt_row (b : List UInt8) : ∀ r ∈ txt (dec b), 0 ≤ r ∧ r ≤ 2147483647 ∧ ¬ (65 ≤ r ∧ r ≤ 90) := by
  intro r hr; have h0 := txt_nonneg _ (decF_nonneg _ _) r hr; refine ⟨h0, txt_le _ (dec_cp b) r hr, fun hl => ?_⟩; have hf := (txt_fixed hr).2; have := large_not ⟨r.toNat, by omega⟩ (by show 65 ≤ r.toNat ∧ r.toNat ≤ 90; omega); simp only at this; rw [Int.toNat_of_nonneg h0] at this; exact this hf
theorem joinD_len : ∀ ss : List (List UInt8), (∀ s ∈ ss, s.length ≤ 63) → (joinD ss).length ≤ 64 * ss.length
  | [], _ => by simp [joinD]
  | [s], h => by
    have := h s (by simp); simp [joinD]; omega
  | s :: s' :: t, h => by
    have ih := joinD_len (s' :: t) fun x hx => h x (List.mem_cons_of_mem _ hx); have := h s (by simp); show (s ++ 46 :: joinD (s' :: t)).length ≤ _; rw [List.length_append, List.length_cons]; simp at ih ⊢; omega
theorem szF_len : ∀ (ss : List (List UInt8)) (first : Bool), szF first ss = true → ∀ s ∈ ss, s.length ≤ 63
  | [], _, _, s, h => by cases h
  | x :: t, first, h, s, hs => by
    rw [szF] at h; simp only [Bool.and_eq_true, decide_eq_true_eq] at h; rcases List.mem_cons.1 hs with rfl | hs
    · exact h.1.1
    · exact szF_len t false h.2 s hs
theorem nam_some {b : List UInt8} (hb : b.length ≤ 400) (hn : ¬ (65533 : Int) ∈ txt (dec b)) : nam b = (labAll (rows (txt (dec b)))).bind fun ss => if szAll ss = true then (if outOk (joinD ss) = true then some (joinD ss) else none) else none := by
  unfold nam; rw [if_pos ⟨hb, hn⟩, labs_all]
  cases labAll (rows (txt (dec b))) with
  | none => rfl
  | some ss =>
    simp only [Option.bind_some]; rw [szAll_eq]; by_cases h : szF true ss = true
    · rw [if_pos h, if_pos h]; rfl
    · rw [if_neg h, if_neg h]; rfl
theorem join_any (g cap : Nat) (ss : List (List UInt8)) (w : World) (h0 : 0 < ss.length) (hn : ss.length ≤ 1000) (h63 : ∀ s ∈ ss, s.length ≤ 63) (hr : RdV w (some ⟨g, 0, none⟩) cap (ss.map S)) (hg : g < w.heap.size) :
    Calls Tryz.prog 30 #[.slice (some ⟨g, 0, none⟩) ss.length cap, .string ⟨#[46]⟩] w fun e w' => e = .returned (S (joinD ss)) ∧ Ext w w' := by
  have hle := hr.le; simp only [List.length_map] at hle; have e1 : ((ss.map fun s => (⟨s.toArray⟩ : ByteArray)).map fun b : ByteArray => b.data.toList) = ss := by
    rw [List.map_map]
    conv => rhs; rw [← List.map_id ss]
    apply List.map_congr_left; intro s _; simp
  have hj := joinD_len ss h63; have h := Tryz.strings_Join g 0 cap (ss.map fun s => (⟨s.toArray⟩ : ByteArray)) ⟨#[46]⟩ w (fun j x hx => by
    rw [List.getElem?_map] at hx; obtain ⟨s, hs, rfl⟩ := Option.map_eq_some_iff.1 hx; have hj : j < ss.length := (List.getElem?_eq_some_iff.1 hs).1; obtain ⟨b', off', eb, hc⟩ := hr.cell j (by simpa using hj); simp only [Option.some.injEq, Addr.mk.injEq] at eb; obtain ⟨rfl, rfl, _⟩ := eb; rw [hc, List.getElem?_map, hs]; rfl) hg (by simp; omega) (by simpa using hle) (by rw [e1]; show (Lib.join ss [46]).length ≤ _; rw [join_eq]; omega)
  rw [e1, List.length_map] at h; have e2 : Lib.join ss (⟨#[46]⟩ : ByteArray).data.toList = joinD ss := join_eq ss; rw [e2] at h; exact h
end Go.Proofs.YtenlampiiodkhaaGreatDoor
namespace Go.Proofs.YtenlampiiodkhaaGreatDoor
set_option linter.unusedVariables false
open Go.RowKit
theorem nam_long {b : List UInt8} (h : ¬ b.length ≤ 400) : nam b = none := by
  unfold nam; rw [if_neg (fun h2 => h h2.1)]
theorem nam_fffd {b : List UInt8} (h : (65533 : Int) ∈ txt (dec b)) : nam b = none := by
  unfold nam; rw [if_neg (fun h2 => h2.2 h)]
set_option maxHeartbeats 2000000 in
set_option maxRecDepth 100000 in
theorem ascii_any (ao : Option Addr) (l cap : Nat) (b : List UInt8) (w : World) (hl : b.length = l) (h : RdV w ao cap (b.map B)) (tb : Tabs w) :
    Calls Tryz.prog 9 #[.slice ao l cap] w fun e w' => e = .returned (.tuple #[S (nS (nam b)), .int .i64 (nE (nam b))]) ∧ Ext w w' := by
  have no : nam b = none → Ending.returned (.tuple #[.string ⟨#[]⟩, .int .i64 5]) = .returned (.tuple #[S (nS (nam b)), .int .i64 (nE (nam b))]) := fun h => by rw [h]; rfl
  have yes : ∀ z, nam b = some z → Ending.returned (.tuple #[S z, .int .i64 0]) = .returned (.tuple #[S (nS (nam b)), .int .i64 (nE (nam b))]) := fun z h => by rw [h]; rfl
  have NO := hide no; have YES := hide yes; clear no yes; subst hl; have hle := h.le; have hmx := h.max; simp only [List.length_map] at hle; have TB := hide (fun (w' : World) (hx : Ext w w') => tb.below hx); clear tb; by_cases h400 : b.length ≤ 400
  · have h400' : ¬ 400 < (b.length : Int) := by omega
    have HD := hide (utf_decode_any ao b.length cap b w rfl (by omega) h); have hdl := dec_len b; have htl := txt_len (dec b); have HCP := hide (fun r hr => (show -2147483648 ≤ r ∧ r ≤ 2147483647 by have := dec_cp b r hr; omega)); have HRW := hide (txt_row b); have HF := hide (nam_fffd (b := b)); have HS := hide (fun hn => nam_some (b := b) h400 hn); generalize nS (nam b) = z1 at *; generalize nE (nam b) = z2 at *; generalize nam b = nm at *; generalize dec b = ds at *; go_enter Tryz.func9, Tryz.ntmps9; go_wp2_with fail
    refine (unhide HD).mono ?_; rintro e w1 ⟨a1, c1, rfl, hr1, hx1⟩; clear HD; rw [List.length_map]; have HT := hide (text_any a1 ds.length c1 ds w1 rfl (by omega) (unhide HCP) hr1 (unhide TB w1 hx1)); clear HCP hr1; generalize txt ds = ts at *; go_wp2_with fail
    refine (unhide HT).mono ?_; rintro e w2 ⟨a2, c2, rfl, hr2, hy⟩; clear HT; have hx2 := hx1.trans hy; clear hy; rw [List.length_map]; have HC := hide (contains_any a2 ts.length c2 ts 65533 w2 rfl (by omega) hr2); go_wp2_with fail
    refine (unhide HC).mono ?_; rintro e w3 ⟨rfl, hw⟩; subst hw; clear HC; by_cases hf : (65533 : Int) ∈ ts
    · have HN := hide (unhide NO (unhide HF hf)); rw [decide_eq_true hf]; clear NO YES HF HS HRW hf hr2 h; go_wp2; go_ret2; exact ⟨unhide HN, hx2⟩
    · rw [decide_eq_false hf]; have hs := unhide HS hf; rw [hs] at NO YES; clear hs HF HS hf; have HK := hide (cut_any a2 ts.length c2 ts w3 rfl (by omega) hr2); have hrl := rows_len ts; have HRE := hide (rows_each ts); have HRM := hide (rows_mem ts); have h1r := List.length_pos_iff.2 (rows_ne ts); clear hr2; generalize rows ts = rs at *; go_wp2_with fail
      refine (unhide HK).mono ?_; rintro e w4 ⟨v, vs, rfl, own, hrd, hb4⟩; clear HK; obtain ⟨a4, c4, rfl, hr4, _⟩ := RdV.of_owned own; have hx4 : Ext w w4 := hx2.trans hb4; have hvl : vs.length = rs.length := hrd.1; have HW := hide (writeAll_any a4 vs.length c4 vs rs w4 rfl (by omega) hr4 (hrd.below hb4) (fun row hrow => ⟨by have := unhide HRE row hrow; omega, fun r hr => unhide HRW r ((unhide HRM row hrow r hr).1)⟩) (unhide TB w4 hx4)); clear own hrd hr4 HRE HRM HRW hb4; have HVL := hide hvl; clear hvl; go_wp2_with fail
      refine (unhide HW).mono ?_; rintro e w5 ⟨hh, hy⟩; have hx5 := hx4.trans hy; clear HW hy; rcases hh with ⟨ss, v5, hla, rfl, own5⟩ | ⟨hla, v5, rfl⟩
      · rw [hla] at NO YES; simp only [Option.bind_some] at NO YES; have hsl := labAll_len rs ss hla; rcases own5.2 with ⟨_, h0⟩ | ⟨g, cap5, cur, rfl, _, hcur, _⟩
        · omega
        · have hr5 := RdV.of_owned_at own5; have hg : g < w5.heap.size := by
            rcases Nat.lt_or_ge g w5.heap.size with h' | h'
            · exact h'
            · simp [Array.getElem?_eq_none h'] at hcur
          have HZ := hide (sizes_any (some ⟨g, 0, none⟩) ss.length cap5 ss w5 rfl (by omega) hr5); have HSL := hide hsl; clear own5 hcur hla hsl; go_wp2_with fail
          refine (unhide HZ).mono ?_; rintro e w6 ⟨rfl, hw⟩; subst hw; clear HZ
          cases hz : szAll ss with
          | false =>
            rw [hz] at NO; have HN := hide (unhide NO rfl); clear NO YES hz hr5 h; go_wp2; go_ret2; exact ⟨unhide HN, hx5⟩
          | true =>
            rw [hz] at NO YES; simp only [if_true] at NO YES; have h63 := szF_len ss true (by rw [← szAll_eq]; exact hz); have HJ := hide (join_any g cap5 ss w6 (by have := unhide HSL; omega) (by have := unhide HSL; omega) h63 hr5 hg); have hjl := joinD_len ss h63; have hsl1 : ss.length ≤ 1000 := by have := unhide HSL; omega
            rw [outOk_eq] at NO YES; clear hz h63 hr5 hg h; generalize joinD ss = J at *; go_wp2_with fail
            refine (unhide HJ).mono ?_; rintro e w7 ⟨rfl, hy⟩; have hx7 := hx5.trans hy; clear HJ hy; have HSH := hide (short_any J w7 (by omega)); have HWB := hide (hasWrong_any J w7 (by omega)); generalize decide ((Lib.trimSuffix J [46]).length ≤ 253) = p1 at *; generalize J.any badB = p2 at *
            cases p1 with
            | false =>
              have HN := hide (unhide NO rfl); clear NO YES HWB; go_wp2_with fail
              refine (unhide HSH).mono ?_; rintro e w8 ⟨rfl, hw⟩; subst hw; clear HSH; go_wp2; go_ret2; exact ⟨unhide HN, hx7⟩
            | true =>
              cases p2 with
              | true =>
                have HN := hide (unhide NO rfl); clear NO YES; go_wp2_with fail
                refine (unhide HSH).mono ?_; rintro e w8 ⟨rfl, hw⟩; subst hw; clear HSH; go_wp2_with fail
                refine (unhide HWB).mono ?_; rintro e w8 ⟨rfl, hw⟩; subst hw; clear HWB; go_wp2; go_ret2; exact ⟨unhide HN, hx7⟩
              | false =>
                have HN := hide (unhide YES J rfl); clear NO YES; go_wp2_with fail
                refine (unhide HSH).mono ?_; rintro e w8 ⟨rfl, hw⟩; subst hw; clear HSH; go_wp2_with fail
                refine (unhide HWB).mono ?_; rintro e w8 ⟨rfl, hw⟩; subst hw; clear HWB; go_wp2; go_ret2; exact ⟨unhide HN, hx7⟩
      · rw [hla] at NO; have HN := hide (unhide NO rfl); clear NO YES hla h; go_wp2; go_ret2; exact ⟨unhide HN, hx5⟩
  · have h400' : 400 < (b.length : Int) := by omega
    have HN := hide (unhide NO (nam_long h400)); clear NO YES h; generalize nS (nam b) = z1 at *; generalize nE (nam b) = z2 at *; go_enter Tryz.func9, Tryz.ntmps9; go_wp2; go_ret2; exact ⟨unhide HN, Ext.refl _⟩
end Go.Proofs.YtenlampiiodkhaaGreatDoor
