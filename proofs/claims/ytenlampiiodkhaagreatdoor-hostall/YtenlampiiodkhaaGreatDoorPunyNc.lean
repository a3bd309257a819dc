/-
  PunyN.
-/
import Derived.Test.YtenlampiiodkhaaGreatDoorBSc
namespace Go.Proofs.YtenlampiiodkhaaGreatDoor
set_option linter.unusedVariables false
open Go.RowKit
theorem infoB : (Tryz.prog.info? 5).map (fun i => (i.zero, i.size, i.bytes)) = some (some (.int .u8 0), 1, 1) := by kernel_rfl
theorem conv_str (w : World) (ao : Option Addr) (n cap : Nat) (bs : List UInt8) (hl : bs.length = n) (h : RdV w ao cap (bs.map B)) :
    (convert 22 9 (.slice ao n cap)).run Tryz.prog w = .ok (.string ⟨bs.toArray⟩) w := by
  subst hl
  cases ao with
  | none =>
    have h0 := h.nil rfl; have hle := h.le; have hy : bs = [] := List.eq_nil_of_length_eq_zero (by simp at hle; omega); subst hy; rw [run_convert_bytes_string w 22 9 5 none _ cap Tryz.underlying22 Tryz.underlying5 Tryz.underlying9]; simp [Conv.bytesToString, Sem.run_pure]; rfl
  | some a =>
    refine run_convert_bytes_back w 22 9 5 a cap bs Tryz.underlying22 Tryz.underlying5 Tryz.underlying9 fun j hj => ?_; have := h.news a rfl j (B bs[j]) (by simp [hj]); exact this
def okc (r : Int) : Prop := 0 ≤ r ∧ cp r.toNat = true
theorem sh_ok {r : Int} (h : okc r) : sh r ≠ 0 := by
  obtain ⟨h1, h2⟩ := h; unfold cp at h2; simp at h2; unfold sh; rw [if_neg (by omega)]
  split
  · omega
  · split
    · omega
    · split <;> omega
theorem sh_no {r : Int} (h : ¬ okc r) : sh r = 0 := by
  unfold sh; rw [if_pos]; refine Classical.byContradiction fun hc => h ⟨by omega, ?_⟩; unfold cp; simp; omega
def low (rs : List Int) : List UInt8 := (lt 128 (rs.map Int.toNat)).map UInt8.ofNat
theorem low_snoc (rs : List Int) (x : Int) : low (rs ++ [x]) = low rs ++ (if x.toNat < 128 then [UInt8.ofNat x.toNat] else []) := by
  unfold low lt; rw [List.map_append, List.filter_append, List.map_append]; congr 1; simp only [List.map_cons, List.map_nil, List.filter_cons, List.filter_nil]
  split <;> rename_i h <;> simp at h
  · rw [if_pos (by omega)]; rfl
  · rw [if_neg (by omega)]; rfl
theorem low_len (rs : List Int) : (low rs).length ≤ rs.length := by
  unfold low lt; have := List.length_filter_le (fun x => decide (x < 128)) (rs.map Int.toNat); simp at this ⊢; omega
theorem getD_range {rs : List Int} (hr : ∀ r ∈ rs, -2147483648 ≤ r ∧ r ≤ 2147483647) (k : Nat) (h : k < rs.length) : -2147483648 ≤ rs.getD k 0 ∧ rs.getD k 0 ≤ 2147483647 := by
  have : rs.getD k 0 = rs[k] := by simp [List.getD, h]
  rw [this]; exact hr _ (List.getElem_mem h)
theorem penI_no {rs : List Int} (h : ∃ r ∈ rs, ¬ okc r) : penI rs = none := by
  obtain ⟨r, hr, hn⟩ := h; unfold penI
  split
  · rename_i h0; unfold penc; rw [if_neg]; rintro ⟨_, h2⟩; have h3 := List.all_eq_true.1 h2 r.toNat (List.mem_map.2 ⟨r, hr, rfl⟩); have h4 := List.all_eq_true.1 h0 r hr; simp only [decide_eq_true_eq] at h4; exact hn ⟨h4, h3⟩
  · rfl
theorem penI_long {rs : List Int} (h : 63 < rs.length) : penI rs = none := by
  unfold penI
  split
  · unfold penc; rw [if_neg]; rintro ⟨h1, _⟩; simp at h1; omega
  · rfl
theorem penI_yes {rs : List Int} (h : ∀ r ∈ rs, okc r) (hl : rs.length ≤ 63) : penI rs = some (low rs ++ (if low rs = [] then [] else [45]) ++ (digs 72 (low rs).length true (dts rs.length 128 0 (low rs).length (rs.map Int.toNat))).map letter) := by
  have h0 : rs.all (fun r => decide (0 ≤ r)) = true := List.all_eq_true.2 fun r hr => by simpa using (h r hr).1
  have h1 : (rs.map Int.toNat).all cp = true := List.all_eq_true.2 fun x hx => by
    obtain ⟨r, hr, rfl⟩ := List.mem_map.1 hx; exact (h r hr).2
  unfold penI penc; rw [if_pos h0, if_pos ⟨by simpa using hl, h1⟩]; unfold low; simp only [List.length_map]; congr 3; simp
theorem adLoop_le (f d k : Nat) : adLoop f d k ≤ k + 36 * f + 36 := by
  induction f generalizing d k with
  | zero =>
    rw [adLoop]; have : 36 * d / (d + 38) ≤ 36 := by
      rw [Nat.div_le_iff_le_mul_add_pred (by omega)]; omega
    omega
  | succ f ih =>
    rw [adLoop]
    split
    · have := ih (d / 35) (k + 36); omega
    · have : 36 * d / (d + 38) ≤ 36 := by
        rw [Nat.div_le_iff_le_mul_add_pred (by omega)]; omega
      omega
theorem adp_le (delta points : Nat) (first : Bool) : adp delta points first ≤ 2340 := by
  unfold adp; have := adLoop_le 64 ((if first = true then delta / 700 else delta / 2) + (if first = true then delta / 700 else delta / 2) / points) 0; omega
theorem cp_le {n : Nat} (h : cp n = true) : n ≤ 1114111 := by
  unfold cp at h; simp at h; omega
def nextF (n : Nat) (ns : List Nat) (j : Nat) : Nat := (ns.take j).foldl (fun a x => if n ≤ x then min a x else a) 1114112
theorem nextF_all (n : Nat) (ns : List Nat) (j : Nat) (h : ns.length ≤ j) : nextF n ns j = nxt n ns := by
  unfold nextF nxt; rw [List.take_of_length_le h]
theorem nextF_step (n : Nat) (ns : List Nat) (j : Nat) (h : j < ns.length) : nextF n ns (j + 1) = if n ≤ ns.getD j 0 then min (nextF n ns j) (ns.getD j 0) else nextF n ns j := by
  unfold nextF; rw [take_snoc ns j 0 h, List.foldl_append]; rfl
theorem nextF_le (n : Nat) (ns : List Nat) (j : Nat) : nextF n ns j ≤ 1114112 := (foldl_nxt n (ns.take j) 1114112).1
theorem lt_grow {m : Nat} {ns : List Nat} (h : m ∈ ns) : (lt m ns).length < (lt (m + 1) ns).length := by
  unfold lt; rw [← List.countP_eq_length_filter, ← List.countP_eq_length_filter]; exact countP_less ns (fun y hy => by simp at hy ⊢; omega) m h (by simp) (by simp)
theorem vEnc_end {bias f k q : Nat} (h : q < thr k bias) : vEnc bias f k q = [q] := by
  cases f with
  | zero => rfl
  | succ f => rw [vEnc, if_pos h]
theorem vEnc_more {bias f k q : Nat} (h : ¬ q < thr k bias) : vEnc bias (f + 1) k q = (thr k bias + (q - thr k bias) % (36 - thr k bias)) :: vEnc bias f (k + 36) ((q - thr k bias) / (36 - thr k bias)) := by rw [vEnc, if_neg h]
theorem mod_int {q t : Nat} (h1 : t ≤ q) (h2 : t ≤ 26) : ((q : Int) - (t : Int)).tmod (36 - (t : Int)) = (((q - t) % (36 - t) : Nat) : Int) ∧ ((q : Int) - (t : Int)) % (36 - (t : Int)) = (((q - t) % (36 - t) : Nat) : Int) ∧ ((q : Int) - (t : Int)).tdiv (36 - (t : Int)) = (((q - t) / (36 - t) : Nat) : Int) ∧ ((q : Int) - (t : Int)) / (36 - (t : Int)) = (((q - t) / (36 - t) : Nat) : Int) := by
  have e1 : (q : Int) - (t : Int) = ((q - t : Nat) : Int) := by omega
  have e2 : (36 : Int) - (t : Int) = ((36 - t : Nat) : Int) := by omega
  rw [e1, e2]; refine ⟨?_, (Int.natCast_emod _ _).symm, ?_, (Int.natCast_ediv _ _).symm⟩
  · rw [Int.tmod_eq_emod_of_nonneg (by omega)]; exact (Int.natCast_emod _ _).symm
  · rw [Int.tdiv_eq_ediv_of_nonneg (by omega)]; exact (Int.natCast_ediv _ _).symm
theorem pass_lt {m delta x : Nat} {r : List Nat} (h : x < m) : pass m delta (x :: r) = pass m (delta + 1) r := by rw [pass, if_pos h]
theorem pass_eq {m delta : Nat} {r : List Nat} : pass m delta (m :: r) = (delta :: (pass m 0 r).1, (pass m 0 r).2) := by rw [pass, if_neg (by omega), if_pos rfl]
theorem pass_gt {m delta x : Nat} {r : List Nat} (h : m < x) : pass m delta (x :: r) = pass m delta r := by rw [pass, if_neg (by omega), if_neg (by omega)]
theorem drop_getD (ns : List Nat) (i : Nat) (h : i < ns.length) : ns.drop i = ns.getD i 0 :: ns.drop (i + 1) := by
  rw [List.drop_eq_getElem_cons h]; simp [List.getD, h]
def Rel2 (w : World) (ns : List Nat) (bl : Nat) (F : List UInt8) (o n d b k : Value) (wr : World) : Prop :=
  ∃ (f n' delta bias done : Nat) (O : List UInt8), n = .int .i64 (n' : Int) ∧ d = .int .i64 (delta : Int) ∧ b = .int .i64 (bias : Int) ∧ k = .int .i64 (done : Int) ∧
    O ++ (digs bias done (done == bl) (dts f n' delta done ns)).map letter = F ∧ done = (lt n' ns).length ∧ ns.length ≤ done + f ∧ 128 ≤ n' ∧ n' ≤ 1114112 ∧ delta ≤ (n' - 128) * 64 ∧ bias ≤ 2400 ∧ bl ≤ done ∧ O.length ≤ 100 + done * 100000000 ∧
    wr.ownsRow w.heap.size 5 1 o O.length (O.map B) ∧ Below w.heap.size w wr
def Rel4 (w : World) (ns : List Nat) (bl : Nat) (F : List UInt8) (f m Dn : Nat) (o d b k i : Value) (wr : World) : Prop :=
  ∃ (delta bias done j : Nat) (O : List UInt8), d = .int .i64 (delta : Int) ∧ b = .int .i64 (bias : Int) ∧ k = .int .i64 (done : Int) ∧ i = .int .i64 (j : Int) ∧ j ≤ ns.length ∧
    O ++ (digs bias done (done == bl) ((pass m delta (ns.drop j)).1 ++ dts f (m + 1) ((pass m delta (ns.drop j)).2 + 1) (done + (pass m delta (ns.drop j)).1.length) ns)).map letter = F ∧ done + (pass m delta (ns.drop j)).1.length = Dn ∧ delta ≤ (m - 128) * 64 + j ∧ bias ≤ 2400 ∧ bl ≤ done ∧ O.length ≤ 100 + done * 100000000 ∧
    wr.ownsRow w.heap.size 5 1 o O.length (O.map B) ∧ Below w.heap.size w wr
def Rel5 (w : World) (bias : Nat) (G : List UInt8) (N K : Nat) (o q k : Value) (wr : World) : Prop :=
  ∃ (f q' k' : Nat) (O : List UInt8), q = .int .i64 (q' : Int) ∧ k = .int .i64 (k' : Int) ∧ O ++ (vEnc bias f k' q').map letter = G ∧ q' ≤ f ∧ k' + 36 * f ≤ K ∧ O.length + q' ≤ N ∧
    wr.ownsRow w.heap.size 5 1 o O.length (O.map B) ∧ Below w.heap.size w wr
set_option maxHeartbeats 4000000 in
set_option maxRecDepth 100000 in
theorem rpuny (ao : Option Addr) (l cap : Nat) (rs : List Int) (w : World) (hl : rs.length = l) (hm : l ≤ 1000) (hr : ∀ r ∈ rs, -2147483648 ≤ r ∧ r ≤ 2147483647) (h : RdV w ao cap (rs.map R)) :
    Calls Tryz.prog 67 #[.slice ao l cap] w (TellsE w rs) := by
  subst hl; have hle := h.le; have hmx := h.max; simp only [List.length_map] at hle; unfold TellsE; go_enter Tryz.func67, Tryz.ntmps67; by_cases g0 : 63 < rs.length
  · have e1 : eS rs = [] ∧ eE rs = 1 := by unfold eS eE; rw [penI_long g0]; exact ⟨rfl, rfl⟩
    rw [e1.1, e1.2]; clear e1; go_wp2; go_ret2; exact ⟨rfl, Ext.refl w⟩
  go_wp2_with fail
  go_loopw [4, 5] (fun o i wr => ∃ k : Nat, k ≤ rs.length ∧ i = .int .i64 k ∧ (∀ r ∈ rs.take k, okc r) ∧ wr.ownsRow w.heap.size 5 1 o (low (rs.take k)).length ((low (rs.take k)).map B) ∧ Below w.heap.size w wr) (fun _ i _ => rs.length - (intOf i).toNat)
  case atStart => exact ⟨0, by omega, rfl, by simp, World.ownsRow_nil _ _ _ _, Below.refl _ _⟩
  case round =>
    obtain ⟨k, hk, rfl, hok, ownr, hbr⟩ := hrel; have HOK := hide hok; clear hok; by_cases hkl : k < rs.length
    · obtain ⟨b, off, rfl, hc⟩ := h.cells (by simp; omega); have c0 : wr.cell? ⟨b, off + k, none⟩ = some (R (rs.getD k 0)) := by
        have := hc k (by simpa using hkl); rw [getR rs k hkl] at this; rw [← this]; exact hbr.cell (p := ⟨b, off + k, none⟩) (cell_lt this)
      clear hc; have HT := hide (take_snoc rs k 0 hkl); have HMM := hide (show rs.getD k 0 ∈ rs by simp [List.getD, hkl]); have HS := hide (shortest_any (rs.getD k 0) wr); have HL := hide (low_len (rs.take k)); generalize rs.getD k 0 = x at *; by_cases hx : okc x
      · have hs := sh_ok hx; generalize sh x = z at *; have key : ∀ (v' : Value) (w' : World), w'.ownsRow w.heap.size 5 1 v' ((low (rs.take k)).length + (if x.toNat < 128 then [UInt8.ofNat x.toNat] else []).length) ((low (rs.take k)).map B ++ (if x.toNat < 128 then [UInt8.ofNat x.toNat] else []).map B) → Below w.heap.size w w' →
            ((∃ (k' : Nat), k' ≤ rs.length ∧ Value.int .i64 ((k : Int) + 1) = .int .i64 k' ∧ (∀ r ∈ rs.take k', okc r) ∧ w'.ownsRow w.heap.size 5 1 v' (low (rs.take k')).length ((low (rs.take k')).map B) ∧ Below w.heap.size w w') ∧ rs.length - ((k : Int) + 1).toNat < rs.length - k) := by
          intro v' w' ho hb'; refine ⟨⟨k + 1, by omega, by simp, ?_, ?_, hb'⟩, by omega⟩
          · rw [unhide HT]; intro r hr; rcases List.mem_append.1 hr with hr | hr
            · exact unhide HOK r hr
            · rw [List.mem_singleton] at hr; rw [hr]; exact hx
          · rw [unhide HT, low_snoc, List.length_append, List.map_append]; exact ho
        have KEY := hide key; clear key HT HOK HMM; have hlen := unhide HL; rw [List.length_take, Nat.min_eq_left hk] at hlen; clear HL; generalize low (rs.take k) = out at *; have hs2 : ((z : Int) == 0) = false := beq_eq_false_iff_ne.2 (by omega); obtain ⟨hx0, hx1⟩ := hx; clear hx1; by_cases hx128 : x < 128
        · rw [if_pos (by omega)] at KEY; have wq : IntKind.u8.wrap x = x := by simp [IntKind.wrap, IntKind.bits, IntKind.signed]; omega
          have eB : B (UInt8.ofNat x.toNat) = .int .u8 x := by
            unfold B; congr 1; rw [UInt8.toNat_ofNat']; omega
          have RL := RdV.lit wr [.int .u8 x] 5 (0, 0) (by simp); have own2 := owns_below ownr (Ext.alloc wr (.cells #[.int .u8 x] 5 (0, 0))); have hb2 : Below w.heap.size w (wr.alloc (.cells #[.int .u8 x] 5 (0, 0))) := hbr.trans (Below.mono (Ext.alloc wr _) hbr.size); have hbase2 := hb2.size; have hone : ∀ u ∈ [Value.int .u8 x], u.oneCell' = true := by simp [Value.oneCell']
          have EB := hide eB; clear ownr hbr eB; go_wp2_with fail
          refine (unhide HS).mono ?_; rintro e wz ⟨rfl, hwz⟩; subst hwz; clear HS; go_wp2_with (at_builtin; refine wpList_app rfl (.tmp 37) (.tmp 43) 22 5 (.int .u8 0) 1 Tryz.underlying22 infoB rfl rfl w.heap.size _ _ _ rfl own2 _ _ _ [.int .u8 x] rfl rfl RL hone (by omega) hbase2 ?_)
          intro v2 w2 o2 b2; clear own2 RL hone; have kk := unhide KEY v2 w2 (by rw [List.map_singleton, unhide EB]; exact o2) (hb2.trans b2); go_wp2; exact kk
        · rw [if_neg (by omega)] at KEY; go_wp2_with fail
          refine (unhide HS).mono ?_; rintro e wz ⟨rfl, hwz⟩; subst hwz; clear HS; have kk := unhide KEY _ wz (by simpa using ownr) hbr; clear KEY ownr; go_wp2; exact kk
      · have hs := sh_no hx; rw [hs] at HS; have e1 : eS rs = [] ∧ eE rs = 1 := by unfold eS eE; rw [penI_no ⟨x, unhide HMM, hx⟩]; exact ⟨rfl, rfl⟩
        have HE1 := hide e1; clear e1 hs hx; go_wp2_with fail
        refine (unhide HS).mono ?_; rintro e wz ⟨rfl, hwz⟩; subst hwz; clear HS; go_wp2; go_ret2; rw [(unhide HE1).1, (unhide HE1).2]; exact ⟨rfl, hbr⟩
    · have hok := unhide HOK; rw [List.take_of_length_le (by omega)] at hok ownr; clear HOK; have hpi := penI_yes hok (by omega); have hN : (lt 128 (rs.map Int.toNat)).length = (low rs).length := by unfold low; simp
      have hbl := low_len rs; have hcpv : ∀ x ∈ rs.map Int.toNat, cp x = true := by
        intro x hx; obtain ⟨r, hr, rfl⟩ := List.mem_map.1 hx; exact (hok r hr).2
      have hge : ∀ i, i < rs.length → rs.getD i 0 = (((rs.map Int.toNat).getD i 0 : Nat) : Int) := by
        intro i hi; have h1 : rs.getD i 0 = rs[i] := by simp [List.getD, hi]
        have h2 : (rs.map Int.toNat).getD i 0 = rs[i].toNat := by simp [List.getD, hi]
        rw [h1, h2]; have := (hok rs[i] (List.getElem_mem hi)).1; omega
      have e1 : eS rs = low rs ++ (if low rs = [] then [] else [45]) ++ (digs 72 (low rs).length true (dts rs.length 128 0 (low rs).length (rs.map Int.toNat))).map letter ∧ eE rs = 0 := by unfold eS eE; rw [hpi]; exact ⟨rfl, rfl⟩
      have hnl : (rs.map Int.toNat).length = rs.length := by simp
      have HE1 := hide e1; have HG := hide hge; have HCP := hide hcpv; have HNN := hide hN; clear e1 hpi hok hN hcpv hge; obtain ⟨a2, c2, rfl, _, _⟩ := RdV.of_owned ownr; generalize low rs = Lw at *; generalize rs.map Int.toNat = ns at *; have hbase0 := hbr.size; have hend : ∀ (P : List UInt8), P = Lw ++ (if Lw = [] then [] else [45]) → Hid (P ++ (digs 72 Lw.length true (dts rs.length 128 0 Lw.length ns)).map letter = eS rs) := fun P hP => by rw [hP]; exact hide (unhide HE1).1.symm
      have HEND := hide hend; have HE0 := hide (unhide HE1).2; clear hend HE1; refine (Nat.eq_zero_or_pos Lw.length).elim (fun hz => ?br1) (fun hz => ?br2)
      case' br1 =>
        have eL : Lw = [] := List.eq_nil_of_length_eq_zero hz; have HF := unhide HEND Lw (by rw [eL]; simp); have hPl : Lw.length ≤ 100 := by omega
        have hz' : ¬ 0 < (Lw.length : Int) := by omega
        have hbq : Lw.length ≤ Lw.length := Nat.le_refl _; clear HEND eL; have START : Hid (Rel2 w ns Lw.length (eS rs) (.slice a2 Lw.length c2) (.int .i64 128) (.int .i64 0) (.int .i64 72) (.int .i64 (Lw.length : Int)) wr) := by
          refine ⟨rs.length, 128, 0, 72, Lw.length, Lw, rfl, rfl, rfl, rfl, ?_, (unhide HNN).symm, by omega, by omega, by omega, by omega, by omega, hbq, by omega, ownr, hbr⟩; rw [beq_self_eq_true]; exact unhide HF
        clear HF ownr hbr HNN hPl hbq hz; go_wp2_with fail
      case' br2 =>
        have HF := unhide HEND (Lw ++ [45]) (by rw [if_neg (by intro e; rw [e] at hz; simp at hz)]); have hz' : 0 < (Lw.length : Int) := by omega
        clear HEND; have RL := RdV.lit wr [B 45] 5 (0, 0) (by simp); have own2 := owns_below ownr (Ext.alloc wr (.cells #[B 45] 5 (0, 0))); have hb2 : Below w.heap.size w (wr.alloc (.cells #[B 45] 5 (0, 0))) := hbr.trans (Below.mono (Ext.alloc wr _) hbr.size); have hbase2 := hb2.size; have hone : ∀ u ∈ [B 45], u.oneCell' = true := by simp [B, Value.oneCell']
        clear ownr hbr; go_wp2_with (at_builtin; refine wpList_app rfl (.tmp 49) (.tmp 50) 22 5 (.int .u8 0) 1 Tryz.underlying22 infoB rfl rfl w.heap.size _ _ _ rfl own2 _ _ _ [B 45] rfl rfl RL hone (by omega) hbase2 ?_)
        intro v2 w2 o2 b2; have hbz := hb2.trans b2; have ownz : w2.ownsRow w.heap.size 5 1 v2 (Lw ++ [45]).length ((Lw ++ [45]).map B) := by simpa using o2
        have hPl : (Lw ++ [45]).length ≤ 100 := by simp; omega
        clear own2 RL hone o2 b2 hb2 hbase2; have START : Hid (Rel2 w ns Lw.length (eS rs) v2 (.int .i64 128) (.int .i64 0) (.int .i64 72) (.int .i64 (Lw.length : Int)) w2) := by
          refine ⟨rs.length, 128, 0, 72, Lw.length, Lw ++ [45], rfl, rfl, rfl, rfl, ?_, (unhide HNN).symm, by omega, by omega, by omega, by omega, by omega, Nat.le_refl _, by omega, ownz, hbz⟩; rw [beq_self_eq_true]; exact unhide HF
        clear HF ownz hbz HNN hPl; go_wp2_with fail
      all_goals
        generalize Lw.length = bl at *
        go_loopw [4, 7, 8, 9, 10] (fun o n d b k wr => Rel2 w ns bl (eS rs) o n d b k wr) (fun _ _ _ _ k _ => rs.length - (intOf k).toNat)
        case atStart => exact unhide START
        case round =>
          clear START; obtain ⟨f, n', delta, bias, done, O, rfl, rfl, rfl, rfl, hF, hdn, hfu, hn1, hn2, hdel, hbi, hbd, hOl, ownr, hbr⟩ := hrel; have HF := hide hF; have HDN := hide hdn; clear hF hdn; have hdl : done ≤ rs.length := by
            have h1 := unhide HDN; have h2 := List.length_filter_le (fun x => decide (x < n')) ns; unfold lt at h1; omega
          by_cases hgo : done < rs.length
          · cases f with
            | zero => omega
            | succ f =>
              obtain ⟨b, off, rfl, hc⟩ := h.cells (by simp; omega); have hcell : ∀ j, j < rs.length → ∀ w', Below w.heap.size w w' → w'.cell? ⟨b, off + j, none⟩ = some (R ((ns.getD j 0 : Nat) : Int)) := by
                intro j hj w' hb'; have h1 := hc j (by simpa using hj); rw [getR rs j hj, unhide HG j hj] at h1; rw [← h1]; exact hb'.cell (p := ⟨b, off + j, none⟩) (cell_lt h1)
              have HC := hide hcell; have HXB : Hid (∀ j, j < rs.length → ns.getD j 0 ≤ 1114111) := by
                intro j hj; exact cp_le (unhide HCP (ns.getD j 0) (by simp [List.getD, hnl, hj]))
              clear hcell hc; have hlt : (lt n' ns).length < ns.length := by rw [← unhide HDN]; omega
              obtain ⟨x0, hx0, hx1⟩ := lt_exists hlt; have hx2 := unhide HCP x0 hx0; have hx3 : x0 ≤ 1114111 := by unfold cp at hx2; simp at hx2; omega
              obtain ⟨s1, s2, s3⟩ := nxt_spec ⟨x0, hx0, hx1, hx3⟩; have s4 : nxt n' ns ≤ 1114111 := Nat.le_trans (s3 x0 hx0 hx1) hx3; have hpl := pass_len (nxt n' ns) ns (delta + (nxt n' ns - n') * (done + 1)); rw [lt_nxt s2 s3, ← unhide HDN] at hpl; have hgr := lt_grow s1; rw [lt_nxt s2 s3, ← unhide HDN] at hgr; have HPL := hide hpl; have hF2 := unhide HF; rw [dts, if_pos (by omega)] at hF2; have HF2 := hide hF2; clear hF2 HF hlt hx0 hx1 hx2 hx3 s1 s3 hpl; go_wp2_with fail
              go_loopw [11, 12] (fun nx i wr' => ∃ j : Nat, j ≤ rs.length ∧ i = .int .i64 j ∧ nx = .int .i64 ((nextF n' ns j : Nat) : Int) ∧ wr' = wr) (fun _ i _ => rs.length - (intOf i).toNat)
              case atStart => exact ⟨0, by omega, rfl, rfl, rfl⟩
              case round =>
                obtain ⟨j, hj, rfl, rfl, hw⟩ := hrel; subst hw; by_cases hjl : j < rs.length
                · have c0 := unhide HC j hjl _ hbr; have hst : ∃ a' : Nat, Hid (a' = nextF n' ns (j + 1)) ∧ ((n' ≤ ns.getD j 0 ∧ nextF n' ns j ≤ ns.getD j 0) → a' = nextF n' ns j) ∧ ((n' ≤ ns.getD j 0 ∧ ¬ nextF n' ns j ≤ ns.getD j 0) → a' = ns.getD j 0) ∧ (¬ n' ≤ ns.getD j 0 → a' = nextF n' ns j) := by
                    refine ⟨nextF n' ns (j + 1), hide rfl, ?_⟩; rw [nextF_step n' ns j (by omega)]; refine ⟨fun ⟨h1, h2⟩ => ?_, fun ⟨h1, h2⟩ => ?_, fun h1 => ?_⟩
                    · rw [if_pos h1]; omega
                    · rw [if_pos h1]; omega
                    · rw [if_neg h1]
                  obtain ⟨a', HA', t1, t2, t3⟩ := hst; have hal := nextF_le n' ns j; have hxb := unhide HXB j hjl; generalize ns.getD j 0 = x at *; generalize nextF n' ns j = a at *; have hcs : (n' ≤ x ∧ a ≤ x) ∨ (n' ≤ x ∧ ¬ a ≤ x) ∨ ¬ n' ≤ x := by omega
                  rcases hcs with hcs | hcs | hcs
                  · obtain rfl := t1 hcs; obtain ⟨h1, h2⟩ := hcs; clear t1 t2 t3; go_wp2; go_roundw
                    case rel => exact ⟨j + 1, by omega, by go_num, by rw [← unhide HA'], by trivial⟩
                    case measure => simp [intOf]; omega
                  · obtain rfl := t2 hcs; obtain ⟨h1, h2⟩ := hcs; clear t1 t2 t3; go_wp2; go_roundw
                    case rel => exact ⟨j + 1, by omega, by go_num, by rw [← unhide HA'], by trivial⟩
                    case measure => simp [intOf]; omega
                  · obtain rfl := t3 hcs; clear t1 t2 t3; go_wp2; go_roundw
                    case rel => exact ⟨j + 1, by omega, by go_num, by rw [← unhide HA'], by trivial⟩
                    case measure => simp [intOf]; omega
                · have enx := nextF_all n' ns j (by omega); rw [enx]; clear enx; generalize nxt n' ns = m at *; have hmul : ∃ p : Nat, Hid (p = (m - n') * (done + 1)) ∧ ((m : Int) - (n' : Int)) * ((done : Int) + 1) = (p : Int) ∧ p ≤ (m - n') * 64 := by
                    refine ⟨(m - n') * (done + 1), hide rfl, ?_, Nat.mul_le_mul_left _ (by omega)⟩; rw [show ((m : Int) - (n' : Int)) = ((m - n' : Nat) : Int) by omega, show ((done : Int) + 1) = ((done + 1 : Nat) : Int) by omega]; exact (Int.natCast_mul _ _).symm
                  obtain ⟨p, HP, hp1, hp2⟩ := hmul; rw [← unhide HP] at HF2 HPL; have START4 : Hid (Rel4 w ns bl (eS rs) f m (lt (m + 1) ns).length _ (.int .i64 ((delta + p : Nat) : Int)) (.int .i64 (bias : Int)) (.int .i64 (done : Int)) (.int .i64 0) _) :=
                    ⟨delta + p, bias, done, 0, O, rfl, rfl, rfl, rfl, by omega, by rw [List.drop_zero]; exact unhide HF2, by rw [List.drop_zero]; have := unhide HPL; omega, by omega, hbi, hbd, hOl, ownr, hbr⟩
                  clear HF2 HPL HP ownr hbr HDN; have edp : (delta : Int) + (p : Int) = ((delta + p : Nat) : Int) := by omega
                  have hdp : delta + p ≤ (m - 128) * 64 := by omega
                  clear hdel hp2; generalize delta + p = delta2 at *; generalize hDn : (lt (m + 1) ns).length = Dn at *; have hDb : Dn ≤ ns.length := by rw [← hDn]; exact List.length_filter_le _ _
                  have HDn := hide hDn; clear hDn; have hfD : ns.length ≤ Dn + f := by omega
                  go_wp2_with fail
                  clear hj hjl
                  go_loopw [4, 8, 9, 10, 13] (fun o d b k i wr => Rel4 w ns bl (eS rs) f m Dn o d b k i wr) (fun _ _ _ _ i _ => rs.length - (intOf i).toNat)
                  case atStart => exact unhide START4
                  case round =>
                    clear START4 edp hp1 hdp hbi hbd hOl hfu; obtain ⟨del, bia, don, i, O4, rfl, rfl, rfl, rfl, hi, hF4, hD4, hde4, hbi4, hbd4, hOl4, own4, hb4⟩ := hrel; have HF4 := hide hF4; have HD4 := hide hD4; have hdon : don ≤ Dn := by omega
                    clear hF4 hD4; by_cases hil : i < rs.length
                    · have c0 := unhide HC i hil _ hb4; have hxb := unhide HXB i hil; have hdr := drop_getD ns i (by omega); generalize ns.getD i 0 = x at *; have hF4 := unhide HF4; have hD4 := unhide HD4; rw [hdr] at hF4 hD4; clear HF4 HD4 hdr; have hcs : x < m ∨ m < x ∨ x = m := by omega
                      rcases hcs with hcs | hcs | hcs
                      · rw [pass_lt hcs] at hF4 hD4; have n1 : ((x : Int) != (m : Int)) = true := bne_iff_ne.2 (by omega); have REL : Hid (Rel4 w ns bl (eS rs) f m Dn _ (.int .i64 ((del : Int) + 1)) (.int .i64 (bia : Int)) (.int .i64 (don : Int)) (.int .i64 ((i : Int) + 1)) _) := ⟨del + 1, bia, don, i + 1, O4, by simp, rfl, rfl, by simp, by omega, hF4, hD4, by omega, hbi4, hbd4, hOl4, own4, hb4⟩; clear hF4 hD4 own4; go_wp2; exact ⟨unhide REL, by simp [intOf]; omega⟩
                      · rw [pass_gt hcs] at hF4 hD4; have n1 : ((x : Int) != (m : Int)) = true := bne_iff_ne.2 (by omega); have REL : Hid (Rel4 w ns bl (eS rs) f m Dn _ (.int .i64 (del : Int)) (.int .i64 (bia : Int)) (.int .i64 (don : Int)) (.int .i64 ((i : Int) + 1)) _) := ⟨del, bia, don, i + 1, O4, rfl, rfl, rfl, by simp, by omega, hF4, hD4, by omega, hbi4, hbd4, hOl4, own4, hb4⟩; clear hF4 hD4 own4; go_wp2; exact ⟨unhide REL, by simp [intOf]; omega⟩
                      · subst hcs; rw [pass_eq] at hF4 hD4; simp only [List.cons_append, List.length_cons] at hF4 hD4; rw [digs] at hF4; have hfl : ((don : Int) == (bl : Int)) = (don == bl) := by
                          rw [Bool.eq_iff_iff]; simp only [beq_iff_eq]; omega
                        have hfl2 : ((don + 1 : Nat) == bl) = false := beq_eq_false_iff_ne.2 (by omega); generalize (don == bl) = fl at *; have hnb := adp_le del (don + 1) fl; have HAD := hide (fun w => radapt_any del (don + 1) fl w (by omega) (by omega) (by omega)); rw [show (((don + 1 : Nat)) : Int) = (don : Int) + 1 by omega] at HAD; generalize adp del (don + 1) fl = nb at *; have hG : ∀ G : List UInt8, G = O4 ++ (vEnc bia del 36 del).map letter → G ++ (digs nb (don + 1) ((don + 1 : Nat) == bl) ((pass x 0 (ns.drop (i + 1))).1 ++ dts f (x + 1) ((pass x 0 (ns.drop (i + 1))).2 + 1) (don + 1 + (pass x 0 (ns.drop (i + 1))).1.length) ns)).map letter = eS rs := by
                          intro G hG; rw [hG, hfl2, ← hF4, List.map_append, List.append_assoc, show don + ((pass x 0 (ns.drop (i + 1))).1.length + 1) = don + 1 + (pass x 0 (ns.drop (i + 1))).1.length by omega]
                        have HGG := hide hG; have hD5 : don + 1 + (pass x 0 (ns.drop (i + 1))).1.length = Dn := by omega
                        have HD5 := hide hD5; have hdb : del ≤ 71303231 := by omega
                        have hdl5 : don + 1 ≤ Dn := by omega
                        clear hF4 hD4 hG hD5 hfl2; have START5 : Hid (Rel5 w bia (O4 ++ (vEnc bia del 36 del).map letter) (O4.length + del) (36 + 36 * del) _ (.int .i64 (del : Int)) (.int .i64 36) _) := ⟨del, del, 36, O4, rfl, rfl, rfl, Nat.le_refl _, Nat.le_refl _, Nat.le_refl _, own4, hb4⟩; generalize O4 ++ (vEnc bia del 36 del).map letter = G at *; have HG1 := hide (unhide HGG G rfl); clear HGG own4; generalize hN5 : O4.length + del = N5 at *; have n1 : ((x : Int) != (x : Int)) = false := by simp
                        go_wp2_with fail
                        clear c0
                        go_loopw [4, 14, 15] (fun o q k wr => Rel5 w bia G N5 (36 + 36 * del) o q k wr) (fun _ q _ _ => (intOf q).toNat)
                        case atStart => exact unhide START5
                        case round =>
                          clear START5 hb4; obtain ⟨f5, q, k5, O5, rfl, rfl, hG5, hqf, hkf, hOl5, own5, hb5⟩ := hrel; have HG5 := hide hG5; clear hG5; have HED := hide (fun w => redge_any k5 bia w (by omega) (by omega)); have ht1 := thr_pos k5 bia; have ht2 := thr_le k5 bia; by_cases hqt : q < thr k5 bia
                          · have hG6 := unhide HG5; rw [vEnc_end hqt, List.map_singleton] at hG6; have hi := fun w => idx_letter w .i64 q (by omega); have HG6 := hide hG6; have hGl : G.length ≤ 100 + (don + 1) * 100000000 := by rw [← hG6, List.length_append]; simp; omega
                            clear hG6 HG5; generalize thr k5 bia = t at *; have RL := RdV.lit wr [B (letter q)] 5 (0, 0) (by simp); have own2 := owns_below own5 (Ext.alloc wr (.cells #[B (letter q)] 5 (0, 0))); have hb2 : Below w.heap.size w (wr.alloc (.cells #[B (letter q)] 5 (0, 0))) := hb5.trans (Below.mono (Ext.alloc wr _) hb5.size); have hbase2 := hb2.size; have hone : ∀ u ∈ [B (letter q)], u.oneCell' = true := by simp [B, Value.oneCell']
                            clear own5 hb5; go_wp2_with fail
                            refine (unhide HED _).mono ?_; rintro e wz ⟨rfl, hwz⟩; subst hwz; clear HED; go_wp2_with (at_builtin; refine wpList_app rfl (.tmp 135) (.tmp 138) 22 5 (.int .u8 0) 1 Tryz.underlying22 infoB rfl rfl w.heap.size _ _ _ rfl own2 _ _ _ [B (letter q)] rfl rfl RL hone (by omega) hbase2 ?_)
                            intro v2 w2 o2 b2; have hbG := hb2.trans b2; have ownG : w2.ownsRow w.heap.size 5 1 v2 G.length (G.map B) := by rw [← unhide HG6]; simpa using o2
                            clear own2 RL hone o2 b2 hb2 hbase2 HG6 hi; go_wp2_with fail
                            refine (unhide HAD _).mono ?_; rintro e w3 ⟨rfl, hw3⟩; subst hw3; clear HAD; have REL : Hid (Rel4 w ns bl (eS rs) f x Dn v2 (.int .i64 0) (.int .i64 (nb : Int)) (.int .i64 ((don : Int) + 1)) (.int .i64 ((i : Int) + 1)) _) := ⟨0, nb, don + 1, i + 1, G, rfl, rfl, by simp, by simp, by omega, unhide HG1, unhide HD5, by omega, by omega, by omega, hGl, ownG, hbG⟩; clear ownG HG1 HD5; go_wp2; exact ⟨unhide REL, by simp [intOf]; omega⟩
                          · cases f5 with
                            | zero => omega
                            | succ f5 =>
                              have hG6 := unhide HG5; rw [vEnc_more hqt, List.map_cons] at hG6; obtain ⟨m1, m2, m3, m4⟩ := mod_int (q := q) (t := thr k5 bia) (by omega) ht2; have ha5 := Nat.mod_lt (q - thr k5 bia) (show 0 < 36 - thr k5 bia by omega); have hb55 := div_less q (thr k5 bia) (by omega) ht1 ht2; clear HG5; generalize thr k5 bia = t at *; generalize (q - t) % (36 - t) = a5 at *; generalize (q - t) / (36 - t) = b5 at *; have hi : ∀ w, (Instr.index 9 (.string ⟨#[97, 98, 99, 100, 101, 102, 103, 104, 105, 106, 107, 108, 109, 110, 111, 112, 113, 114, 115, 116, 117, 118, 119, 120, 121, 122, 48, 49, 50, 51, 52, 53, 54, 55, 56, 57]⟩) (.int .i64 ((t : Int) + (a5 : Int)))).run Tryz.prog w = .ok (B (letter (t + a5))) w := fun w => by
                                have := idx_letter w .i64 (t + a5) (by omega)
                                rwa [show ((t + a5 : Nat) : Int) = (t : Int) + (a5 : Int) by omega] at this
                              generalize letter (t + a5) = lt5 at *; have HG6 := hide hG6; clear hG6; have RL := RdV.lit wr [B lt5] 5 (0, 0) (by simp); have own2 := owns_below own5 (Ext.alloc wr (.cells #[B lt5] 5 (0, 0))); have hb2 : Below w.heap.size w (wr.alloc (.cells #[B lt5] 5 (0, 0))) := hb5.trans (Below.mono (Ext.alloc wr _) hb5.size); have hbase2 := hb2.size; have hone : ∀ u ∈ [B lt5], u.oneCell' = true := by simp [B, Value.oneCell']
                              clear own5 hb5; go_wp2_with fail
                              refine (unhide HED _).mono ?_; rintro e wz ⟨rfl, hwz⟩; subst hwz; clear HED; go_wp2_with (at_builtin; refine wpList_app rfl (.tmp 117) (.tmp 127) 22 5 (.int .u8 0) 1 Tryz.underlying22 infoB rfl rfl w.heap.size _ _ _ rfl own2 _ _ _ [B lt5] rfl rfl RL hone (by omega) hbase2 ?_)
                              intro v2 w2 o2 b2; have REL : Hid (Rel5 w bia G N5 (36 + 36 * del) v2 (.int .i64 (b5 : Int)) (.int .i64 ((k5 : Int) + 36)) w2) := ⟨f5, b5, k5 + 36, O5 ++ [lt5], rfl, by simp, by rw [List.append_assoc]; exact unhide HG6, by omega, by omega, by rw [List.length_append]; simp; omega, by simpa using o2, hb2.trans b2⟩; clear own2 RL hone o2 b2 hb2 hbase2 HG6 hi; go_wp2; exact ⟨unhide REL, by simp [intOf]; omega⟩
                    · have hF4 := unhide HF4; have hD4 := unhide HD4; rw [List.drop_of_length_le (by omega)] at hF4 hD4; simp only [pass, List.nil_append, List.length_nil, Nat.add_zero] at hF4 hD4; have REL : Hid (Rel2 w ns bl (eS rs) _ (.int .i64 ((m : Int) + 1)) (.int .i64 ((del : Int) + 1)) (.int .i64 (bia : Int)) (.int .i64 (don : Int)) _) := ⟨f, m + 1, del + 1, bia, don, O4, by simp, by simp, rfl, rfl, hF4, by rw [unhide HDn]; exact hD4, by omega, by omega, by omega, by omega, hbi4, hbd4, hOl4, own4, hb4⟩; have hms : rs.length - don < rs.length - done := by omega
                      clear hF4 hD4 own4 HF4 HD4; go_wp2; exact ⟨unhide REL, by simp [intOf]; omega⟩
          · have hFF := unhide HF; have hdt : dts f n' delta done ns = [] := by
              cases f with
              | zero => rfl
              | succ f => rw [dts, if_neg (by omega)]
            rw [hdt, digs, List.map_nil, List.append_nil] at hFF; clear HF hdt; obtain ⟨a5, c5, rfl, hr5, _⟩ := RdV.of_owned ownr; have cs := conv_str _ a5 _ c5 O rfl hr5; have HFF := hide hFF; clear hFF; go_wp2; go_ret2; rw [unhide HE0, ← unhide HFF]; exact ⟨rfl, hbr⟩
end Go.Proofs.YtenlampiiodkhaaGreatDoor
