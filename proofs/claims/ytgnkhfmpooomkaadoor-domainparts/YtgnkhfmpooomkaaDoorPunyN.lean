/-
  What the document's Puny tells.
-/
import Derived.Test.YtgnkhfmpooomkaaDoorPunyW
import Derived.Test.YtgnkhfmpooomkaaDoorPunyL
import Derived.Test.YtgnkhfmpooomkaaDoorShort
namespace Go.Proofs.YtgnkhfmpooomkaaDoor
set_option linter.unusedVariables false
open Go.RowKit

theorem infoB : (Tryd.prog.info? 5).map (fun i => (i.zero, i.size, i.bytes)) = some (some (.int .u8 0), 1, 1) := by kernel_rfl
theorem conv_str (w : World) (ao : Option Addr) (n cap : Nat) (bs : List UInt8) (hl : bs.length = n) (h : RdV w ao cap (bs.map B)) :
    (convert 22 9 (.slice ao n cap)).run Tryd.prog w = .ok (.string ⟨bs.toArray⟩) w := by
  subst hl
  cases ao with
  | none =>
    have h0 := h.nil rfl
    have hle := h.le
    have hy : bs = [] := List.eq_nil_of_length_eq_zero (by simp at hle; omega)
    subst hy
    rw [run_convert_bytes_string w 22 9 5 none _ cap Tryd.underlying22 Tryd.underlying5 Tryd.underlying9]
    simp [Conv.bytesToString, Sem.run_pure]
    rfl
  | some a =>
    refine run_convert_bytes_back w 22 9 5 a cap bs Tryd.underlying22 Tryd.underlying5 Tryd.underlying9 fun j hj => ?_
    have := h.news a rfl j (B bs[j]) (by simp [hj])
    exact this

def okc (r : Int) : Prop := 0 ≤ r ∧ cp r.toNat = true
theorem sh_ok {r : Int} (h : okc r) : sh r ≠ 0 := by
  obtain ⟨h1, h2⟩ := h
  unfold cp at h2
  simp at h2
  unfold sh
  rw [if_neg (by omega)]
  split
  · omega
  · split
    · omega
    · split <;> omega
theorem sh_no {r : Int} (h : ¬ okc r) : sh r = 0 := by
  unfold sh
  rw [if_pos]
  refine Classical.byContradiction fun hc => h ⟨by omega, ?_⟩
  unfold cp
  simp
  omega

/-- The bytes below 128. -/
def low (rs : List Int) : List UInt8 := (lt 128 (rs.map Int.toNat)).map UInt8.ofNat
theorem low_snoc (rs : List Int) (x : Int) : low (rs ++ [x]) = low rs ++ (if x.toNat < 128 then [UInt8.ofNat x.toNat] else []) := by
  unfold low lt
  rw [List.map_append, List.filter_append, List.map_append]
  congr 1
  simp only [List.map_cons, List.map_nil, List.filter_cons, List.filter_nil]
  split <;> rename_i h <;> simp at h
  · rw [if_pos (by omega)]; rfl
  · rw [if_neg (by omega)]; rfl
theorem low_len (rs : List Int) : (low rs).length ≤ rs.length := by
  unfold low lt
  have := List.length_filter_le (fun x => decide (x < 128)) (rs.map Int.toNat)
  simp at this ⊢
  omega

theorem getD_range {rs : List Int} (hr : ∀ r ∈ rs, -2147483648 ≤ r ∧ r ≤ 2147483647) (k : Nat) (h : k < rs.length) : -2147483648 ≤ rs.getD k 0 ∧ rs.getD k 0 ≤ 2147483647 := by
  have : rs.getD k 0 = rs[k] := by simp [List.getD, h]
  rw [this]
  exact hr _ (List.getElem_mem h)

theorem penI_no {rs : List Int} (h : ∃ r ∈ rs, ¬ okc r) : penI rs = none := by
  obtain ⟨r, hr, hn⟩ := h
  unfold penI
  split
  · rename_i h0
    unfold penc
    rw [if_neg]
    rintro ⟨_, h2⟩
    have h3 := List.all_eq_true.1 h2 r.toNat (List.mem_map.2 ⟨r, hr, rfl⟩)
    have h4 := List.all_eq_true.1 h0 r hr
    simp only [decide_eq_true_eq] at h4
    exact hn ⟨h4, h3⟩
  · rfl
theorem penI_long {rs : List Int} (h : 63 < rs.length) : penI rs = none := by
  unfold penI
  split
  · unfold penc
    rw [if_neg]
    rintro ⟨h1, _⟩
    simp at h1
    omega
  · rfl
theorem penI_yes {rs : List Int} (h : ∀ r ∈ rs, okc r) (hl : rs.length ≤ 63) : penI rs = some (low rs ++ (if low rs = [] then [] else [45]) ++ (digs 72 (low rs).length true (dts rs.length 128 0 (low rs).length (rs.map Int.toNat))).map letter) := by
  have h0 : rs.all (fun r => decide (0 ≤ r)) = true := List.all_eq_true.2 fun r hr => by simpa using (h r hr).1
  have h1 : (rs.map Int.toNat).all cp = true := List.all_eq_true.2 fun x hx => by
    obtain ⟨r, hr, rfl⟩ := List.mem_map.1 hx
    exact (h r hr).2
  unfold penI penc
  rw [if_pos h0, if_pos ⟨by simpa using hl, h1⟩]
  unfold low
  simp only [List.length_map]
  congr 3
  simp

theorem adLoop_le (f d k : Nat) : adLoop f d k ≤ k + 36 * f + 36 := by
  induction f generalizing d k with
  | zero =>
    rw [adLoop]
    have : 36 * d / (d + 38) ≤ 36 := by
      rw [Nat.div_le_iff_le_mul_add_pred (by omega)]
      omega
    omega
  | succ f ih =>
    rw [adLoop]
    split
    · have := ih (d / 35) (k + 36)
      omega
    · have : 36 * d / (d + 38) ≤ 36 := by
        rw [Nat.div_le_iff_le_mul_add_pred (by omega)]
        omega
      omega
theorem adp_le (delta points : Nat) (first : Bool) : adp delta points first ≤ 2340 := by
  unfold adp
  have := adLoop_le 64 ((if first = true then delta / 700 else delta / 2) + (if first = true then delta / 700 else delta / 2) / points) 0
  omega

theorem cp_le {n : Nat} (h : cp n = true) : n ≤ 1114111 := by
  unfold cp at h
  simp at h
  omega

def nextF (n : Nat) (ns : List Nat) (j : Nat) : Nat := (ns.take j).foldl (fun a x => if n ≤ x then min a x else a) 1114112
theorem nextF_all (n : Nat) (ns : List Nat) (j : Nat) (h : ns.length ≤ j) : nextF n ns j = nxt n ns := by
  unfold nextF nxt
  rw [List.take_of_length_le h]
theorem nextF_step (n : Nat) (ns : List Nat) (j : Nat) (h : j < ns.length) : nextF n ns (j + 1) = if n ≤ ns.getD j 0 then min (nextF n ns j) (ns.getD j 0) else nextF n ns j := by
  unfold nextF
  rw [take_snoc ns j 0 h, List.foldl_append]
  rfl
theorem nextF_le (n : Nat) (ns : List Nat) (j : Nat) : nextF n ns j ≤ 1114112 := (foldl_nxt n (ns.take j) 1114112).1

theorem lt_grow {m : Nat} {ns : List Nat} (h : m ∈ ns) : (lt m ns).length < (lt (m + 1) ns).length := by
  unfold lt
  rw [← List.countP_eq_length_filter, ← List.countP_eq_length_filter]
  exact countP_less ns (fun y hy => by simp at hy ⊢; omega) m h (by simp) (by simp)
theorem vEnc_end {bias f k q : Nat} (h : q < thr k bias) : vEnc bias f k q = [q] := by
  cases f with
  | zero => rfl
  | succ f => rw [vEnc, if_pos h]
theorem vEnc_more {bias f k q : Nat} (h : ¬ q < thr k bias) : vEnc bias (f + 1) k q = (thr k bias + (q - thr k bias) % (36 - thr k bias)) :: vEnc bias f (k + 36) ((q - thr k bias) / (36 - thr k bias)) := by rw [vEnc, if_neg h]
theorem mod_int {q t : Nat} (h1 : t ≤ q) (h2 : t ≤ 26) : ((q : Int) - (t : Int)).tmod (36 - (t : Int)) = (((q - t) % (36 - t) : Nat) : Int) ∧ ((q : Int) - (t : Int)) % (36 - (t : Int)) = (((q - t) % (36 - t) : Nat) : Int) ∧ ((q : Int) - (t : Int)).tdiv (36 - (t : Int)) = (((q - t) / (36 - t) : Nat) : Int) ∧ ((q : Int) - (t : Int)) / (36 - (t : Int)) = (((q - t) / (36 - t) : Nat) : Int) := by
  have e1 : (q : Int) - (t : Int) = ((q - t : Nat) : Int) := by omega
  have e2 : (36 : Int) - (t : Int) = ((36 - t : Nat) : Int) := by omega
  rw [e1, e2]
  refine ⟨?_, (Int.natCast_emod _ _).symm, ?_, (Int.natCast_ediv _ _).symm⟩
  · rw [Int.tmod_eq_emod_of_nonneg (by omega)]; exact (Int.natCast_emod _ _).symm
  · rw [Int.tdiv_eq_ediv_of_nonneg (by omega)]; exact (Int.natCast_ediv _ _).symm

theorem pass_lt {m delta x : Nat} {r : List Nat} (h : x < m) : pass m delta (x :: r) = pass m (delta + 1) r := by rw [pass, if_pos h]
theorem pass_eq {m delta : Nat} {r : List Nat} : pass m delta (m :: r) = (delta :: (pass m 0 r).1, (pass m 0 r).2) := by rw [pass, if_neg (by omega), if_pos rfl]
theorem pass_gt {m delta x : Nat} {r : List Nat} (h : m < x) : pass m delta (x :: r) = pass m delta r := by rw [pass, if_neg (by omega), if_neg (by omega)]

theorem drop_getD (ns : List Nat) (i : Nat) (h : i < ns.length) : ns.drop i = ns.getD i 0 :: ns.drop (i + 1) := by
  rw [List.drop_eq_getElem_cons h]
  simp [List.getD, h]

/-- How it stands ahead of each pass. -/
def Rel2 (w : World) (ns : List Nat) (bl : Nat) (F : List UInt8) (o n d b k : Value) (wr : World) : Prop :=
  ∃ (f n' delta bias done : Nat) (O : List UInt8), n = .int .i64 (n' : Int) ∧ d = .int .i64 (delta : Int) ∧ b = .int .i64 (bias : Int) ∧ k = .int .i64 (done : Int) ∧
    O ++ (digs bias done (done == bl) (dts f n' delta done ns)).map letter = F ∧ done = (lt n' ns).length ∧ ns.length ≤ done + f ∧ 128 ≤ n' ∧ n' ≤ 1114112 ∧ delta ≤ (n' - 128) * 64 ∧ bias ≤ 2400 ∧ bl ≤ done ∧ O.length ≤ 100 + done * 100000000 ∧
    wr.ownsRow w.heap.size 5 1 o O.length (O.map B) ∧ Below w.heap.size w wr
/-- How it stands within a pass at m. -/
def Rel4 (w : World) (ns : List Nat) (bl : Nat) (F : List UInt8) (f m Dn : Nat) (o d b k i : Value) (wr : World) : Prop :=
  ∃ (delta bias done j : Nat) (O : List UInt8), d = .int .i64 (delta : Int) ∧ b = .int .i64 (bias : Int) ∧ k = .int .i64 (done : Int) ∧ i = .int .i64 (j : Int) ∧ j ≤ ns.length ∧
    O ++ (digs bias done (done == bl) ((pass m delta (ns.drop j)).1 ++ dts f (m + 1) ((pass m delta (ns.drop j)).2 + 1) (done + (pass m delta (ns.drop j)).1.length) ns)).map letter = F ∧ done + (pass m delta (ns.drop j)).1.length = Dn ∧ delta ≤ (m - 128) * 64 + j ∧ bias ≤ 2400 ∧ bl ≤ done ∧ O.length ≤ 100 + done * 100000000 ∧
    wr.ownsRow w.heap.size 5 1 o O.length (O.map B) ∧ Below w.heap.size w wr
/-- How it stands within a number. -/
def Rel5 (w : World) (bias : Nat) (G : List UInt8) (N K : Nat) (o q k : Value) (wr : World) : Prop :=
  ∃ (f q' k' : Nat) (O : List UInt8), q = .int .i64 (q' : Int) ∧ k = .int .i64 (k' : Int) ∧ O ++ (vEnc bias f k' q').map letter = G ∧ q' ≤ f ∧ k' + 36 * f ≤ K ∧ O.length + q' ≤ N ∧
    wr.ownsRow w.heap.size 5 1 o O.length (O.map B) ∧ Below w.heap.size w wr

end Go.Proofs.YtgnkhfmpooomkaaDoor
