/-
  PunyN.
-/
import Derived.Test.YtenlampiiodkhaaGreatDoorBSb
namespace Go.Proofs.YtenlampiiodkhaaGreatDoor
set_option linter.unusedVariables false
open Go.RowKit

theorem infoB : (Tryz.prog.info? 5).map (fun i => (i.zero, i.size, i.bytes)) = some (some (.int .u8 0), 1, 1) := by kernel_rfl
theorem conv_str (w : World) (ao : Option Addr) (n cap : Nat) (bs : List UInt8) (hl : bs.length = n) (h : RdV w ao cap (bs.map B)) :
    (convert 22 9 (.slice ao n cap)).run Tryz.prog w = .ok (.string ⟨bs.toArray⟩) w := by
  subst hl
  cases ao with
  | none =>
    have h0 := h.nil rfl
    have hle := h.le
    have hy : bs = [] := List.eq_nil_of_length_eq_zero (by simp at hle; omega)
    subst hy
    rw [run_convert_bytes_string w 22 9 5 none _ cap Tryz.underlying22 Tryz.underlying5 Tryz.underlying9]
    simp [Conv.bytesToString, Sem.run_pure]
    rfl
  | some a =>
    refine run_convert_bytes_back w 22 9 5 a cap bs Tryz.underlying22 Tryz.underlying5 Tryz.underlying9 fun j hj => ?_
    have := h.news a rfl j (B bs[j]) (by simp [hj])
    exact this

def okc (r : Int) : Prop := 0 ≤ r ∧ cp r.toNat = true
/-- The bytes below 128. -/
def low (rs : List Int) : List UInt8 := (lt 128 (rs.map Int.toNat)).map UInt8.ofNat
theorem low_snoc (rs : List Int) (x : Int) : low (rs ++ [x]) = low rs ++ (if x.toNat < 128 then [UInt8.ofNat x.toNat] else []) := by
  unfold low lt
  rw [List.map_append, List.filter_append, List.map_append]
  congr 1
  simp only [List.map_cons, List.map_nil, List.filter_cons, List.filter_nil]
  split <;> rename_i h <;> simp at h
  · rw [if_pos (by omega)]; rfl
  · rw [if_neg (by omega)]; rfl
theorem low_len (rs : List Int) : (low rs).length ≤ rs.length := by
  unfold low lt
  have := List.length_filter_le (fun x => decide (x < 128)) (rs.map Int.toNat)
  simp at this ⊢
  omega

theorem getD_range {rs : List Int} (hr : ∀ r ∈ rs, -2147483648 ≤ r ∧ r ≤ 2147483647) (k : Nat) (h : k < rs.length) : -2147483648 ≤ rs.getD k 0 ∧ rs.getD k 0 ≤ 2147483647 := by
  have : rs.getD k 0 = rs[k] := by simp [List.getD, h]
  rw [this]
  exact hr _ (List.getElem_mem h)

theorem penI_no {rs : List Int} (h : ∃ r ∈ rs, ¬ okc r) : penI rs = none := by
  obtain ⟨r, hr, hn⟩ := h
  unfold penI
  split
  · rename_i h0
    unfold penc
    rw [if_neg]
    rintro ⟨_, h2⟩
    have h3 := List.all_eq_true.1 h2 r.toNat (List.mem_map.2 ⟨r, hr, rfl⟩)
    have h4 := List.all_eq_true.1 h0 r hr
    simp only [decide_eq_true_eq] at h4
    exact hn ⟨h4, h3⟩
  · rfl
theorem penI_long {rs : List Int} (h : 63 < rs.length) : penI rs = none := by
  unfold penI
  split
  · unfold penc
    rw [if_neg]
    rintro ⟨h1, _⟩
    simp at h1
    omega
  · rfl
theorem penI_yes {rs : List Int} (h : ∀ r ∈ rs, okc r) (hl : rs.length ≤ 63) : penI rs = some (low rs ++ (if low rs = [] then [] else [45]) ++ (digs 72 (low rs).length true (dts rs.length 128 0 (low rs).length (rs.map Int.toNat))).map letter) := by
  have h0 : rs.all (fun r => decide (0 ≤ r)) = true := List.all_eq_true.2 fun r hr => by simpa using (h r hr).1
  have h1 : (rs.map Int.toNat).all cp = true := List.all_eq_true.2 fun x hx => by
    obtain ⟨r, hr, rfl⟩ := List.mem_map.1 hx
    exact (h r hr).2
  unfold penI penc
  rw [if_pos h0, if_pos ⟨by simpa using hl, h1⟩]
  unfold low
  simp only [List.length_map]
  congr 3
  simp

theorem adLoop_le (f d k : Nat) : adLoop f d k ≤ k + 36 * f + 36 := by
  induction f generalizing d k with
  | zero =>
    rw [adLoop]
    have : 36 * d / (d + 38) ≤ 36 := by
      rw [Nat.div_le_iff_le_mul_add_pred (by omega)]
      omega
    omega
  | succ f ih =>
    rw [adLoop]
    split
    · have := ih (d / 35) (k + 36)
      omega
    · have : 36 * d / (d + 38) ≤ 36 := by
        rw [Nat.div_le_iff_le_mul_add_pred (by omega)]
        omega
      omega
theorem adp_le (delta points : Nat) (first : Bool) : adp delta points first ≤ 2340 := by
  unfold adp
  have := adLoop_le 64 ((if first = true then delta / 700 else delta / 2) + (if first = true then delta / 700 else delta / 2) / points) 0
  omega

theorem cp_le {n : Nat} (h : cp n = true) : n ≤ 1114111 := by
  unfold cp at h
  simp at h
  omega

theorem vEnc_end {bias f k q : Nat} (h : q < thr k bias) : vEnc bias f k q = [q] := by
  cases f with
  | zero => rfl
  | succ f => rw [vEnc, if_pos h]
theorem vEnc_more {bias f k q : Nat} (h : ¬ q < thr k bias) : vEnc bias (f + 1) k q = (thr k bias + (q - thr k bias) % (36 - thr k bias)) :: vEnc bias f (k + 36) ((q - thr k bias) / (36 - thr k bias)) := by rw [vEnc, if_neg h]
theorem mod_int {q t : Nat} (h1 : t ≤ q) (h2 : t ≤ 26) : ((q : Int) - (t : Int)).tmod (36 - (t : Int)) = (((q - t) % (36 - t) : Nat) : Int) ∧ ((q : Int) - (t : Int)) % (36 - (t : Int)) = (((q - t) % (36 - t) : Nat) : Int) ∧ ((q : Int) - (t : Int)).tdiv (36 - (t : Int)) = (((q - t) / (36 - t) : Nat) : Int) ∧ ((q : Int) - (t : Int)) / (36 - (t : Int)) = (((q - t) / (36 - t) : Nat) : Int) := by
  have e1 : (q : Int) - (t : Int) = ((q - t : Nat) : Int) := by omega
  have e2 : (36 : Int) - (t : Int) = ((36 - t : Nat) : Int) := by omega
  rw [e1, e2]
  refine ⟨?_, (Int.natCast_emod _ _).symm, ?_, (Int.natCast_ediv _ _).symm⟩
  · rw [Int.tmod_eq_emod_of_nonneg (by omega)]; exact (Int.natCast_emod _ _).symm
  · rw [Int.tdiv_eq_ediv_of_nonneg (by omega)]; exact (Int.natCast_ediv _ _).symm

end Go.Proofs.YtenlampiiodkhaaGreatDoor
