/-
  Srt, SrtA.
-/
import Derived.Test.YtenlampiiodkhaaGreatDoorBAc
import Derived.BigRegion
import Derived.Deep.LoopGhost
namespace Go.Proofs.YtenlampiiodkhaaGreatDoor
set_option linter.unusedVariables false
open Go.RowKit
def Pm (a b : Nat) (f g : Nat → Nat) : Prop := ∃ p s : Nat → Nat, (∀ i, p (s i) = i) ∧ (∀ i, s (p i) = i) ∧ (∀ i, ¬ (a ≤ i ∧ i < b) → p i = i) ∧ ∀ i, g i = f (p i)
theorem Pm.refl (a b : Nat) (f : Nat → Nat) : Pm a b f f := ⟨id, id, fun _ => rfl, fun _ => rfl, fun _ _ => rfl, fun _ => rfl⟩
theorem Pm.mono {a b a' b' : Nat} {f g : Nat → Nat} (h : Pm a b f g) (ha : a' ≤ a) (hb : b ≤ b') : Pm a' b' f g := by
  obtain ⟨p, s, h1, h2, h3, h4⟩ := h; exact ⟨p, s, h1, h2, fun i hi => h3 i (by omega), h4⟩
theorem Pm.trans {a b : Nat} {f g u : Nat → Nat} (h : Pm a b f g) (k : Pm a b g u) : Pm a b f u := by
  obtain ⟨p, s, h1, h2, h3, h4⟩ := h; obtain ⟨p', s', k1, k2, k3, k4⟩ := k; refine ⟨fun i => p (p' i), fun i => s' (s i), fun i => ?_, fun i => ?_, fun i hi => ?_, fun i => ?_⟩
  · show p (p' (s' (s i))) = i; rw [k1, h1]
  · show s' (s (p (p' i))) = i; rw [h2, k2]
  · show p (p' i) = i; rw [k3 i hi, h3 i hi]
  · rw [k4, h4]
theorem Pm.out {a b : Nat} {f g : Nat → Nat} (h : Pm a b f g) (i : Nat) (hi : ¬ (a ≤ i ∧ i < b)) : g i = f i := by
  obtain ⟨p, s, h1, h2, h3, h4⟩ := h; rw [h4, h3 i hi]
theorem Pm.at {a b : Nat} {f g : Nat → Nat} (h : Pm a b f g) (i : Nat) (hi : a ≤ i ∧ i < b) : ∃ j, (a ≤ j ∧ j < b) ∧ g i = f j := by
  obtain ⟨p, s, h1, h2, h3, h4⟩ := h; refine ⟨p i, Classical.byContradiction fun hc => ?_, h4 i⟩; have e := h3 (p i) hc; have e2 := h2 (p i); rw [e, h2] at e2; rw [← e2] at hc; exact hc hi
theorem Pm.back {a b : Nat} {f g : Nat → Nat} (h : Pm a b f g) (j : Nat) (hj : a ≤ j ∧ j < b) : ∃ i, (a ≤ i ∧ i < b) ∧ g i = f j := by
  obtain ⟨p, s, h1, h2, h3, h4⟩ := h; refine ⟨s j, Classical.byContradiction fun hc => ?_, by rw [h4, h1]⟩; have e := h3 (s j) hc; rw [h1] at e; rw [← e] at hc; exact hc hj
def sw (f : Nat → Nat) (i j : Nat) : Nat → Nat := fun x => if x = i then f j else if x = j then f i else f x
def rot (f : Nat → Nat) (a m b : Nat) : Nat → Nat := fun x => if a ≤ x ∧ x < b then (if x < a + (b - m) then f (x + (m - a)) else f (x - (b - m))) else f x
def swr (f : Nat → Nat) (a b n : Nat) : Nat → Nat := fun x => if a ≤ x ∧ x < a + n then f (x + (b - a)) else if b ≤ x ∧ x < b + n then f (x - (b - a)) else f x
theorem rot_at (f : Nat → Nat) {a m b : Nat} (h1 : a ≤ m) (h2 : m ≤ b) (x : Nat) : (a ≤ x ∧ x < a + (b - m) ∧ rot f a m b x = f (x + (m - a))) ∨ (a + (b - m) ≤ x ∧ x < b ∧ rot f a m b x = f (x - (b - m))) ∨ (¬ (a ≤ x ∧ x < b) ∧ rot f a m b x = f x) := by
  unfold rot; by_cases c : a ≤ x ∧ x < b
  · rw [if_pos c]; by_cases d : x < a + (b - m)
    · rw [if_pos d]; exact .inl ⟨c.1, d, rfl⟩
    · rw [if_neg d]; exact .inr (.inl ⟨by omega, c.2, rfl⟩)
  · rw [if_neg c]; exact .inr (.inr ⟨c, rfl⟩)
theorem pm_rot (f : Nat → Nat) {a m b : Nat} (h1 : a ≤ m) (h2 : m ≤ b) : Pm a b f (rot f a m b) := by
  refine ⟨rot id a m b, rot id a (a + (b - m)) b, fun i => ?_, fun i => ?_, fun i hi => ?_, fun i => ?_⟩
  · rcases rot_at id (show a ≤ a + (b - m) by omega) (show a + (b - m) ≤ b by omega) i with ⟨c1, c2, e⟩ | ⟨c1, c2, e⟩ | ⟨c1, e⟩ <;> rw [e] <;> simp only [id] <;> unfold rot <;> simp only [id] <;> split <;> (try split) <;> omega
  · rcases rot_at id h1 h2 i with ⟨c1, c2, e⟩ | ⟨c1, c2, e⟩ | ⟨c1, e⟩ <;> rw [e] <;> simp only [id] <;> unfold rot <;> simp only [id] <;> split <;> (try split) <;> omega
  · unfold rot; rw [if_neg hi]; rfl
  · unfold rot
    split
    · split <;> rfl
    · rfl
theorem sw_rot (f : Nat → Nat) (j : Nat) : sw f (j + 1) j = rot f j (j + 1) (j + 2) := by
  funext x; unfold sw rot
  repeat' split
  all_goals first | rfl | (exfalso; omega) | (congr 1; omega)
theorem rot_fwd (f : Nat → Nat) {a k : Nat} (h : a ≤ k) : sw (rot f a (a + 1) (k + 1)) k (k + 1) = rot f a (a + 1) (k + 2) := by
  funext x; unfold sw rot
  repeat' split
  all_goals first | rfl | (exfalso; omega) | (congr 1; omega)
theorem rot_bwd (f : Nat → Nat) {k m : Nat} (h : k < m) : sw (rot f (k + 1) m (m + 1)) (k + 1) k = rot f k m (m + 1) := by
  funext x; unfold sw rot
  repeat' split
  all_goals first | rfl | (exfalso; omega) | (congr 1; omega)
theorem rot_none (f : Nat → Nat) (a b : Nat) : rot f a a b = f := by
  funext x; unfold rot
  repeat' split
  all_goals first | rfl | (exfalso; omega) | (congr 1; omega)
theorem rot_none' (f : Nat → Nat) (a b : Nat) : rot f a b b = f := by
  funext x; unfold rot
  repeat' split
  all_goals first | rfl | (exfalso; omega) | (congr 1; omega)
theorem swr_zero (f : Nat → Nat) (a b : Nat) : swr f a b 0 = f := by
  funext x; unfold swr
  repeat' split
  all_goals first | rfl | (exfalso; omega)
theorem swr_step (f : Nat → Nat) {a b n : Nat} (h : a + (n + 1) ≤ b) : sw (swr f a b n) (a + n) (b + n) = swr f a b (n + 1) := by
  funext x; unfold sw swr
  repeat' split
  all_goals first | rfl | (exfalso; omega) | (congr 1; omega)
theorem rot_more (f : Nat → Nat) {m i j : Nat} (h : j < i) (hi : i ≤ m) : rot (swr f (m - i) m j) (m - (i - j)) m (m + j) = rot f (m - i) m (m + j) := by
  funext x; unfold rot swr
  repeat' split
  all_goals first | rfl | (exfalso; omega) | (congr 1; omega)
theorem rot_less (f : Nat → Nat) {m i j : Nat} (h : i < j) (hi : i ≤ m) : rot (swr f (m - i) (m + j - i) i) (m - i) m (m + (j - i)) = rot f (m - i) m (m + j) := by
  funext x; unfold rot swr
  repeat' split
  all_goals first | rfl | (exfalso; omega) | (congr 1; omega)
theorem rot_same (f : Nat → Nat) {m i : Nat} (hi : i ≤ m) : swr f (m - i) m i = rot f (m - i) m (m + i) := by
  funext x; unfold rot swr
  repeat' split
  all_goals first | rfl | (exfalso; omega) | (congr 1; omega)
def St (k : Nat → Nat) (f : Nat → Nat) (n : Nat) : Prop := ∀ i j, i < j → j < n → k (f i) = k (f j) → f i < f j
def Asc (k : Nat → Nat) (f : Nat → Nat) (a b : Nat) : Prop := ∀ x y, a ≤ x → x < y → y < b → k (f x) ≤ k (f y)
theorem St.rot {k f : Nat → Nat} {n a m b : Nat} (h : St k f n) (h1 : a ≤ m) (h2 : m ≤ b) (hb : b ≤ n) (hs : ∀ x y, a ≤ x → x < m → m ≤ y → y < b → k (f y) < k (f x)) : St k (rot f a m b) n := by
  intro i j hij hj; rcases rot_at f h1 h2 i with ⟨c1, c2, e⟩ | ⟨c1, c2, e⟩ | ⟨c1, e⟩ <;> rcases rot_at f h1 h2 j with ⟨d1, d2, e'⟩ | ⟨d1, d2, e'⟩ | ⟨d1, e'⟩ <;> rw [e, e']
  · exact h _ _ (by omega) (by omega)
  · intro hk; have := hs (j - (b - m)) (i + (m - a)) (by omega) (by omega) (by omega) (by omega); omega
  · exact h _ _ (by omega) (by omega)
  · omega
  · exact h _ _ (by omega) (by omega)
  · exact h _ _ (by omega) (by omega)
  · exact h _ _ (by omega) (by omega)
  · exact h _ _ (by omega) (by omega)
  · exact h _ _ (by omega) (by omega)
def InI (k f : Nat → Nat) (a i j : Nat) : Prop := (∀ x y, a ≤ x → x < y → y ≤ i → x ≠ j → y ≠ j → k (f x) ≤ k (f y)) ∧ ∀ y, j < y → y ≤ i → k (f j) < k (f y)
theorem InI.start {k f : Nat → Nat} {a i : Nat} (h : Asc k f a i) : InI k f a i i := ⟨fun x y h1 h2 h3 h4 h5 => h x y h1 h2 (by omega), fun y h1 h2 => by omega⟩
theorem InI.stop {k f : Nat → Nat} {a i j : Nat} (h : InI k f a i j) (hj : a ≤ j) (hi : j ≤ i) (hs : j = a ∨ k (f (j - 1)) ≤ k (f j)) : Asc k f a (i + 1) := by
  intro x y h1 h2 h3; by_cases hx : x = j
  · subst hx; exact Nat.le_of_lt (h.2 y h2 (by omega))
  · by_cases hy : y = j
    · subst hy; rcases hs with hs | hs
      · omega
      · by_cases hx1 : x = y - 1
        · rw [hx1]; exact hs
        · exact Nat.le_trans (h.1 x (y - 1) h1 (by omega) (by omega) hx (by omega)) hs
    · exact h.1 x y h1 h2 (by omega) hx hy
theorem InI.step {k f : Nat → Nat} {a i j : Nat} (h : InI k f a i (j + 1)) (hj : a ≤ j) (hi : j + 1 ≤ i) (hs : k (f (j + 1)) < k (f j)) : InI k (sw f (j + 1) j) a i j := by
  have e1 : sw f (j + 1) j j = f (j + 1) := by unfold sw; rw [if_neg (by omega), if_pos rfl]
  have e2 : sw f (j + 1) j (j + 1) = f j := by unfold sw; rw [if_pos rfl]
  have e3 : ∀ x, x ≠ j → x ≠ j + 1 → sw f (j + 1) j x = f x := fun x h1 h2 => by unfold sw; rw [if_neg h2, if_neg h1]
  refine ⟨fun x y h1 h2 h3 h4 h5 => ?_, fun y h1 h2 => ?_⟩
  · by_cases hx : x = j + 1
    · subst hx; rw [e2, e3 y h5 (by omega)]; exact h.1 j y hj (by omega) h3 (by omega) (by omega)
    · by_cases hy : y = j + 1
      · subst hy; rw [e2, e3 x h4 hx]; exact h.1 x j h1 (by omega) (by omega) hx (by omega)
      · rw [e3 x h4 hx, e3 y h5 hy]; exact h.1 x y h1 h2 h3 hx hy
  · rw [e1]; by_cases hy : y = j + 1
    · subst hy; rw [e2]; exact hs
    · rw [e3 y (by omega) hy]; exact h.2 y (by omega) h2
theorem St.sw {k f : Nat → Nat} {n j : Nat} (h : St k f n) (hj : j + 1 < n) (hs : k (f (j + 1)) < k (f j)) : St k (sw f (j + 1) j) n := by
  rw [sw_rot]; refine h.rot (by omega) (by omega) (by omega) fun x y h1 h2 h3 h4 => ?_; have e1 : x = j := by omega
  have e2 : y = j + 1 := by omega
  subst e1 e2; exact hs
theorem asc_first {k f : Nat → Nat} {a i b : Nat} (h : Asc k f (a + 1) b) (h1 : a + 1 ≤ i) (h2 : i ≤ b) (hl : ∀ x, a + 1 ≤ x → x < i → k (f x) < k (f a)) (hg : ∀ x, i ≤ x → x < b → k (f a) ≤ k (f x)) : Asc k (rot f a (a + 1) i) a b := by
  intro x y c1 c2 c3; rcases rot_at f (show a ≤ a + 1 by omega) h1 x with ⟨d1, d2, e⟩ | ⟨d1, d2, e⟩ | ⟨d1, e⟩ <;> rcases rot_at f (show a ≤ a + 1 by omega) h1 y with ⟨d1', d2', e'⟩ | ⟨d1', d2', e'⟩ | ⟨d1', e'⟩ <;> rw [e, e']
  · exact h _ _ (by omega) (by omega) (by omega)
  · have := hl (x + (a + 1 - a)) (by omega) (by omega); rw [show y - (i - (a + 1)) = a by omega]; omega
  · exact h _ _ (by omega) (by omega) (by omega)
  · omega
  · omega
  · rw [show x - (i - (a + 1)) = a by omega]; exact hg _ (by omega) (by omega)
  · omega
  · omega
  · exact h _ _ (by omega) (by omega) (by omega)
theorem asc_last {k f : Nat → Nat} {a i m : Nat} (h : Asc k f a m) (h1 : a ≤ i) (h2 : i ≤ m) (hl : ∀ x, a ≤ x → x < i → k (f x) ≤ k (f m)) (hg : ∀ x, i ≤ x → x < m → k (f m) < k (f x)) : Asc k (rot f i m (m + 1)) a (m + 1) := by
  intro x y c1 c2 c3; rcases rot_at f h2 (show m ≤ m + 1 by omega) x with ⟨d1, d2, e⟩ | ⟨d1, d2, e⟩ | ⟨d1, e⟩ <;> rcases rot_at f h2 (show m ≤ m + 1 by omega) y with ⟨d1', d2', e'⟩ | ⟨d1', d2', e'⟩ | ⟨d1', e'⟩ <;> rw [e, e']
  · omega
  · have := hg (y - (m + 1 - m)) (by omega) (by omega); rw [show x + (m - i) = m by omega]; omega
  · omega
  · omega
  · exact h _ _ (by omega) (by omega) (by omega)
  · omega
  · rw [show y + (m - i) = m by omega]; exact hl _ (by omega) (by omega)
  · exact h _ _ (by omega) (by omega) (by omega)
  · exact h _ _ (by omega) (by omega) (by omega)
structure Mids (k g : Nat → Nat) (a s mid e b : Nat) : Prop where
  a1 : Asc k g a s
  a2 : Asc k g s mid
  a3 : Asc k g mid e
  a4 : Asc k g e b
  cr : ∀ x y, a ≤ x → x < mid → mid ≤ y → y < b → k (g x) ≤ k (g y)
theorem mids {k f : Nat → Nat} {a m b s e mid : Nat} (hA : Asc k f a m) (hB : Asc k f m b) (h1 : a ≤ s) (h2 : s ≤ m) (h3 : m ≤ e) (h4 : e ≤ b) (hm : s + (e - m) = mid)
    (hlo : ∀ x y, a ≤ x → x < s → e ≤ y → y < b → k (f x) ≤ k (f y)) (hhi : ∀ x y, s ≤ x → x < m → m ≤ y → y < e → k (f y) < k (f x)) : Mids k (rot f s m e) a s mid e b := by
  refine ⟨fun x y c1 c2 c3 => ?_, fun x y c1 c2 c3 => ?_, fun x y c1 c2 c3 => ?_, fun x y c1 c2 c3 => ?_, fun x y c1 c2 c3 c4 => ?_⟩
  all_goals rcases rot_at f h2 h3 x with ⟨d1, d2, e1⟩ | ⟨d1, d2, e1⟩ | ⟨d1, e1⟩ <;> rcases rot_at f h2 h3 y with ⟨d1', d2', e2⟩ | ⟨d1', d2', e2⟩ | ⟨d1', e2⟩ <;> rw [e1, e2]
  all_goals first
    | (exfalso; omega)
    | exact hA _ _ (by omega) (by omega) (by omega)
    | exact hB _ _ (by omega) (by omega) (by omega)
    | exact Nat.le_of_lt (hhi _ _ (by omega) (by omega) (by omega) (by omega))
    | exact hlo _ _ (by omega) (by omega) (by omega) (by omega)
theorem merged {k g g1 g2 : Nat → Nat} {a mid b : Nat} (cr : ∀ x y, a ≤ x → x < mid → mid ≤ y → y < b → k (g x) ≤ k (g y)) (p1 : Pm a mid g g1) (h1 : Asc k g1 a mid) (p2 : Pm mid b g1 g2) (h2 : Asc k g2 mid b) : Asc k g2 a b := by
  intro x y c1 c2 c3; by_cases hx : x < mid
  · have e1 : g2 x = g1 x := p2.out x (by omega); by_cases hy : y < mid
    · rw [e1, p2.out y (by omega)]; exact h1 x y c1 c2 hy
    · obtain ⟨x', hx', ex⟩ := p1.at x ⟨c1, hx⟩; obtain ⟨y', hy', ey⟩ := p2.at y ⟨by omega, c3⟩; rw [e1, ex, ey, p1.out y' (by omega)]; exact cr x' y' hx'.1 hx'.2 hy'.1 hy'.2
  · exact h2 x y (by omega) c2 c3
theorem Pm.asc_out {k f g : Nat → Nat} {a b c d : Nat} (h : Pm a b f g) (hA : Asc k f c d) (ho : d ≤ a ∨ b ≤ c) : Asc k g c d := by
  intro x y c1 c2 c3; rw [h.out x (by omega), h.out y (by omega)]; exact hA x y c1 c2 c3
end Go.Proofs.YtenlampiiodkhaaGreatDoor
namespace Go.Proofs.YtenlampiiodkhaaGreatDoor
set_option linter.unusedVariables false
open Go.RowKit
structure Oth (blk : Nat) (w0 W : World) : Prop where
  os : W.os = w0.os
  tape : W.tape = w0.tape
  output : W.output = w0.output
  size : W.heap.size = w0.heap.size
  block : ∀ g, g ≠ blk → W.heap[g]? = w0.heap[g]?
theorem Oth.refl (blk : Nat) (w : World) : Oth blk w w := ⟨rfl, rfl, rfl, rfl, fun _ _ => rfl⟩
theorem Oth.drewN {blk : Nat} {w0 W : World} (h : Oth blk w0 W) (n : Nat) : Oth blk w0 (W.drewN n) := ⟨h.os, h.tape, h.output, h.size, h.block⟩
theorem Oth.setCell {blk : Nat} {w0 W : World} (h : Oth blk w0 W) (p : Nat) (v : Value) : Oth blk w0 (W.setCell ⟨blk, p, none⟩ v) :=
  ⟨h.os, h.tape, h.output, by rw [← h.size]; simp [World.setCell], fun g hg => by rw [Below.heap_setCell _ _ _ _ hg]; exact h.block g hg⟩
theorem Oth.cell {blk : Nat} {w0 W : World} (h : Oth blk w0 W) {p : Addr} (hp : p.block ≠ blk) : W.cell? p = w0.cell? p := World.cell?_of_block (w := w0) (h.block p.block hp)
theorem Oth.below {blk B : Nat} {w w0 W : World} (h : Oth blk w0 W) (hb : Below B w w0) (hB : B ≤ blk) : Below B w W :=
  ⟨h.os.trans hb.os, h.tape.trans hb.tape, h.output.trans hb.output, by rw [h.size]; exact hb.size, fun k hk => by rw [h.block k (by omega)]; exact hb.block k hk⟩
def IB (w : World) (b : Nat) : Prop := ∃ X fz, w.heap[b]? = some (.cells X 3 fz)
theorem IB.setCell {W : World} {b : Nat} (h : IB W b) (i : Nat) (v : Value) : IB (W.setCell ⟨b, i, none⟩ v) b := by
  obtain ⟨X, fz, h⟩ := h; refine ⟨X.setIfInBounds i v, fz, ?_⟩; simp [World.setCell, Array.getElem?_modify, h]
structure SRow (w0 : World) (blk off n L : Nat) (f : Nat → Nat) (W : World) : Prop where
  cell : ∀ i, i < n → W.cell? ⟨blk, off + i, none⟩ = some (.int .i64 (f i : Int))
  fz : ∀ i, i < n → W.frozen? ⟨blk, off + i, none⟩ = false
  lt : ∀ i, i < n → f i < L
  oth : Oth blk w0 W
  ty : IB W blk
theorem SRow.drewN {w0 W : World} {blk off n L : Nat} {f : Nat → Nat} (h : SRow w0 blk off n L f W) (k : Nat) : SRow w0 blk off n L f (W.drewN k) := ⟨h.cell, h.fz, h.lt, h.oth.drewN k, h.ty⟩
theorem SRow.drew {w0 W : World} {blk off n L : Nat} {f : Nat → Nat} (h : SRow w0 blk off n L f W) : SRow w0 blk off n L f W.drew := h.drewN 1
theorem SRow.sw {w0 W : World} {blk off n L : Nat} {f : Nat → Nat} (h : SRow w0 blk off n L f W) (i j : Nat) (hi : i < n) (hj : j < n) :
    SRow w0 blk off n L (sw f i j) ((W.setCell ⟨blk, off + i, none⟩ (.int .i64 (f j : Int))).setCell ⟨blk, off + j, none⟩ (.int .i64 (f i : Int))).drew := by
  have c1 : ∀ x, x < n → (W.setCell ⟨blk, off + i, none⟩ (.int .i64 (f j : Int))).cell? ⟨blk, off + x, none⟩ = some (.int .i64 ((if x = i then f j else f x : Nat) : Int)) := by
    intro x hx; by_cases e : x = i
    · subst e; rw [if_pos rfl]; exact World.cell?_setCell_same _ _ _ (h.cell x hx)
    · rw [if_neg e, World.cell?_setCell_other _ _ _ _ (by intro e'; simp only [Addr.mk.injEq] at e'; omega)]; exact h.cell x hx
  refine SRow.drew ⟨fun x hx => ?_, fun x hx => ?_, fun x hx => ?_, (h.oth.setCell _ _).setCell _ _, (h.ty.setCell _ _).setCell _ _⟩
  · unfold Proofs.YtenlampiiodkhaaGreatDoor.sw; by_cases e : x = j
    · subst e; rw [World.cell?_setCell_same _ _ _ (c1 x hx)]; by_cases e2 : x = i
      · rw [if_pos e2, e2]
      · rw [if_neg e2, if_pos rfl]
    · rw [World.cell?_setCell_other _ _ _ _ (by intro e'; simp only [Addr.mk.injEq] at e'; omega), c1 x hx, if_neg e]
  · rw [World.frozen?_setCell, World.frozen?_setCell]; exact h.fz x hx
  · unfold Proofs.YtenlampiiodkhaaGreatDoor.sw
    repeat' split
    · exact h.lt j hj
    · exact h.lt i hi
    · exact h.lt x hx
theorem SRow.c2 {w0 W : World} {blk off n L : Nat} {f : Nat → Nat} (h : SRow w0 blk off n L f W) (i j : Nat) (hi : i < n) (hj : j < n) (v : Value) : ∃ u, (W.setCell ⟨blk, off + i, none⟩ v).cell? ⟨blk, off + j, none⟩ = some u := by
  by_cases e : i = j
  · subst e; exact ⟨v, World.cell?_setCell_same _ _ _ (h.cell i hi)⟩
  · exact ⟨_, (World.cell?_setCell_other _ _ _ _ (by intro e'; simp only [Addr.mk.injEq] at e'; omega)).trans (h.cell j hj)⟩
set_option maxHeartbeats 4000000 in
set_option maxRecDepth 100000 in
theorem swapRange_any (w0 : World) (blk off n cap L : Nat) (f : Nat → Nat) (cv : Value) (a b m : Nat) (w : World) (hr : SRow w0 blk off n L f w) (hn : n ≤ 1000) (hab : a + m ≤ b) (hb : b + m ≤ n) :
    Calls Tryz.prog 228 #[.slice (some ⟨blk, off, none⟩) n cap, .int .i64 (a : Int), .int .i64 (b : Int), .int .i64 (m : Int), cv] w fun e w' => e = .returned (.tuple #[]) ∧ SRow w0 blk off n L (swr f a b m) w' := by
  go_enter Tryz.func228, Tryz.ntmps228; have HR := hide hr; clear hr; go_wp2_with fail
  go_loopw [10] (fun i wr => ∃ k : Nat, k ≤ m ∧ i = .int .i64 k ∧ Hid (SRow w0 blk off n L (swr f a b k) wr)) (fun i _ => m - (intOf i).toNat)
  case atStart => exact ⟨0, by omega, rfl, by rw [swr_zero]; exact HR⟩
  case round =>
    clear HR; obtain ⟨k, hk, rfl, S⟩ := hrel; by_cases hkm : k < m
    · obtain ⟨iN, hiN⟩ : ∃ q, q = a + k := ⟨_, rfl⟩; obtain ⟨jN, hjN⟩ : ∃ q, q = b + k := ⟨_, rfl⟩; have S0 := unhide S; generalize hg : swr f a b k = g at *; have S3 : Hid (SRow w0 blk off n L (swr f a b (k + 1)) ((wr.setCell ⟨blk, off + iN, none⟩ (.int .i64 (g jN : Int))).setCell ⟨blk, off + jN, none⟩ (.int .i64 (g iN : Int))).drew) := by
        have := S0.sw (a + k) (b + k) (by omega) (by omega); rw [← hg, swr_step f (by omega), hg] at this; rw [hiN, hjN]; exact this
      have c1 := S0.cell iN (by omega); have c2 := S0.cell jN (by omega); have f1 := S0.fz iN (by omega); have f2 := S0.fz jN (by omega); obtain ⟨u, c3⟩ := S0.c2 iN jN (by omega) (by omega) (.int .i64 (g jN : Int)); have e1 : ((a : Int) + (k : Int)).toNat = iN := by omega
      have e2 : ((b : Int) + (k : Int)).toNat = jN := by omega
      have p1 : (0 : Int) ≤ (a : Int) + (k : Int) := by omega
      have p2 : (0 : Int) ≤ (b : Int) + (k : Int) := by omega
      have b1 : (a : Int) + (k : Int) < (n : Int) := by omega
      have b2 : (b : Int) + (k : Int) < (n : Int) := by omega
      have r1 : IntKind.i64.wrap ((a : Int) + (k : Int)) = (a : Int) + (k : Int) := by rw [IntKind.wrap_i64]; omega
      have r2 : IntKind.i64.wrap ((b : Int) + (k : Int)) = (b : Int) + (k : Int) := by rw [IntKind.wrap_i64]; omega
      clear S S0 hiN hjN hg; generalize (g iN : Int) = gi at *; generalize (g jN : Int) = gj at *; go_wp2_with fail
      go_region
      clear c1 c2 c3 f1 f2; generalize ((wr.setCell ⟨blk, off + iN, none⟩ (.int .i64 gj)).setCell ⟨blk, off + jN, none⟩ (.int .i64 gi)).drew = w3 at S3 ⊢; clear e1 e2; go_wp2; exact ⟨⟨k + 1, by omega, by simp, S3⟩, (show m - ((k : Int) + 1).toNat < m - ((k : Int)).toNat by omega)⟩
    · have e : k = m := by omega
      subst e; go_wp2
      go_end0
      exact ⟨rfl, unhide S⟩
set_option maxHeartbeats 4000000 in
set_option maxRecDepth 100000 in
theorem rotate_any (w0 : World) (blk off n cap L : Nat) (f : Nat → Nat) (cv : Value) (a m b : Nat) (w : World) (hr : SRow w0 blk off n L f w) (hn : n ≤ 1000) (ham : a < m) (hmb : m < b) (hb : b ≤ n) :
    Calls Tryz.prog 225 #[.slice (some ⟨blk, off, none⟩) n cap, .int .i64 (a : Int), .int .i64 (m : Int), .int .i64 (b : Int), cv] w fun e w' => e = .returned (.tuple #[]) ∧ SRow w0 blk off n L (rot f a m b) w' := by
  go_enter Tryz.func225, Tryz.ntmps225; have HR := hide hr; clear hr; go_wp2_with fail
  go_loopw [10, 11] (fun vi vj wr => ∃ (i j : Nat) (g : Nat → Nat), 0 < i ∧ i ≤ m ∧ 0 < j ∧ m + j ≤ n ∧ vi = .int .i64 i ∧ vj = .int .i64 j ∧ Hid (SRow w0 blk off n L g wr) ∧ Hid (rot g (m - i) m (m + j) = rot f a m b)) (fun vi vj _ => (intOf vi).toNat + (intOf vj).toNat)
  case atStart => exact ⟨m - a, b - m, f, by omega, by omega, by omega, by omega, by congr 1; omega, by congr 1; omega, HR, by rw [show m - (m - a) = a by omega, show m + (b - m) = b by omega]; exact hide rfl⟩
  case round =>
    clear HR; obtain ⟨i, j, g, hi0, him, hj0, hjn, rfl, rfl, S, E⟩ := hrel; by_cases hij : i = j
    · subst hij; have hh := hide (swapRange_any w0 blk off n cap L g cv (m - i) m i wr (unhide S) hn (by omega) (by omega)); rw [show ((m - i : Nat) : Int) = (m : Int) - (i : Int) by omega] at hh; go_wp2_with fail
      refine (unhide hh).mono ?_; rintro e w2 ⟨rfl, S2⟩; have H2 := hide S2; clear S2 hh; go_wp2
      go_end0
      refine ⟨rfl, ?_⟩; have := unhide H2; rw [rot_same g him, unhide E] at this; exact this
    · have hne : ((i : Int) = (j : Int)) = False := by simp; omega
      have hne2 : ((i : Int) == (j : Int)) = false := beq_eq_false_iff_ne.2 (by omega); by_cases hgt : j < i
      · have hh := hide (swapRange_any w0 blk off n cap L g cv (m - i) m j wr (unhide S) hn (by omega) (by omega)); rw [show ((m - i : Nat) : Int) = (m : Int) - (i : Int) by omega] at hh; have hgt' : (j : Int) < (i : Int) := by omega
        go_wp2_with fail
        refine (unhide hh).mono ?_; rintro e w2 ⟨rfl, S2⟩; have H2 := hide S2; clear S2 hh; go_wp2; exact ⟨⟨i - j, j, _, by omega, by omega, hj0, hjn, by congr 1; omega, rfl, H2, by rw [rot_more g hgt him]; exact E⟩, (show ((i : Int) - (j : Int)).toNat + ((j : Int)).toNat < ((i : Int)).toNat + ((j : Int)).toNat by omega)⟩
      · have hh := hide (swapRange_any w0 blk off n cap L g cv (m - i) (m + j - i) i wr (unhide S) hn (by omega) (by omega)); rw [show ((m - i : Nat) : Int) = (m : Int) - (i : Int) by omega, show ((m + j - i : Nat) : Int) = (m : Int) + (j : Int) - (i : Int) by omega] at hh; have hgt' : ¬ (j : Int) < (i : Int) := by omega
        go_wp2_with fail
        refine (unhide hh).mono ?_; rintro e w2 ⟨rfl, S2⟩; have H2 := hide S2; clear S2 hh; go_wp2; exact ⟨⟨i, j - i, _, hi0, him, by omega, by omega, rfl, by congr 1; omega, H2, by rw [rot_less g (by omega) him]; exact E⟩, (show ((i : Int)).toNat + ((j : Int) - (i : Int)).toNat < ((i : Int)).toNat + ((j : Int)).toNat by omega)⟩
end Go.Proofs.YtenlampiiodkhaaGreatDoor
