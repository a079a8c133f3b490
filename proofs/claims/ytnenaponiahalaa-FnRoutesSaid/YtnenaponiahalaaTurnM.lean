/- Turning and mirroring a map: plain lemmas. -/
import Derived.Test.YtnenaponiahalaaPartM
namespace Go.Proofs.Ytnenaponiahalaa.Lb
set_option linter.unusedVariables false

/-- The numbers at the places that a function tells. -/
def gath (f : Nat → Nat) (n : Nat) (l : List Int) : List Int := (List.range n).map fun k => zAt l (f k)
theorem gath_length (f : Nat → Nat) (n : Nat) (l : List Int) : (gath f n l).length = n := by simp [gath]
theorem gath_at (f : Nat → Nat) (n : Nat) (l : List Int) (k : Nat) (h : k < n) : zAt (gath f n l) k = zAt l (f k) := by simp [gath, zAt, h]
theorem gath_take (f : Nat → Nat) (n : Nat) (l : List Int) (k : Nat) (h : k < n) : (gath f n l).take (k + 1) = (gath f n l).take k ++ [zAt l (f k)] := by
  rw [zAt_take _ k (by rw [gath_length]; exact h), gath_at f n l k h]
theorem gath_take_all (f : Nat → Nat) (n : Nat) (l : List Int) : (gath f n l).take n = gath f n l := by rw [List.take_of_length_le (by rw [gath_length]; exact Nat.le_refl n)]
theorem gath_take_length (f : Nat → Nat) (n : Nat) (l : List Int) (k : Nat) (h : k ≤ n) : ((gath f n l).take k).length = k := by simp [gath]; omega

/-- The place in the given map of a place in the turned one; in the mirrored one. -/
def fromT (w h k : Nat) : Nat := (h - 1 - k % h) * w + k / h
def fromM (w k : Nat) : Nat := (k / w) * w + (w - 1 - k % w)
/-- The place in the turned map of a place in the given one. -/
def toT (w h c : Nat) : Nat := (c % w) * h + (h - 1 - c / w)

theorem fromT_at {w h x y : Nat} (hx : x < w) (hy : y < h) : fromT w h (x * h + (h - 1 - y)) = y * w + x := by
  have h1 : h - 1 - y < h := by omega
  unfold fromT
  rw [mod_mk h1, div_mk h1]
  congr 2
  omega
theorem toT_lt {w h c : Nat} (hw : 1 ≤ w) (hc : c < w * h) : toT w h c < w * h := by
  have hy := div_lt_of hw hc
  have hx : c % w < w := Nat.mod_lt _ hw
  unfold toT
  have hq : h - 1 - c / w < h := by
    generalize c / w = q at hy ⊢
    omega
  have := lt_mk (w := h) (h := w) (x := h - 1 - c / w) (y := c % w) hq hx
  rwa [Nat.mul_comm h w] at this
theorem from_to {w h c : Nat} (hw : 1 ≤ w) (hc : c < w * h) : fromT w h (toT w h c) = c := by
  unfold toT
  rw [fromT_at (Nat.mod_lt _ hw) (div_lt_of hw hc), Nat.mul_comm]
  exact (cell_split w c).symm
theorem to_from {w h k : Nat} (hh : 1 ≤ h) (hk : k < w * h) : fromT w h k < w * h ∧ toT w h (fromT w h k) = k := by
  have hx : k / h < w := Nat.div_lt_of_lt_mul (by rwa [Nat.mul_comm])
  have hy : k % h < h := Nat.mod_lt _ hh
  have e : k = (k / h) * h + (h - 1 - (h - 1 - k % h)) := by
    have := cell_split h k
    rw [Nat.mul_comm] at this
    omega
  have h1 : fromT w h k = (h - 1 - k % h) * w + k / h := rfl
  constructor
  · rw [h1]; exact lt_mk hx (by omega)
  · rw [h1]
    unfold toT
    rw [mod_mk hx, div_mk hx]
    omega
theorem fromM_at {w x y : Nat} (hx : x < w) : fromM w (y * w + (w - 1 - x)) = y * w + x := by
  have h1 : w - 1 - x < w := by omega
  unfold fromM
  rw [mod_mk h1, div_mk h1]
  omega
theorem fromM_lt {w h k : Nat} (hw : 1 ≤ w) (hk : k < w * h) : fromM w k < w * h := by
  unfold fromM
  exact lt_mk (by omega) (div_lt_of hw hk)

/-- The turned map; the mirrored one. -/
def turnM (m : Mp) : Mp := ⟨m.H, m.W, gath (fromT m.W.toNat m.H.toNat) (m.W.toNat * m.H.toNat) m.R, gath (fromT m.W.toNat m.H.toNat) (m.W.toNat * m.H.toNat) m.C⟩
def mirM (m : Mp) : Mp := ⟨m.W, m.H, gath (fromM m.W.toNat) (m.W.toNat * m.H.toNat) m.R, gath (fromM m.W.toNat) (m.W.toNat * m.H.toNat) m.C⟩

/-- What is there when the places up to 'c' have been written. -/
def part (f : Nat → Nat) (n : Nat) (l : List Int) (c : Nat) : List Int := (List.range n).map fun j => if f j < c then zAt l (f j) else 0
theorem part_length (f : Nat → Nat) (n : Nat) (l : List Int) (c : Nat) : (part f n l c).length = n := by simp [part]
theorem part_zero (f : Nat → Nat) (n : Nat) (l : List Int) : part f n l 0 = List.replicate n 0 := by
  apply List.ext_getElem
  · simp [part]
  · intro i h1 h2; simp [part]
theorem part_all (f : Nat → Nat) (n : Nat) (l : List Int) (hf : ∀ j, j < n → f j < n) : part f n l n = gath f n l := by
  apply List.ext_getElem
  · simp [part, gath]
  · intro i h1 h2
    have : i < n := by simpa [part] using h1
    simp [part, gath, hf i this]
theorem part_set (f : Nat → Nat) (n : Nat) (l : List Int) (c t : Nat) (ht : t < n) (h1 : f t = c) (h2 : ∀ j, j < n → f j = c → j = t) : (part f n l c).set t (zAt l c) = part f n l (c + 1) := by
  apply List.ext_getElem
  · simp [part]
  · intro i hi1 hi2
    have hi : i < n := by simpa [part] using hi2
    rw [List.getElem_set]
    by_cases e : t = i
    · subst e
      simp [part, h1]
    · have hne : f i ≠ c := fun e2 => e (h2 i hi e2).symm
      simp only [e, if_false]
      simp only [part, List.getElem_map, List.getElem_range]
      by_cases hlt : f i < c
      · rw [if_pos hlt, if_pos (by omega)]
      · rw [if_neg hlt, if_neg (by omega)]

/-- What is there when 'r' rows have been turned round. -/
def rows (w n : Nat) (l : List Int) (r : Nat) : List Int := (List.range n).map fun j => if j / w < r then zAt l (fromM w j) else zAt l j
theorem rows_length (w n : Nat) (l : List Int) (r : Nat) : (rows w n l r).length = n := by simp [rows]
theorem rows_zero (w n : Nat) (l : List Int) (h : l.length = n) : rows w n l 0 = l := by
  apply List.ext_getElem
  · simp [rows, h]
  · intro i h1 h2; simp [rows, zAt, h2]
theorem rows_all (w h : Nat) (hw : 1 ≤ w) (l : List Int) : rows w (w * h) l h = gath (fromM w) (w * h) l := by
  apply List.ext_getElem
  · simp [rows, gath]
  · intro i h1 h2
    have : i < w * h := by simpa [rows] using h1
    simp [rows, gath, div_lt_of hw this]
theorem turn_ok {m : Mp} {w h : Nat} (g : GoodM m w h) : GoodM (turnM m) h w ∧ turnM m = ⟨h, w, gath (fromT w h) (w * h) m.R, gath (fromT w h) (w * h) m.C⟩ := by
  have e1 : m.W.toNat = w := by rw [g.W]; rfl
  have e2 : m.H.toNat = h := by rw [g.H]; rfl
  have e3 : turnM m = ⟨h, w, gath (fromT w h) (w * h) m.R, gath (fromT w h) (w * h) m.C⟩ := by unfold turnM; rw [e1, e2, g.W, g.H]
  refine ⟨?_, e3⟩
  rw [e3]
  have n36 := g.n36
  have n1 := g.n1
  have hc : h * w = w * h := Nat.mul_comm h w
  refine ⟨rfl, rfl, g.h1, g.h6, g.w1, g.w6, by rw [gath_length, hc], by rw [gath_length, hc], by omega, by omega, fun i hi => ?_⟩
  have hi' : i < w * h := by omega
  unfold CellOk
  simp only
  rw [gath_at _ _ _ _ hi', gath_at _ _ _ _ hi']
  exact g.cell _ (to_from g.h1 hi').1
theorem mir_ok {m : Mp} {w h : Nat} (g : GoodM m w h) : GoodM (mirM m) w h ∧ mirM m = ⟨w, h, gath (fromM w) (w * h) m.R, gath (fromM w) (w * h) m.C⟩ := by
  have e1 : m.W.toNat = w := by rw [g.W]; rfl
  have e2 : m.H.toNat = h := by rw [g.H]; rfl
  have e3 : mirM m = ⟨w, h, gath (fromM w) (w * h) m.R, gath (fromM w) (w * h) m.C⟩ := by unfold mirM; rw [e1, e2, g.W, g.H]
  refine ⟨?_, e3⟩
  rw [e3]
  refine ⟨rfl, rfl, g.w1, g.w6, g.h1, g.h6, by rw [gath_length], by rw [gath_length], g.n1, g.n36, fun i hi => ?_⟩
  unfold CellOk
  simp only
  rw [gath_at _ _ _ _ hi, gath_at _ _ _ _ hi]
  exact g.cell _ (fromM_lt g.w1 hi)

end Go.Proofs.Ytnenaponiahalaa.Lb
