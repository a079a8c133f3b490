/- The cells next to a cell, as the model finds them: plain lemmas. -/
import Derived.Test.YtnenaponiahalaaNextM
namespace Go.Proofs.Ytnenaponiahalaa.Lb
set_option linter.unusedVariables false

/-- The places next to a cell, as far as looked at. -/
def nearTo (w h c : Nat) : Nat → List Nat
  | 0 => []
  | k + 1 => nearTo w h c k ++ dirL w h c k
theorem nearTo_all (w h c : Nat) : nearTo w h c 4 = near w h c := by simp [nearTo, dirL, near]
theorem dirL_length (w h c k : Nat) : (dirL w h c k).length ≤ 1 := by
  unfold dirL upL lfL rtL dnL
  split <;> split <;> simp
theorem nearTo_length (w h c k : Nat) : (nearTo w h c k).length ≤ k := by
  induction k with
  | zero => simp [nearTo]
  | succ k ih =>
    rw [nearTo, List.length_append]
    have := dirL_length w h c k
    omega
theorem nearTo_none {w h c k : Nat} (h0 : dirL w h c k = []) : nearTo w h c (k + 1) = nearTo w h c k := by rw [nearTo, h0]; simp
theorem nearTo_one {w h c k d : Nat} (h0 : dirL w h c k = [d]) : nearTo w h c (k + 1) = nearTo w h c k ++ [d] := by rw [nearTo, h0]
/-- As the model reckons them. -/
theorem mdir0 {w h c x y : Nat} (A : At w h c x y) (hy : 0 < y) : ∃ d : Nat, dirL w h c 0 = [d] ∧ (c : Int) - (w : Int) = (d : Int) := by
  have e3 : c / w = y := by rw [A.c, div_mk A.xw]
  have hwc : w ≤ c := by
    have := mul_le (show 1 ≤ y from hy) (Nat.le_refl w)
    have := A.c
    omega
  refine ⟨c - w, ?_, by omega⟩
  show upL w c = _
  unfold upL
  rw [e3, if_pos hy]
theorem mdir1 {w h c x y : Nat} (A : At w h c x y) (hx : 0 < x) : ∃ d : Nat, dirL w h c 1 = [d] ∧ (c : Int) - 1 = (d : Int) := by
  have e3 : c % w = x := by rw [A.c, mod_mk A.xw]
  have := A.c
  refine ⟨c - 1, ?_, by omega⟩
  show lfL w c = _
  unfold lfL
  rw [e3, if_pos hx]
theorem mdir2 {w h c x y : Nat} (A : At w h c x y) (hx : x + 1 < w) : ∃ d : Nat, dirL w h c 2 = [d] ∧ (c : Int) + 1 = (d : Int) := by
  have e3 : c % w = x := by rw [A.c, mod_mk A.xw]
  refine ⟨c + 1, ?_, by omega⟩
  show rtL w c = _
  unfold rtL
  rw [e3, if_pos hx]
theorem mdir3 {w h c x y : Nat} (A : At w h c x y) (hy : y + 1 < h) : ∃ d : Nat, dirL w h c 3 = [d] ∧ (c : Int) + (w : Int) = (d : Int) := by
  have e3 : c / w = y := by rw [A.c, div_mk A.xw]
  refine ⟨c + w, ?_, by omega⟩
  show dnL w h c = _
  unfold dnL
  rw [e3, if_pos hy]
theorem near_lt {w h c : Nat} (hw : 1 ≤ w) (hc : c < w * h) (j : Nat) (hj : j < (near w h c).length) : (near w h c).getD j 0 < w * h :=
  ((mem_near hw hc).1 (by simp [hj] : (near w h c).getD j 0 ∈ near w h c)).1
theorem zAt_ints (l : List Nat) (j : Nat) (hj : j < l.length) : zAt (ints l) j = ((l.getD j 0 : Nat) : Int) := by simp [zAt, ints, hj]
theorem filter_yes {p : Nat → Bool} {l : List Nat} {j : Nat} (hj : j < l.length) (h : p (l.getD j 0) = true) : (l.take (j + 1)).filter p = (l.take j).filter p ++ [l.getD j 0] := by
  rw [take_succ_getD l 0 j hj, List.filter_append, List.filter_cons, if_pos h]; rfl
theorem filter_no {p : Nat → Bool} {l : List Nat} {j : Nat} (hj : j < l.length) (h : p (l.getD j 0) = false) : (l.take (j + 1)).filter p = (l.take j).filter p := by
  rw [take_succ_getD l 0 j hj, List.filter_append, List.filter_cons, if_neg (by rw [h]; simp)]; simp

end Go.Proofs.Ytnenaponiahalaa.Lb
