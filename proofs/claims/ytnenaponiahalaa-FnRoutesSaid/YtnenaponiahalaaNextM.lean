/- The cells next to a cell: plain lemmas. -/
import Derived.Test.YtnenaponiahalaaPartM
namespace Go.Proofs.Ytnenaponiahalaa.Lb
set_option linter.unusedVariables false

def dirL (w h c : Nat) : Nat → List Nat
  | 0 => upL w c
  | 1 => lfL w c
  | 2 => rtL w c
  | _ => dnL w h c
/-- What the first 'k' looks have found. -/
def nxTo (m : Mp) (w h c : Nat) : Nat → List Nat
  | 0 => []
  | k + 1 => nxTo m w h c k ++ (dirL w h c k).filter (opn m)
theorem nxTo_all {m : Mp} {w h : Nat} (g : GoodM m w h) (c : Nat) : nxTo m w h c 4 = nx m c := by
  rw [nx_eq g]
  simp [nxTo, dirL, near, List.filter_append]
theorem nxTo_length (m : Mp) (w h c k : Nat) : (nxTo m w h c k).length ≤ k := by
  induction k with
  | zero => simp [nxTo]
  | succ k ih =>
    rw [nxTo, List.length_append]
    have h1 : (dirL w h c k).length ≤ 1 := by
      unfold dirL upL lfL rtL dnL
      split <;> split <;> simp
    have := List.length_filter_le (opn m) (dirL w h c k)
    omega
theorem nxTo_none {m : Mp} {w h c k : Nat} (h0 : dirL w h c k = []) : nxTo m w h c (k + 1) = nxTo m w h c k := by rw [nxTo, h0]; simp
theorem nxTo_shut {m : Mp} {w h c k d : Nat} (h0 : dirL w h c k = [d]) (hd : zAt m.C d = 0) : nxTo m w h c (k + 1) = nxTo m w h c k := by rw [nxTo, h0]; simp [opn, hd]
theorem nxTo_open {m : Mp} {w h c k d : Nat} (h0 : dirL w h c k = [d]) (hd : 0 < zAt m.C d) : nxTo m w h c (k + 1) = nxTo m w h c k ++ [d] := by rw [nxTo, h0]; simp [opn, hd]

theorem dm (w c x y : Nat) (h1 : c % w = x) (h2 : c / w = y) : ((c : Int) % (w : Int) = (x : Int)) ∧ ((c : Int) / (w : Int) = (y : Int)) := by
  subst h1 h2
  exact ⟨by omega, by omega⟩
theorem mul_le {a b c d : Nat} (h1 : a ≤ b) (h2 : c ≤ d) : a * c ≤ b * d := Nat.mul_le_mul h1 h2

/-- A place in a direction: in range its number, and what bounds it. -/
structure At (w h : Nat) (c x y : Nat) : Prop where
  c : c = y * w + x
  xw : x < w
  yh : y < h
theorem at_of {w h c x y : Nat} (hw : 1 ≤ w) (hc : c < w * h) (h1 : c % w = x) (h2 : c / w = y) : At w h c x y := by
  refine ⟨?_, by rw [← h1]; exact Nat.mod_lt _ hw, by rw [← h2]; exact div_lt_of hw hc⟩
  rw [← h1, ← h2, Nat.mul_comm]; exact cell_split w c
theorem dir0 {w h c x y : Nat} (A : At w h c x y) (hy : 0 < y) : ∃ d : Nat, dirL w h c 0 = [d] ∧ d < w * h ∧ ((y : Int) + -1) * (w : Int) + (x : Int) = (d : Int) ∧ 0 ≤ ((y : Int) + -1) * (w : Int) ∧ ((y : Int) + -1) * (w : Int) ≤ (w * h : Nat) := by
  obtain ⟨v, rfl⟩ : ∃ v, y = v + 1 := ⟨y - 1, by omega⟩
  have hv : v < h := by have := A.yh; omega
  have e : ((v + 1 : Nat) : Int) + -1 = (v : Int) := by omega
  have hm : v * w + w ≤ w * h := by have := mul_le (show v + 1 ≤ h from hv) (Nat.le_refl w); rw [Nat.add_mul, Nat.one_mul] at this; rw [Nat.mul_comm w h]; exact this
  have e2 : ((v : Int)) * (w : Int) = ((v * w : Nat) : Int) := by rw [Int.natCast_mul]
  rw [e, e2]
  have hc : c = v * w + w + x := by rw [A.c, Nat.add_mul, Nat.one_mul]
  refine ⟨v * w + x, ?_, by have := A.xw; omega, by omega, by omega, by omega⟩
  have e3 : c / w = v + 1 := by rw [A.c, div_mk A.xw]
  show upL w c = _
  unfold upL
  rw [e3, if_pos hy, hc]
  congr 1
  omega
theorem dir1 {w h c x y : Nat} (A : At w h c x y) (hx : 0 < x) : ∃ d : Nat, dirL w h c 1 = [d] ∧ d < w * h ∧ (y : Int) * (w : Int) + ((x : Int) + -1) = (d : Int) ∧ 0 ≤ (y : Int) * (w : Int) ∧ (y : Int) * (w : Int) ≤ (w * h : Nat) := by
  have hl := lt_mk A.xw A.yh
  have e2 : ((y : Int)) * (w : Int) = ((y * w : Nat) : Int) := by rw [Int.natCast_mul]
  rw [e2]
  refine ⟨y * w + x - 1, ?_, by omega, by omega, by omega, by omega⟩
  show lfL w c = _
  unfold lfL
  rw [A.c, mod_mk A.xw, if_pos hx]
theorem dir2 {w h c x y : Nat} (A : At w h c x y) (hx : x + 1 < w) : ∃ d : Nat, dirL w h c 2 = [d] ∧ d < w * h ∧ (y : Int) * (w : Int) + ((x : Int) + 1) = (d : Int) ∧ 0 ≤ (y : Int) * (w : Int) ∧ (y : Int) * (w : Int) ≤ (w * h : Nat) := by
  have hl := lt_mk hx A.yh
  have e2 : ((y : Int)) * (w : Int) = ((y * w : Nat) : Int) := by rw [Int.natCast_mul]
  rw [e2]
  refine ⟨y * w + (x + 1), ?_, by omega, by omega, by omega, by omega⟩
  show rtL w c = _
  unfold rtL
  rw [A.c, mod_mk A.xw, if_pos hx, Nat.add_assoc]
theorem dir3 {w h c x y : Nat} (A : At w h c x y) (hy : y + 1 < h) : ∃ d : Nat, dirL w h c 3 = [d] ∧ d < w * h ∧ ((y : Int) + 1) * (w : Int) + (x : Int) = (d : Int) ∧ 0 ≤ ((y : Int) + 1) * (w : Int) ∧ ((y : Int) + 1) * (w : Int) ≤ (w * h : Nat) := by
  have hl := lt_mk A.xw hy
  have e : ((y : Int) + 1) = ((y + 1 : Nat) : Int) := by omega
  have e2 : ((y + 1 : Nat) : Int) * (w : Int) = (((y + 1) * w : Nat) : Int) := by rw [Int.natCast_mul]
  rw [e, e2]
  refine ⟨(y + 1) * w + x, ?_, by omega, by omega, by omega, by omega⟩
  have e3 : c / w = y := by rw [A.c, div_mk A.xw]
  have e4 : (y + 1) * w = y * w + w := by rw [Nat.add_mul, Nat.one_mul]
  show dnL w h c = _
  unfold dnL
  rw [e3, if_pos hy, A.c, e4]
  congr 1
  omega
theorem dir_none0 {w h c x y : Nat} (A : At w h c x y) (hy : ¬ 0 < y) : dirL w h c 0 = [] := by show upL w c = _; unfold upL; rw [A.c, div_mk A.xw, if_neg hy]
theorem dir_none1 {w h c x y : Nat} (A : At w h c x y) (hx : ¬ 0 < x) : dirL w h c 1 = [] := by show lfL w c = _; unfold lfL; rw [A.c, mod_mk A.xw, if_neg hx]
theorem dir_none2 {w h c x y : Nat} (A : At w h c x y) (hx : ¬ x + 1 < w) : dirL w h c 2 = [] := by show rtL w c = _; unfold rtL; rw [A.c, mod_mk A.xw, if_neg hx]
theorem dir_none3 {w h c x y : Nat} (A : At w h c x y) (hy : ¬ y + 1 < h) : dirL w h c 3 = [] := by show dnL w h c = _; unfold dnL; rw [A.c, div_mk A.xw, if_neg hy]

end Go.Proofs.Ytnenaponiahalaa.Lb
