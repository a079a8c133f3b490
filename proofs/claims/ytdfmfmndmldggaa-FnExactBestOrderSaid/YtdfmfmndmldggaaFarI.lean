/- FarthestCell: the program and the model. -/
import Derived.Test.YtdfmfmndmldggaaDtM
namespace Go.Proofs.Ytdfmfmndmldggaa.FarI
open Go.RowKit Lb IntS MapS MapV High Cells StepT StpF SpecB DjkB OpnI TmsI LtI
open Go.Proofs.Ytdfmfmndmldggaa.BfoB (oL oL_len oL_at own_at own_cell)
set_option linter.unusedSimpArgs false
set_option linter.unusedVariables false

/-- The farthest of the first 'k' cells, and its time. -/
def farK (F : Nat → Int) : Nat → Nat × Int
  | 0 => (0, -1)
  | k + 1 => if (farK F k).2 < F k then (k, F k) else farK F k
theorem far_take {F : Nat → Int} {k p : Nat} {t : Int} (h : farK F k = (p, t)) (hl : t < F k) : farK F (k + 1) = (k, F k) := by rw [farK, h, if_pos hl]
theorem far_skip {F : Nat → Int} {k p : Nat} {t : Int} (h : farK F k = (p, t)) (hl : ¬ t < F k) : farK F (k + 1) = (p, t) := by rw [farK, h, if_neg hl]
theorem far_ge {F : Nat → Int} : ∀ {k : Nat}, -1 ≤ (farK F k).2
  | 0 => Int.le_refl _
  | k + 1 => by
    have := far_ge (F := F) (k := k)
    rw [farK]
    split
    · show -1 ≤ F k
      omega
    · exact this
theorem far_max {F : Nat → Int} {j : Nat} : ∀ {k : Nat}, j < k → F j ≤ (farK F k).2
  | 0, h => by omega
  | k + 1, h => by
    rw [farK]
    by_cases e : j = k
    · subst e
      split
      · exact Int.le_refl _
      · omega
    · have := far_max (F := F) (k := k) (j := j) (by omega)
      split
      · show F j ≤ F k
        omega
      · exact this
theorem far_at {F : Nat → Int} : ∀ {k : Nat}, 0 ≤ (farK F k).2 → (farK F k).1 < k ∧ F (farK F k).1 = (farK F k).2
  | 0, h => by simp [farK] at h
  | k + 1, h => by
    rw [farK] at h ⊢
    split
    · exact ⟨Nat.lt_succ_self _, rfl⟩
    · rename_i hn
      rw [if_neg hn] at h
      have := far_at (F := F) (k := k) h
      exact ⟨by omega, this.2⟩
/-- Where the program stands. -/
def farP (F : Nat → Int) (i k : Nat) : Nat := if 0 < (farK F k).2 then (farK F k).1 else i
theorem farP_zero (F : Nat → Int) (i : Nat) : farP F i 0 = i := by simp [farP, farK]
theorem farP_val {F : Nat → Int} {i : Nat} (hi : F i = 0) (k : Nat) : F (farP F i k) = if 0 < (farK F k).2 then (farK F k).2 else 0 := by
  unfold farP
  split
  · rename_i h
    exact (far_at (by omega)).2
  · exact hi
theorem farP_take {F : Nat → Int} {i : Nat} (hi : F i = 0) {k : Nat} (h0 : 0 ≤ F k) (h : F (farP F i k) < F k) : farP F i (k + 1) = k := by
  rw [farP_val hi] at h
  have h1 : (farK F k).2 < F k := by split at h <;> omega
  have h2 : 0 < F k := by split at h <;> omega
  unfold farP
  rw [farK, if_pos h1, if_pos h2]
theorem farP_skip {F : Nat → Int} {i : Nat} (hi : F i = 0) {k : Nat} (h : F k < 0 ∨ F k ≤ F (farP F i k)) : farP F i (k + 1) = farP F i k := by
  rw [farP_val hi] at h
  unfold farP
  rw [farK]
  by_cases h1 : (farK F k).2 < F k
  · rw [if_pos h1]
    have hg := far_ge (F := F) (k := k)
    have h2 : ¬ 0 < F k := by
      rcases h with h | h
      · omega
      · split at h <;> omega
    have h3 : ¬ 0 < (farK F k).2 := by omega
    rw [if_neg h2, if_neg h3]
  · rw [if_neg h1]
theorem farP_lt {F : Nat → Int} {i n k : Nat} (hi : i < n) (hk : k ≤ n) : farP F i k < n := by
  unfold farP
  split
  · rename_i h
    have := (far_at (F := F) (k := k) (by omega)).1
    omega
  · exact hi
theorem farP_end {F : Nat → Int} {i n : Nat} (hi : F i = 0) (hl : i < n) (h1 : ∀ c, F c = 0 → c = i) : farP F i n = (farK F n).1 ∧ F (farP F i n) = (farK F n).2 := by
  have hm := far_max (F := F) hl
  rw [hi] at hm
  rw [farP_val hi]
  have ha := far_at (F := F) (k := n) hm
  unfold farP
  split
  · exact ⟨rfl, rfl⟩
  · have e : (farK F n).2 = 0 := by omega
    rw [e] at ha
    exact ⟨(h1 _ ha.2).symm, e.symm⟩
theorem isD_zero {m : Mp} {w h : Nat} (g : GoodM m w h) {wt : Nat → Nat → Int} {s : Nat} (hs : Opn m (w * h) s) (hb : Wts m (w * h) wt) {D : Nat → Int} (hd : IsD m wt s D) {c : Nat} (hc : D c = 0) : c = s := by
  rcases hd c with ⟨e, _⟩ | ⟨_, l⟩
  · omega
  · rw [hc] at l
    rcases (l.1.pos g hs hb).2 with e | e
    · exact e
    · omega

/-- A cell, a number and whether there is one. -/
def FPost (w : World) (p t : Int) (ok : Bool) (e : Ending) (w' : World) : Prop := e = .returned (.tuple #[.int .i64 p, .int .i64 t, .bool ok]) ∧ Below w.heap.size w w'
theorem fret {n n' t t' : Int} {b b' : Bool} (h0 : n' = n) (h1 : t' = t) (h2 : b' = b) : Ending.returned (.tuple #[.int .i64 n, .int .i64 t, .bool b]) = .returned (.tuple #[.int .i64 n', .int .i64 t', .bool b']) := by rw [h0, h1, h2]

/-- What stands in the program's loops over times. -/
structure Fa (w : World) (box : Array Value) (gt : Nat) (tm : Nat → Int) (wr : World) : Prop where
  b : Below w.heap.size w wr
  box : Blk wr w.heap.size 26 box
  tms : Blk wr gt 111 (timeCs tm)
theorem Fa.later {w : World} {box : Array Value} {gt : Nat} {tm : Nat → Int} {wr w' : World} (h : Fa w box gt tm wr) (hb : Below wr.heap.size wr w') : Fa w box gt tm w' := ⟨h.b.trans (hb.mono h.b.size), h.box.later hb, h.tms.later hb⟩

end Go.Proofs.Ytdfmfmndmldggaa.FarI
