/- Arrays of 100 numbers in a block. -/
import Derived.Test.YtleoljnofdajfaaBk
import Derived.Deep.MidRow
namespace Go.Proofs.Ytleoljnofdajfaa.Ar100
open Go.RowKit Lb Bk
set_option linter.unusedSimpArgs false
set_option linter.unusedVariables false

def cs (c : Nat → Int) : Array Value := ((List.range 100).map fun i => Value.int .i64 (c i)).toArray
def upd (c : Nat → Int) (i : Nat) (v : Int) : Nat → Int := fun j => if j = i then v else c j
theorem cs_set (c : Nat → Int) (j : Nat) (v : Int) : (cs c).setIfInBounds j (.int .i64 v) = cs (upd c j v) := by
  unfold cs upd
  apply Array.ext
  · simp
  · intro i h1 h2
    simp only [Array.size_setIfInBounds, List.size_toArray, List.length_map, List.length_range] at h1
    by_cases e : j = i
    · subst e; simp [Array.getElem_setIfInBounds]
    · simp [Array.getElem_setIfInBounds, e, show ¬ i = j by omega]
theorem cs_congr {c d : Nat → Int} (h : ∀ j, j < 100 → c j = d j) : cs c = cs d := by
  unfold cs
  congr 1
  exact List.map_congr_left fun i hi => by rw [h i (by simpa using hi)]
theorem cell {w : World} {g : Nat} {t : TypeId} {c : Nat → Int} (h : Blk w g t (cs c)) {j : Nat} (hj : j < 100) : w.cell? ⟨g, j, none⟩ = some (.int .i64 (c j)) ∧ w.frozen? ⟨g, j, none⟩ = false := by
  unfold Blk at h
  constructor
  · simp [World.cell?, h, cs, hj]
  · simp [World.frozen?, h]
theorem put {w : World} {g : Nat} {t : TypeId} {c : Nat → Int} (h : Blk w g t (cs c)) (j : Nat) (v : Int) : Blk (w.setCell ⟨g, j, none⟩ (.int .i64 v)) g t (cs (upd c j v)) := by rw [← cs_set]; exact h.set_ j _
def ls (c : Nat → Int) : List Value := (List.range 100).map fun i => Value.int .i64 (c i)
theorem ls_len (c : Nat → Int) : (ls c).length = 100 := by simp [ls]
theorem range {w : World} {g : Nat} {t : TypeId} {c : Nat → Int} (h : Blk w g t (cs c)) : w.rangeAt g 0 (ls c) := by
  intro j v hv
  have hj : j < 100 := by
    have := (List.getElem?_eq_some_iff.1 hv).1
    rwa [ls_len] at this
  rw [Nat.zero_add, (cell h hj).1, ← hv]
  simp [ls, hj]
theorem info : (Try.prog.info? 58).map (·.size) = some 100 := by kernel_rfl
theorem load {w : World} {g : Nat} {t : TypeId} {c : Nat → Int} (h : Blk w g t (cs c)) : (Instr.loadAt 58 (.pointer (some ⟨g, 0, none⟩))).run Try.prog w = .ok (.agg (cs c)) w :=
  run_loadAt_mid w g 0 58 (ls c) _ (range h) Try.underlying58 rfl (by rw [ls_len]; exact info)
theorem index (c : Nat → Int) (j : Nat) (hj : j < 100) (W : World) : (Instr.index 58 (.agg (cs c)) (.int .i64 j)).run Try.prog W = .ok (.int .i64 (c j)) W := by
  have h1 : (j : Int) < 100 := by omega
  have h2 : (cs c)[j]? = some (.int .i64 (c j)) := by simp [cs, hj]
  simp [Instr.index, run_underlying Try.underlying58, asIntOf, go_sem, h1, hj, h2]
end Go.Proofs.Ytleoljnofdajfaa.Ar100
