/- The least times to a cell: what the model's search has in memory. -/
import Derived.Test.YtdfmfmndmldggaaBaN
import Derived.Deep.AppendLies
namespace Go.Proofs.Ytdfmfmndmldggaa.BfoB
open Go.RowKit Lb IntS MapS MapV High Cells StepT SpecB
set_option linter.unusedSimpArgs false
set_option linter.unusedVariables false

/-- The first 'n' values of a function. -/
def oL (n : Nat) (o : Nat → Int) : List Int := (List.range n).map o
theorem oL_len (n : Nat) (o : Nat → Int) : (oL n o).length = n := by simp [oL]
theorem oL_at {n j : Nat} (o : Nat → Int) (h : j < n) : zAt (oL n o) j = o j := by simp [zAt, oL, h]
theorem oL_set {n j : Nat} (o : Nat → Int) (z : Int) : (oL n o).set j z = oL n (upd o j z) := by
  apply List.ext_getElem
  · simp [oL]
  · intro i h1 h2
    simp only [oL, List.length_set, List.length_map, List.length_range] at h1
    by_cases e : j = i
    · subst e; simp [oL, upd]
    · simp [oL, upd, List.getElem_set, e, show ¬ i = j by omega]
theorem oL_succ (n : Nat) (o : Nat → Int) : oL (n + 1) o = oL n o ++ [o n] := by simp [oL, List.range_succ]
theorem oL_congr {n : Nat} {o q : Nat → Int} (h : ∀ i, i < n → o i = q i) : oL n o = oL n q := List.map_congr_left fun i hi => h i (by simpa using hi)

/-- What stands while a row of the call's own grows, or is written. -/
structure Rw (w : World) (box : Array Value) (v : Value) (zs : List Int) (wr : World) : Prop where
  b : Below w.heap.size w wr
  box : Blk wr w.heap.size 26 box
  own : OwnI wr w.heap.size v zs
theorem Rw.below {w : World} {box : Array Value} {zs : List Int} {v : Value} {wr w' : World} (h : Rw w box v zs wr) (hb : Below wr.heap.size wr w') : Rw w box v zs w' :=
  ⟨h.b.trans (hb.mono h.b.size), h.box.later hb, h.own.below hb⟩
theorem Rw.alloc {w : World} {box : Array Value} {zs : List Int} {v : Value} {wr : World} (h : Rw w box v zs wr) (o : Obj) : Rw w box v zs (wr.alloc o) := h.below ((Below.refl _ _).alloc (Nat.le_refl _) _)
theorem Rw.drew {w : World} {box : Array Value} {zs : List Int} {v : Value} {wr : World} (h : Rw w box v zs wr) : Rw w box v zs wr.drew := h.below (Below.refl _ _).drew
theorem Rw.grown {w : World} {box : Array Value} {zs zs' : List Int} {v v' : Value} {wr w' : World} (h : Rw w box v zs wr) (hg : wr.grownBy w' v.ownBlock) (ho : OwnI w' w.heap.size v' zs') : Rw w box v' zs' w' :=
  ⟨h.b.grown hg h.b.size (fun k e => (h.own.lt k e).1), blk_grown h.box hg (own_ne h.own h.box (by decide)), ho⟩
theorem own_put {w : World} {base : Nat} {v : Value} {zs : List Int} {y : Int} (h : w.ownsRow base 3 1 v (zs.length + 1) (zs.map (Value.int .i64) ++ [.int .i64 y])) : OwnI w base v (zs ++ [y]) := by
  unfold OwnI
  simpa using h
theorem own_cell {w : World} {base g n cap : Nat} {zs : List Int} (h : OwnI w base (.slice (some ⟨g, 0, none⟩) n cap) zs) {j : Nat} (hj : j < zs.length) : w.cell? ⟨g, j, none⟩ = some (.int .i64 (zAt zs j)) ∧ w.frozen? ⟨g, j, none⟩ = false := by
  unfold OwnI at h
  rcases h.2 with ⟨h1, h0⟩ | ⟨g', c', cur, hv, _⟩
  · cases h1
  · obtain ⟨-, rfl, -⟩ := Value.slice.inj hv
    refine ⟨?_, h.frozenAt j⟩
    rw [h.cellAt j (by omega)]
    simp [zAt, hj]
theorem own_at {w : World} {base : Nat} {v : Value} {zs : List Int} (h : OwnI w base v zs) (hp : 0 < zs.length) : ∃ g cap, v = .slice (some ⟨g, 0, none⟩) zs.length cap := by
  unfold OwnI at h
  rcases h.2 with ⟨_, h0⟩ | ⟨g, cap, cur, rfl, _⟩
  · omega
  · exact ⟨g, cap, rfl⟩
theorem own_set {w : World} {base g n cap : Nat} {zs : List Int} (h : OwnI w base (.slice (some ⟨g, 0, none⟩) n cap) zs) (j : Nat) (z : Int) : OwnI (w.setCell ⟨g, j, none⟩ (.int .i64 z)) base (.slice (some ⟨g, 0, none⟩) n cap) (zs.set j z) ∧ w.grownBy (w.setCell ⟨g, j, none⟩ (.int .i64 z)) (some g) := by
  unfold OwnI at h
  rcases h.2 with ⟨h1, h0⟩ | ⟨g', c', cur, hv, _⟩
  · cases h1
  · obtain ⟨-, rfl, -⟩ := Value.slice.inj hv
    have hst := h.stored j (.int .i64 z)
    refine ⟨?_, hst.2⟩
    have h1 := hst.1
    unfold OwnI
    rw [List.length_set, List.map_set]
    exact h1
theorem Rw.set_ {w : World} {box : Array Value} {n g cap : Nat} {o : Nat → Int} {wr : World} (h : Rw w box (.slice (some ⟨g, 0, none⟩) n cap) (oL n o) wr) (j : Nat) (z : Int) : Rw w box (.slice (some ⟨g, 0, none⟩) n cap) (oL n (upd o j z)) (wr.setCell ⟨g, j, none⟩ (.int .i64 z)) := by
  have hs := own_set h.own j z
  rw [oL_set] at hs
  exact h.grown (v' := .slice (some ⟨g, 0, none⟩) n cap) hs.2 hs.1
/-- A row that lies apart. -/
theorem Rw.apart {w : World} {box : Array Value} {n g cap : Nat} {o : Nat → Int} {wr : World} (h : Rw w box (.slice (some ⟨g, 0, none⟩) n cap) (oL n o) wr) (j : Nat) (z : Int) {base : Nat} {v : Value} {zs : List Int} (hv : OwnI wr base v zs) (hg : g < base) : OwnI (wr.setCell ⟨g, j, none⟩ (.int .i64 z)) base v zs :=
  own_grown hv (own_set h.own j z).2 fun x y hx hy => by
    have := (hv.lt x hx).1
    cases hy
    omega
theorem irow_of {w : World} {base cap : Nat} {a : Option Addr} {l : List Nat} (h : OwnI w base (.slice a l.length cap) (ints l)) : IRow w a (ints l) := by
  have e : l.length = (ints l).length := (ints_length l).symm
  rw [e] at h
  exact OwnI.row h
/-- What the walk reads while the row and the map's box stand. -/
theorem Rw.keep {w : World} {x0 x1 x2 x3 : Value} {n g cap y : Nat} {o : Nat → Int} {wr : World} (h : Rw w #[x0, x1, x2, x3] (.slice (some ⟨g, 0, none⟩) n cap) (oL n o) wr) (hy : y < n) :
    wr.cell? ⟨g, y, none⟩ = some (.int .i64 (o y)) ∧ wr.cell? ⟨w.heap.size, 0, none⟩ = some x0 ∧ wr.cell? ⟨w.heap.size, 1, none⟩ = some x1 ∧ wr.cell? ⟨w.heap.size, 2, none⟩ = some x2 ∧ wr.cell? ⟨w.heap.size, 3, none⟩ = some x3 := by
  obtain ⟨p0, p1, p2, p3, -⟩ := h.box.four
  have := (own_cell h.own (j := y) (by rw [oL_len]; exact hy)).1
  rw [oL_at _ hy] at this
  exact ⟨this, p0, p1, p2, p3⟩
end Go.Proofs.Ytdfmfmndmldggaa.BfoB
