/- Rows that are copied, and turned round in part. -/
import Derived.Test.YtdphliobjafjaaaTurnI
import Derived.Test.YtdphliobjafjaaaShelf
import Derived.Laws.CopyOwn
namespace Go.Proofs.Ytdphliobjafjaaa.MirB
open Go.RowKit Lb IntS MapS MapV SpecB Emp TurnI
set_option linter.unusedSimpArgs false
set_option linter.unusedVariables false

/-- A part of a list, turned round. -/
def revSeg (zs : List Int) (o k : Nat) : List Int := (List.range zs.length).map fun j => if o ≤ j ∧ j < o + k then zAt zs (o + (k - 1 - (j - o))) else zAt zs j
theorem revSeg_length (zs : List Int) (o k : Nat) : (revSeg zs o k).length = zs.length := by simp [revSeg]

open Go.Lib Go.Sort in
theorem seg_holds {w : World} {g : Nat} {zs : List Int} (h : RowB w g zs) (o k : Nat) (hk : o + k ≤ zs.length) : Holds (Value.int .i64) w g o ((zs.drop o).take k).toArray := by
  intro j hj
  have hj' : j < k := by simp at hj; omega
  obtain ⟨h1, h2⟩ := h.cell (o + j) (by omega)
  refine ⟨?_, h2⟩
  rw [h1]
  have hlt : j < ((zs.drop o).take k).length := by simp; omega
  rw [getElem!_pos _ j (by simpa using hj)]
  simp [zAt, List.getElem_take, List.getElem_drop, show o + j < zs.length by omega]

open Go.Lib Go.Sort in
theorem rev_row {w : World} {g : Nat} {zs : List Int} (h : RowB w g zs) (o k n : Nat) (hk : o + k ≤ zs.length) :
    RowB (putRow (Value.int .i64) (Sort.ahead w n) g o ((zs.drop o).take k).reverse.toArray) g (revSeg zs o k) ∧ w.grownBy (putRow (Value.int .i64) (Sort.ahead w n) g o ((zs.drop o).take k).reverse.toArray) (some g) := by
  constructor
  · have hb := h
    unfold RowB Blk at hb ⊢
    have e : (putRow (Value.int .i64) (Sort.ahead w n) g o ((zs.drop o).take k).reverse.toArray).heap[g]? = some (.cells (putCells (Value.int .i64) o ((zs.drop o).take k).reverse.toArray (zs.map (Value.int .i64)).toArray) 3 (0, 0)) := by
      simp [putRow, mapBlock, Sort.ahead, Array.getElem?_modify, hb, onCells]
    rw [e]
    congr 2
    apply Array.ext
    · simp [putCells, revSeg]
    · intro i h1 h2
      have hi : i < zs.length := by simpa [putCells] using h1
      have hl : ((zs.drop o).take k).reverse.length = k := by simp; omega
      simp only [putCells, Array.getElem_mapIdx, List.size_toArray, hl, List.getElem_toArray, List.getElem_map, revSeg, List.getElem_range]
      by_cases hin : o ≤ i ∧ i < o + k
      · rw [if_pos hin, if_pos hin, getElem!_pos _ (i - o) (by simp; omega)]
        simp only [List.getElem_toArray, List.getElem_reverse, List.getElem_take, List.getElem_drop]
        congr 1
        have hlen : ((zs.drop o).take k).length = k := by simp; omega
        simp only [hlen, zAt]
        rw [List.getD_eq_getElem?_getD, List.getElem?_eq_getElem (by omega)]
        rfl
      · rw [if_neg hin, if_neg hin]
        simp [zAt, hi]
  · refine ⟨rfl, rfl, rfl, by simp, fun q hq hne => ?_⟩
    have : g ≠ q := fun e => hne (by rw [e])
    simp [putRow, mapBlock, Sort.ahead, Array.getElem?_modify, this]

theorem rows_step (w h r : Nat) (hw : 1 ≤ w) (hr : r < h) (l : List Int) : revSeg (rows w (w * h) l r) (r * w) w = rows w (w * h) l (r + 1) := by
  have hrw : r * w + w ≤ w * h := by
    have := Nat.mul_le_mul_right w (show r + 1 ≤ h from hr)
    rw [Nat.add_mul, Nat.one_mul] at this
    rwa [Nat.mul_comm w h]
  apply List.ext_getElem
  · rw [revSeg_length, rows_length, rows_length]
  · intro j h1 h2
    have hj : j < w * h := by rw [rows_length] at h2; exact h2
    have at_ : ∀ q, q < w * h → zAt (rows w (w * h) l r) q = if q / w < r then zAt l (fromM w q) else zAt l q := fun q hq => by simp [zAt, rows, hq]
    simp only [revSeg, List.getElem_map, List.getElem_range]
    have e2 : (rows w (w * h) l (r + 1))[j] = if j / w < r + 1 then zAt l (fromM w j) else zAt l j := by simp [rows]
    rw [e2]
    have hdm := cell_split w j
    by_cases hin : r * w ≤ j ∧ j < r * w + w
    · have hjr : j / w = r := by
        have := div_mk (w := w) (x := j - r * w) (y := r) (by omega)
        rwa [show r * w + (j - r * w) = j by omega] at this
      have hjm : j % w = j - r * w := by
        have := mod_mk (w := w) (x := j - r * w) (y := r) (by omega)
        rwa [show r * w + (j - r * w) = j by omega] at this
      rw [if_pos hin, if_pos (by omega), at_ _ (by omega)]
      have hq : (r * w + (w - 1 - (j - r * w))) / w = r := div_mk (by omega)
      rw [hq, if_neg (by omega)]
      congr 1
      unfold fromM
      rw [hjr, hjm]
    · rw [if_neg hin, at_ j hj]
      by_cases hlt : j / w < r
      · rw [if_pos hlt, if_pos (by omega)]
      · have hne : j / w ≠ r := fun e => hin (by
          have hm : j % w < w := Nat.mod_lt _ hw
          rw [e, Nat.mul_comm] at hdm
          omega)
        rw [if_neg hlt, if_neg (by omega)]

theorem Wrt.grownR {w : World} {g1 g2 g4 : Nat} {p q : Int} {n : Nat} {L1 L2 L : List Int} {box : Array Value} {wr w' : World} (h : Wrt w g1 g2 g4 p q n L1 L2 box wr) (hr : RowB w' g1 L) (hg : wr.grownBy w' (some g1)) : Wrt w g1 g2 g4 p q n L L2 box w' := by
  have := h.h1
  have ne : ∀ {k : Nat}, k ≠ g1 → some g1 ≠ some k := fun hk e => hk (by injection e with e; exact e.symm)
  exact ⟨hr, blk_grown h.c hg (ne (fun e => h.n1 e.symm)), blk_grown h.out hg (ne (fun e => h.n2 e.symm)), blk_grown h.box hg (ne (by omega)), blk_grown h.res hg (ne (by omega)), h.b.grown hg h.b.size (fun k e => by injection e with e; omega), h.h1, h.h2, h.h4, h.n1, h.n2, h.n3⟩
theorem Wrt.grownC {w : World} {g1 g2 g4 : Nat} {p q : Int} {n : Nat} {L1 L2 L : List Int} {box : Array Value} {wr w' : World} (h : Wrt w g1 g2 g4 p q n L1 L2 box wr) (hr : RowB w' g2 L) (hg : wr.grownBy w' (some g2)) : Wrt w g1 g2 g4 p q n L1 L box w' := by
  have := h.h2
  have ne : ∀ {k : Nat}, k ≠ g2 → some g2 ≠ some k := fun hk e => hk (by injection e with e; exact e.symm)
  exact ⟨blk_grown h.r hg (ne h.n1), hr, blk_grown h.out hg (ne (fun e => h.n3 e.symm)), blk_grown h.box hg (ne (by omega)), blk_grown h.res hg (ne (by omega)), h.b.grown hg h.b.size (fun k e => by injection e with e; omega), h.h1, h.h2, h.h4, h.n1, h.n2, h.n3⟩

/-- A row that a copy has filled. -/
theorem copied {w : World} {g : Nat} {L zs : List Int} (h : RowB w g L) (hl : zs.length = L.length) :
    RowB (w.setRow g ((((L.map (Value.int .i64)).toArray).toList.take 0 ++ ((zs.map (Value.int .i64)) ++ ((L.map (Value.int .i64)).toArray).toList.drop (0 + (zs.map (Value.int .i64)).length))).toArray)) g zs ∧ w.grownBy (w.setRow g ((((L.map (Value.int .i64)).toArray).toList.take 0 ++ ((zs.map (Value.int .i64)) ++ ((L.map (Value.int .i64)).toArray).toList.drop (0 + (zs.map (Value.int .i64)).length))).toArray)) (some g) := by
  constructor
  · have e := setRow_heap w g _ ((((L.map (Value.int .i64)).toArray).toList.take 0 ++ ((zs.map (Value.int .i64)) ++ ((L.map (Value.int .i64)).toArray).toList.drop (0 + (zs.map (Value.int .i64)).length))).toArray) _ _ h
    unfold RowB Blk
    rw [e]
    congr 2
    simp [hl]
  · exact ⟨rfl, rfl, rfl, by simp [World.setRow], fun k hk hne => setRow_other w g k _ (fun e => hne (by rw [e]))⟩

theorem src_cells {w : World} {b off : Nat} {zs : List Int} (hc : ∀ k, k < zs.length → w.cell? ⟨b, off + k, none⟩ = some (.int .i64 (zAt zs k))) : ∀ j v, (zs.map (Value.int .i64))[j]? = some v → w.cell? ((⟨b, off, none⟩ : Addr).add j) = some v := by
  intro j v hv
  have hj : j < zs.length := by
    have := (List.getElem?_eq_some_iff.1 hv).1
    simpa using this
  rw [add_of_spot (a := ⟨b, off, none⟩) rfl j]
  show w.cell? ⟨b, off + j, none⟩ = _
  rw [hc j hj, ← hv]
  simp [zAt, hj]

end Go.Proofs.Ytdphliobjafjaaa.MirB
