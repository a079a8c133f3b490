/- slices.SortFunc at a list of Control of the call's own. -/
import Derived.Test.YtdfmfmndmldggaaBaC
import Derived.Test.YtdfmfmndmldggaaShelfS
import Derived.Shelf.SlSortCmp.WholeK
import Derived.Shelf.SlSortCmp.NoneTotal
namespace Go.Proofs.Ytdfmfmndmldggaa.CtZ
open Go.RowKit Lb Bk CtK Go.Sort
set_option linter.unusedSimpArgs false
set_option linter.unusedVariables false

instance : Inhabited Ct := ⟨no⟩
def enc (x : Ct) : List Value := cells [x]
theorem enc_len (x : Ct) : (enc x).length = 2 := by unfold enc; rw [cells_len]; rfl
theorem enc_one (x : Ct) : ∀ v ∈ enc x, v.oneCell' = true := cells_one [x]
theorem get_at (fs : List Ct) (i : Nat) : fs.toArray[i]! = at_ fs i := by
  unfold at_
  rw [List.getD_eq_getElem?_getD]
  simp only [List.getElem!_toArray, List.getElem!_eq_getElem?_getD]
  rfl
theorem enc_at (x : Ct) {j : Nat} (hj : j < 2) : (enc x)[j]? = some (cV x j) := by
  have := cells_at [x] 0 (by simp) j hj
  rw [Nat.zero_mul, Nat.zero_add] at this
  exact this
theorem flat (fs : List Ct) : (flatK enc 2 fs.toArray).toList = cells fs := by
  apply List.ext_getElem?
  intro t
  by_cases ht : t < fs.length * 2
  · have h1 := cells_at fs (t / 2) (by omega) (t % 2) (by omega)
    rw [show t / 2 * 2 + t % 2 = t by omega] at h1
    rw [h1, Array.getElem?_toList]
    unfold flatK
    rw [Array.getElem?_map, Array.getElem?_range, if_pos (by simpa using ht)]
    show some ((enc fs.toArray[t / 2]!)[t % 2]!) = _
    rw [get_at, List.getElem!_eq_getElem?_getD, enc_at _ (by omega)]
    rfl
  · rw [List.getElem?_eq_none (by simp; omega), List.getElem?_eq_none (by rw [cells_len]; omega)]
theorem holds_of {w : World} {base g n cap : Nat} {fs : List Ct} (h : Own w base (.slice (some ⟨g, 0, none⟩) n cap) fs) (hn : fs.length = n) : HoldsK enc 2 w g 0 fs.toArray := by
  intro j hj
  rw [size_flatK] at hj
  have hj' : j < n * 2 := by simpa [hn] using hj
  unfold Own at h
  rw [hn] at h
  refine ⟨?_, by rw [Nat.zero_add]; exact h.frozenAt j⟩
  rw [Nat.zero_add, h.cellAt j hj', ← flat fs]
  rw [Array.getElem?_toList, getElem!_pos _ j (by rw [size_flatK]; exact hj), Array.getElem?_eq_getElem (by rw [size_flatK]; exact hj)]
  rfl
theorem heap_s {w : World} {g m : Nat} {os : Array Obj} {cur : Array Value} {e : TypeId} {fr : Nat × Nat} (F : Array Value) (hb : w.heap[g]? = some (.cells cur e fr)) :
    (grow (putRow id (Sort.ahead w m) g 0 F) os).heap[g]? = some (.cells (putCells id 0 F cur) e fr) := by
  have hg : g < w.heap.size := (Array.getElem?_eq_some_iff.1 hb).1
  rw [heap_grow_old _ _ (by simpa using hg)]
  simp [putRow, mapBlock, Sort.ahead, Array.getElem?_modify, hb, onCells]
theorem grown_s {w : World} {g m : Nat} {os : Array Obj} (F : Array Value) : w.grownBy (grow (putRow id (Sort.ahead w m) g 0 F) os) (some g) := by
  refine ⟨rfl, rfl, rfl, by simp, fun k hk hne => ?_⟩
  rw [heap_grow_old _ _ (by simpa using hk)]
  have : g ≠ k := fun e => hne (by rw [e])
  simp [putRow, mapBlock, Sort.ahead, Array.getElem?_modify, this]
theorem take_s (cur : Array Value) (F : Array Value) (n : Nat) (hn : F.size = n) (h : n ≤ cur.size) : (putCells id 0 F cur).toList.take n = F.toList := by
  apply List.ext_getElem?
  intro j
  by_cases hj : j < n
  · rw [List.getElem?_take_of_lt hj, Array.getElem?_toList, Array.getElem?_toList]
    simp [putCells, hn, hj, show j < cur.size by omega]
  · rw [List.getElem?_take_eq_none (by omega), List.getElem?_eq_none (by simp; omega)]
theorem own_s {w : World} {base g n cap m : Nat} {fs gs : List Ct} {os : Array Obj} (h : Own w base (.slice (some ⟨g, 0, none⟩) n cap) fs) (hn : fs.length = n) (hg : gs.length = n) :
    Own (sortWorldK enc 2 w g 0 m gs.toArray os) base (.slice (some ⟨g, 0, none⟩) n cap) gs := by
  unfold Own at h ⊢
  rw [hn] at h
  rw [hg]
  refine ⟨by rw [cells_len, hg], ?_⟩
  rcases h.2 with ⟨h1, _⟩ | ⟨g', cap', cur, hv, hb, hh, h1, h2, h3, h4⟩
  · cases h1
  · cases hv
    refine .inr ⟨g, cap, _, rfl, hb, heap_s (flatK enc 2 gs.toArray) hh, h1, h2, by simp [putCells, h3], ?_⟩
    rw [take_s cur _ (n * 2) (by rw [size_flatK]; simp [hg]) (by rw [h3]; exact Nat.mul_le_mul_right _ h1)]
    exact flat gs
theorem pos_block {w : World} {base n cap : Nat} {a : Option Addr} {fs : List Ct} (h : Own w base (.slice a n cap) fs) (hn : fs.length = n) (h0 : 0 < n) : ∃ g, a = some ⟨g, 0, none⟩ ∧ g < w.heap.size := by
  unfold Own at h
  rcases h.2 with ⟨h1, h2⟩ | ⟨g, cap', cur, hv, hb, hh, _⟩
  · omega
  · cases hv
    exact ⟨g, rfl, (Array.getElem?_eq_some_iff.1 hh).1⟩

/-- The sort: another order of the same ones, no smaller one behind a greater one; only the row's block is turned. -/
def SortPost (w : World) (base : Nat) (v : Value) (lt : Ct → Ct → Bool) (fs : List Ct) (e : Ending) (w' : World) : Prop := e = .returned (.tuple #[]) ∧ ∃ gs : List Ct, gs.length = fs.length ∧ (∀ x, x ∈ gs ↔ x ∈ fs) ∧ (∀ i j, i < j → j < gs.length → lt (at_ gs j) (at_ gs i) = false) ∧ Own w' base v gs ∧ w.grownBy w' v.ownBlock
theorem sort_any (g : Nat) (cf : Ct → Ct → Int) (hO : SWO (ltOf cf)) (eg : ∀ args w, (callFunc g args).run Try.prog w = .ok (.enter g args) w)
    (hcmp : ∀ x y W, Calls Try.prog g #[.agg #[.int .i64 x.co, .int .i64 x.ce], .agg #[.int .i64 y.co, .int .i64 y.ce]] W fun e w' => e = .returned (.int .i64 (cf x y)) ∧ ∃ q os', w' = grow (W.drewN q) os')
    (base : Nat) (v : Value) (fs : List Ct) (w : World) (h : Own w base v fs) (hl : fs.length ≤ 1048576) :
    Calls Try.prog 75 #[v, .func (.func g) #[] #[]] w (SortPost w base v (ltOf cf) fs) := by
  obtain ⟨a, cap, rfl, -, -⟩ := h.slice
  rcases Nat.eq_zero_or_pos fs.length with h0 | h0
  · have C := AnyF.slices_SortFunc_none Try.sortCt a cap (.func (.func g) #[] #[]) w
    rw [h0]
    refine C.mono ?_
    rintro e w' ⟨rfl, rfl⟩
    have h' := h
    rw [h0] at h'
    exact ⟨rfl, fs, rfl, fun x => Iff.rfl, fun i j hij hj => by omega, h', World.grownBy.refl _ _⟩
  · obtain ⟨b, rfl, hb⟩ := pos_block h rfl h0
    have C := AnyQ.slices_SortFunc Try.sortCt 2 Try.isAgg70 Try.sizeOf70 enc enc_len enc_one cf hO g #[] b 0 cap fs.toArray w eg
      (fun m os dk _ x y => by
        have := hcmp x y (sortWorldK enc 2 w b 0 m dk os)
        exact this) (holds_of h rfl) hb (by simp; omega)
    rw [show fs.toArray.size = fs.length from by simp] at C
    refine C.mono ?_
    rintro e w' ⟨rfl, d', m, os, hp, hs, rfl⟩
    have e1 : d'.size = fs.length := by have := hp.1; simpa using this
    have hperm : d'.toList.Perm fs := by
      have := hp.2.2
      rw [show d'.extract 0 fs.length = d' from by rw [← e1]; simp, show fs.toArray.extract 0 fs.length = fs.toArray from by simp] at this
      exact this
    refine ⟨rfl, d'.toList, by simpa using e1, fun x => hperm.mem_iff, fun i j hij hj => ?_, ?_, ?_⟩
    · have := hs i j (Nat.zero_le _) hij (by simpa using (by simpa [e1] using hj : j < fs.length))
      rw [← get_at, ← get_at, Array.toArray_toList]
      exact this
    · have := own_s (m := m) (os := os) h rfl (gs := d'.toList) (by simpa using e1)
      rwa [Array.toArray_toList] at this
    · exact grown_s (flatK enc 2 d')
end Go.Proofs.Ytdfmfmndmldggaa.CtZ
