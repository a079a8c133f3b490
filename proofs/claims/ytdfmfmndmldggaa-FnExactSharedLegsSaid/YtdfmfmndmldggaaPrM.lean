/- IntA2: what it is in memory; lists of them. -/
import Derived.Test.YtdfmfmndmldggaaBaA
import Derived.Deep.MidRow
namespace Go.Proofs.Ytdfmfmndmldggaa.Lb
/-- A IntA2. -/
structure Pr where
  a : Int
  b : Int
end Go.Proofs.Ytdfmfmndmldggaa.Lb
namespace Go.Proofs.Ytdfmfmndmldggaa.PrK
open Go.RowKit Lb Bk
set_option linter.unusedSimpArgs false
set_option linter.unusedVariables false

def no : Pr := ⟨0, 0⟩
def at_ (rs : List Pr) (i : Nat) : Pr := rs.getD i no
theorem at_lt {rs : List Pr} {i : Nat} (h : i < rs.length) : at_ rs i = rs[i] := by simp [at_, h]
def cV (r : Pr) : Nat → Value
  | 0 => .int .i64 r.a
  | _ => .int .i64 r.b

/-- A list that can be read. -/
def Row (w : World) (a : Option Addr) (rs : List Pr) : Prop := rs.length = 0 ∨ ∃ b off, a = some ⟨b, off, none⟩ ∧ ∀ i, i < rs.length → ∀ j, j < 2 → w.cell? ⟨b, off + i * 2 + j, none⟩ = some (cV (at_ rs i) j)
theorem Row.later {w w' : World} {a : Option Addr} {rs : List Pr} (H : Row w a rs) (hb : Below w.heap.size w w') : Row w' a rs := by
  rcases H with H | ⟨b, off, ha, hc⟩
  · exact .inl H
  · exact .inr ⟨b, off, ha, fun i hi j hj => (hb.cell (World.block_lt_of_cell? w _ (hc i hi j hj))).trans (hc i hi j hj)⟩
theorem Row.drew {w : World} {a : Option Addr} {rs : List Pr} (H : Row w a rs) : Row w.drew a rs := H
theorem Row.beside {w w' : World} {a : Option Addr} {rs : List Pr} (H : Row w a rs) {r : Option Nat} (hg : w.grownBy w' r) (hr : ∀ x, a = some x → r ≠ some x.block) : Row w' a rs := by
  rcases H with H | ⟨b, off, ha, hc⟩
  · exact .inl H
  · exact .inr ⟨b, off, ha, fun i hi j hj => hg.cell (hc i hi j hj) (fun e => hr _ ha (by simpa using e.symm))⟩
theorem Row.cells {w : World} {a : Option Addr} {rs : List Pr} (H : Row w a rs) {i : Nat} (hi : i < rs.length) : ∃ b off, a = some ⟨b, off, none⟩ ∧ w.cell? ⟨b, off + i * 2, none⟩ = some (.int .i64 (at_ rs i).a) ∧ w.cell? ⟨b, off + i * 2 + 1, none⟩ = some (.int .i64 (at_ rs i).b) := by
  rcases H with H | ⟨b, off, ha, hc⟩
  · omega
  · exact ⟨b, off, ha, hc i hi 0 (by omega), hc i hi 1 (by omega)⟩

/-- The cells of a list. -/
def cells : List Pr → List Value
  | [] => []
  | f :: r => .int .i64 f.a :: .int .i64 f.b :: cells r
theorem cells_app (f : Pr) : ∀ fs, cells (fs ++ [f]) = cells fs ++ [.int .i64 f.a, .int .i64 f.b]
  | [] => rfl
  | g :: r => by rw [List.cons_append, cells, cells_app f r, cells]; rfl
theorem cells_cat (gs : List Pr) : ∀ fs, cells (fs ++ gs) = cells fs ++ cells gs
  | [] => rfl
  | g :: r => by rw [List.cons_append, cells, cells_cat gs r, cells]; rfl
theorem cells_len : ∀ fs, (cells fs).length = fs.length * 2
  | [] => by simp [cells]
  | g :: r => by simp only [cells, List.length_cons, cells_len r]; omega
theorem cells_at : ∀ (fs : List Pr) (i : Nat), i < fs.length → ∀ j, j < 2 → (cells fs)[i * 2 + j]? = some (cV (at_ fs i) j)
  | [], i, h, _, _ => absurd h (Nat.not_lt_zero _)
  | f :: r, 0, _, j, hj => by
    rw [Nat.zero_mul, Nat.zero_add]
    obtain rfl | rfl : j = 0 ∨ j = 1 := by omega
    all_goals rfl
  | f :: r, i + 1, h, j, hj => by
    rw [show (i + 1) * 2 + j = (i * 2 + j) + 2 by omega]
    have := cells_at r i (by simpa using h) j hj
    simpa [cells, at_] using this
theorem cells_take : ∀ (fs : List Pr) (k : Nat), (cells fs).take (k * 2) = cells (fs.take k)
  | [], k => by simp [cells]
  | f :: r, 0 => by simp [cells]
  | f :: r, k + 1 => by
    rw [show (k + 1) * 2 = k * 2 + 2 by omega, List.take_succ_cons, cells, cells, ← cells_take r k]
    simp only [List.take_succ_cons]
theorem cells_drop : ∀ (fs : List Pr) (k : Nat), (cells fs).drop (k * 2) = cells (fs.drop k)
  | [], k => by simp [cells]
  | f :: r, 0 => by simp [cells]
  | f :: r, k + 1 => by
    rw [show (k + 1) * 2 = k * 2 + 2 by omega, List.drop_succ_cons, cells, ← cells_drop r k]
    simp only [List.drop_succ_cons]
theorem cells_set (x : Pr) : ∀ (fs : List Pr) (k : Nat), k < fs.length → cells (fs.set k x) = (((cells fs).set (k * 2) (.int .i64 x.a)).set (k * 2 + 1) (.int .i64 x.b))
  | [], k, h => absurd h (Nat.not_lt_zero _)
  | f :: r, 0, _ => by simp [cells]
  | f :: r, k + 1, h => by
    rw [List.set_cons_succ, cells, cells_set x r k (by simpa using h), cells]
    rw [show (k + 1) * 2 + 1 = k * 2 + 1 + 2 by omega]
    rw [show (k + 1) * 2 = k * 2 + 2 by omega]
    simp only [List.set_cons_succ]

/-- A row of its own. -/
def Own (w : World) (base : Nat) (v : Value) (rs : List Pr) : Prop := w.ownsRow base 88 2 v rs.length (cells rs)
theorem Own.slice {w : World} {base : Nat} {v : Value} {rs : List Pr} (h : Own w base v rs) :
    ∃ a cap, v = .slice a rs.length cap ∧ Row w a rs ∧ ∀ x, a = some x → base ≤ x.block ∧ x.block < w.heap.size := by
  have h' := h
  unfold Own at h
  rcases h.2 with ⟨rfl, h0⟩ | ⟨g, cap, cur, rfl, hb, _⟩
  · exact ⟨none, 0, by rw [h0], .inl h0, fun x e => by cases e⟩
  · refine ⟨some ⟨g, 0, none⟩, cap, rfl, .inr ⟨g, 0, rfl, fun i hi j hj => ?_⟩, fun x e => ?_⟩
    · rw [Nat.zero_add]
      exact (h.cellAt _ (by omega)).trans (cells_at rs i hi j hj)
    · cases e; exact h.lt g rfl
theorem Own.row {w : World} {base cap : Nat} {a : Option Addr} {rs : List Pr} (h : Own w base (.slice a rs.length cap) rs) : Row w a rs := by
  obtain ⟨a', c', e, hr, _⟩ := h.slice
  cases e; exact hr
theorem Own.le {w : World} {base n cap : Nat} {a : Option Addr} {rs : List Pr} (h : Own w base (.slice a n cap) rs) : rs.length ≤ cap := by
  rcases h.2 with ⟨h1, h0⟩ | ⟨g', c', cur, hv, _, _, h3, _⟩
  · omega
  · obtain ⟨-, -, rfl⟩ := Value.slice.inj hv
    omega
theorem take_at (rs : List Pr) {k i : Nat} (h : i < k) : at_ (rs.take k) i = at_ rs i := by
  unfold at_
  rw [List.getD_eq_getElem?_getD, List.getD_eq_getElem?_getD, List.getElem?_take_of_lt h]
theorem Row.take {w : World} {a : Option Addr} {rs : List Pr} (H : Row w a rs) (k : Nat) : Row w a (rs.take k) := by
  rcases H with H | ⟨b, off, ha, hc⟩
  · exact .inl (by rw [List.length_take]; omega)
  · refine .inr ⟨b, off, ha, fun i hi j hj => ?_⟩
    rw [List.length_take] at hi
    rw [take_at rs (by omega)]
    exact hc i (by omega) j hj
/-- The first element that a test holds of. -/
theorem find_at {p : Pr → Bool} {rs : List Pr} {k : Nat} (hk : k < rs.length) (h : ∀ j, j < k → p (at_ rs j) = false) (h1 : p (at_ rs k) = true) : rs.find? p = some (at_ rs k) := by
  rw [List.find?_eq_some_iff_getElem]
  exact ⟨h1, k, hk, (at_lt hk).symm, fun j hj => by have := h j hj; rw [at_lt (by omega)] at this; simp [this]⟩
theorem find_no {p : Pr → Bool} {rs : List Pr} (h : ∀ j, j < rs.length → p (at_ rs j) = false) : rs.find? p = none := by
  rw [List.find?_eq_none]
  intro x hx
  obtain ⟨j, hj, rfl⟩ := List.mem_iff_getElem.1 hx
  have := h j hj
  rw [at_lt hj] at this
  simp [this]
theorem Own.at_lt {w : World} {base cap n : Nat} {a : Option Addr} {rs : List Pr} (h : Own w base (.slice a n cap) rs) : ∀ x, a = some x → base ≤ x.block ∧ x.block < w.heap.size := by
  obtain ⟨a', c', e, _, hx⟩ := h.slice
  cases e; exact hx
theorem Own.below {w w' : World} {base : Nat} {v : Value} {rs : List Pr} (h : Own w base v rs) (hb : Below w.heap.size w w') : Own w' base v rs := owns_below h hb
theorem Own.drew {w : World} {base : Nat} {v : Value} {rs : List Pr} (h : Own w base v rs) : Own w.drew base v rs := h.below (Below.refl _ _).drew
theorem Own.rebase {w : World} {b b' : Nat} {v : Value} {rs : List Pr} (h : Own w b v rs) (hb : b' ≤ b) : Own w b' v rs := by
  refine ⟨h.1, ?_⟩
  rcases h.2 with h2 | ⟨g, cap, cur, hv, hg, r⟩
  · exact .inl h2
  · exact .inr ⟨g, cap, cur, hv, Nat.le_trans hb hg, r⟩
theorem Own.put {w : World} {base g n cap : Nat} {rs : List Pr} (h : Own w base (.slice (some ⟨g, 0, none⟩) n cap) rs) (hn : rs.length = n) {k : Nat} (hk : k < rs.length) (x : Pr) :
    Own (((w.setCell ⟨g, k * 2, none⟩ (.int .i64 x.a)).setCell ⟨g, k * 2 + 1, none⟩ (.int .i64 x.b))) base (.slice (some ⟨g, 0, none⟩) n cap) (rs.set k x) := by
  unfold Own at h ⊢
  rw [cells_set x rs k hk, List.length_set, hn]
  rw [hn] at h
  exact (World.ownsRow.stored (World.ownsRow.stored h (k * 2) (.int .i64 x.a)).1 (k * 2 + 1) (.int .i64 x.b)).1
/-- What stands at an index, whatever is written beside it. -/
theorem raw_at {w : World} {base g n cap : Nat} {L : List Value} (h : w.ownsRow base 88 2 (.slice (some ⟨g, 0, none⟩) n cap) n L) {k : Nat} (hk : k < n * 2) : ∃ u, w.cell? ⟨g, k, none⟩ = some u ∧ w.frozen? ⟨g, k, none⟩ = false := by
  have hl : L.length = n * 2 := h.1
  exact ⟨L[k], (h.cellAt k (by omega)).trans (List.getElem?_eq_getElem (by omega)), h.frozenAt k⟩
theorem info : (Try.prog.info? 88).map (fun i => (i.zero, i.size, i.bytes)) = some (some (.agg #[.int .i64 no.a, .int .i64 no.b]), 2, 16) := by kernel_rfl
theorem made (w : World) (n : Nat) (hn : n ≤ maxLen) : Own (w.alloc (.cells (madeCells #[.int .i64 no.a, .int .i64 no.b] (n * 2)) 88)) w.heap.size (.slice (some ⟨w.heap.size, 0, none⟩) n n) (List.replicate n no) := by
  unfold Own
  rw [List.length_replicate]
  have he : (madeCells #[.int .i64 no.a, .int .i64 no.b] (n * 2)).toList = cells (List.replicate n no) := by
    apply List.ext_getElem?
    intro i
    by_cases hi : i < n * 2
    · rw [show i = i / 2 * 2 + i % 2 by omega, cells_at _ _ (by simp; omega) _ (by omega)]
      have : at_ (List.replicate n no) (i / 2) = no := by rw [at_lt (by simp; omega)]; simp
      rw [this, show i / 2 * 2 + i % 2 = i by omega]
      unfold madeCells
      simp only [Array.toList_map, List.getElem?_map, Array.toList_range, List.getElem?_range hi, Option.map_some]
      obtain ⟨j, hj⟩ : ∃ j, i % 2 = j := ⟨_, rfl⟩
      have hjl : j < 2 := by omega
      show some ((#[.int .i64 no.a, .int .i64 no.b] : Array Value)[i % 2]!) = _
      rw [hj]
      obtain rfl | rfl : j = 0 ∨ j = 1 := by omega
      all_goals rfl
    · rw [List.getElem?_eq_none (by simp [madeCells]; omega), List.getElem?_eq_none (by rw [cells_len]; simp; omega)]
  rw [← he]
  exact ⟨by simp [madeCells], .inr ⟨w.heap.size, n, _, rfl, Nat.le_refl _, heap_alloc_new w _, Nat.le_refl _, hn, by simp [madeCells], by rw [List.take_of_length_le (by simp [madeCells])]⟩⟩

/-- A block of one: its cells; another one written over it. -/
theorem blk_cells {w : World} {g : Nat} {t : TypeId} {x : Pr} (h : Blk w g t #[.int .i64 x.a, .int .i64 x.b]) : (w.cell? ⟨g, 0, none⟩ = some (.int .i64 x.a) ∧ w.cell? ⟨g, 1, none⟩ = some (.int .i64 x.b)) ∧ (w.frozen? ⟨g, 0, none⟩ = false ∧ w.frozen? ⟨g, 1, none⟩ = false) :=
  ⟨⟨h.cell 0 rfl, h.cell 1 rfl⟩, h.frozen 0, h.frozen 1⟩
theorem blk_all {w : World} {g : Nat} {t : TypeId} {x : Pr} (h : Blk w g t #[.int .i64 x.a, .int .i64 x.b]) (y : Pr) : Blk ((w.setCell ⟨g, 0, none⟩ (.int .i64 y.a)).setCell ⟨g, 1, none⟩ (.int .i64 y.b)) g t #[.int .i64 y.a, .int .i64 y.b] ∧ ∀ B, B ≤ g → Below B w ((w.setCell ⟨g, 0, none⟩ (.int .i64 y.a)).setCell ⟨g, 1, none⟩ (.int .i64 y.b)) := by
  refine ⟨?_, fun B hB => ?_⟩
  · have := (Blk.set_ (Blk.set_ h 0 (.int .i64 y.a)) 1 (.int .i64 y.b))
    simpa using this
  · iterate 2 (refine Below.setCell ?_ hB _)
    exact Below.refl _ _

/-- The store of a whole one, as the region's law tells it. -/
theorem blk_there {w : World} {g : Nat} {t : TypeId} {x : Pr} (h : Blk w g t #[.int .i64 x.a, .int .i64 x.b]) : w.there g 0 2 := fun j hj => by
  rw [Nat.zero_add]
  obtain rfl | rfl : j = 0 ∨ j = 1 := by omega
  all_goals exact ⟨by rw [h.cell _ rfl]; rfl, h.frozen _⟩
theorem blk_stored {w : World} {g : Nat} {t : TypeId} {x : Pr} (h : Blk w g t #[.int .i64 x.a, .int .i64 x.b]) (y : Pr) : Blk (w.setCells g 0 [.int .i64 y.a, .int .i64 y.b]) g t #[.int .i64 y.a, .int .i64 y.b] ∧ ∀ B, B ≤ g → Below B w (w.setCells g 0 [.int .i64 y.a, .int .i64 y.b]) := blk_all h y
theorem size : (Try.prog.info? 88).map (·.size) = some 2 := by kernel_rfl
theorem one_cell (y : Pr) : (#[.int .i64 y.a, .int .i64 y.b] : Array Value).all (·.oneCell') = true := by simp [Value.oneCell']
end Go.Proofs.Ytdfmfmndmldggaa.PrK
