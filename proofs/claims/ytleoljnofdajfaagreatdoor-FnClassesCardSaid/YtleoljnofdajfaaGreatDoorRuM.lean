/- Runner: what it is in memory; lists of them. -/
import Derived.Test.YtleoljnofdajfaaGreatDoorBk
import Derived.Deep.MidRow
namespace Go.Proofs.YtleoljnofdajfaaGreatDoor.Lb
/-- A Runner. -/
structure Ru where
  id : Int
  nm : ByteArray
  cl : ByteArray
  bo : Int
  wo : Bool
  ca : Int
end Go.Proofs.YtleoljnofdajfaaGreatDoor.Lb
namespace Go.Proofs.YtleoljnofdajfaaGreatDoor.RuK
open Go.RowKit Lb Bk
set_option linter.unusedSimpArgs false
set_option linter.unusedVariables false

def no : Ru := ⟨0, ⟨#[]⟩, ⟨#[]⟩, 0, false, 0⟩
def at_ (rs : List Ru) (i : Nat) : Ru := rs.getD i no
theorem at_lt {rs : List Ru} {i : Nat} (h : i < rs.length) : at_ rs i = rs[i] := by simp [at_, h]
def cV (r : Ru) : Nat → Value
  | 0 => .int .i64 r.id
  | 1 => .string r.nm
  | 2 => .string r.cl
  | 3 => .int .i64 r.bo
  | 4 => .bool r.wo
  | _ => .int .i64 r.ca

/-- A list that can be read. -/
def Row (w : World) (a : Option Addr) (rs : List Ru) : Prop := rs.length = 0 ∨ ∃ b off, a = some ⟨b, off, none⟩ ∧ ∀ i, i < rs.length → ∀ j, j < 6 → w.cell? ⟨b, off + i * 6 + j, none⟩ = some (cV (at_ rs i) j)
theorem Row.later {w w' : World} {a : Option Addr} {rs : List Ru} (H : Row w a rs) (hb : Below w.heap.size w w') : Row w' a rs := by
  rcases H with H | ⟨b, off, ha, hc⟩
  · exact .inl H
  · exact .inr ⟨b, off, ha, fun i hi j hj => (hb.cell (World.block_lt_of_cell? w _ (hc i hi j hj))).trans (hc i hi j hj)⟩
theorem Row.drew {w : World} {a : Option Addr} {rs : List Ru} (H : Row w a rs) : Row w.drew a rs := H
theorem Row.beside {w w' : World} {a : Option Addr} {rs : List Ru} (H : Row w a rs) {r : Option Nat} (hg : w.grownBy w' r) (hr : ∀ x, a = some x → r ≠ some x.block) : Row w' a rs := by
  rcases H with H | ⟨b, off, ha, hc⟩
  · exact .inl H
  · exact .inr ⟨b, off, ha, fun i hi j hj => hg.cell (hc i hi j hj) (fun e => hr _ ha (by simpa using e.symm))⟩
theorem Row.cells {w : World} {a : Option Addr} {rs : List Ru} (H : Row w a rs) {i : Nat} (hi : i < rs.length) : ∃ b off, a = some ⟨b, off, none⟩ ∧ w.cell? ⟨b, off + i * 6, none⟩ = some (.int .i64 (at_ rs i).id) ∧ w.cell? ⟨b, off + i * 6 + 1, none⟩ = some (.string (at_ rs i).nm) ∧ w.cell? ⟨b, off + i * 6 + 2, none⟩ = some (.string (at_ rs i).cl) ∧ w.cell? ⟨b, off + i * 6 + 3, none⟩ = some (.int .i64 (at_ rs i).bo) ∧ w.cell? ⟨b, off + i * 6 + 4, none⟩ = some (.bool (at_ rs i).wo) ∧ w.cell? ⟨b, off + i * 6 + 5, none⟩ = some (.int .i64 (at_ rs i).ca) := by
  rcases H with H | ⟨b, off, ha, hc⟩
  · omega
  · exact ⟨b, off, ha, hc i hi 0 (by omega), hc i hi 1 (by omega), hc i hi 2 (by omega), hc i hi 3 (by omega), hc i hi 4 (by omega), hc i hi 5 (by omega)⟩

/-- The cells of a list. -/
def cells : List Ru → List Value
  | [] => []
  | f :: r => .int .i64 f.id :: .string f.nm :: .string f.cl :: .int .i64 f.bo :: .bool f.wo :: .int .i64 f.ca :: cells r
theorem cells_app (f : Ru) : ∀ fs, cells (fs ++ [f]) = cells fs ++ [.int .i64 f.id, .string f.nm, .string f.cl, .int .i64 f.bo, .bool f.wo, .int .i64 f.ca]
  | [] => rfl
  | g :: r => by rw [List.cons_append, cells, cells_app f r, cells]; rfl
theorem cells_cat (gs : List Ru) : ∀ fs, cells (fs ++ gs) = cells fs ++ cells gs
  | [] => rfl
  | g :: r => by rw [List.cons_append, cells, cells_cat gs r, cells]; rfl
theorem cells_len : ∀ fs, (cells fs).length = fs.length * 6
  | [] => by simp [cells]
  | g :: r => by simp only [cells, List.length_cons, cells_len r]; omega
theorem cells_at : ∀ (fs : List Ru) (i : Nat), i < fs.length → ∀ j, j < 6 → (cells fs)[i * 6 + j]? = some (cV (at_ fs i) j)
  | [], i, h, _, _ => absurd h (Nat.not_lt_zero _)
  | f :: r, 0, _, j, hj => by
    rw [Nat.zero_mul, Nat.zero_add]
    obtain rfl | rfl | rfl | rfl | rfl | rfl : j = 0 ∨ j = 1 ∨ j = 2 ∨ j = 3 ∨ j = 4 ∨ j = 5 := by omega
    all_goals rfl
  | f :: r, i + 1, h, j, hj => by
    rw [show (i + 1) * 6 + j = (i * 6 + j) + 6 by omega]
    have := cells_at r i (by simpa using h) j hj
    simpa [cells, at_] using this
theorem cells_take : ∀ (fs : List Ru) (k : Nat), (cells fs).take (k * 6) = cells (fs.take k)
  | [], k => by simp [cells]
  | f :: r, 0 => by simp [cells]
  | f :: r, k + 1 => by
    rw [show (k + 1) * 6 = k * 6 + 6 by omega, List.take_succ_cons, cells, cells, ← cells_take r k]
    simp only [List.take_succ_cons]
theorem cells_drop : ∀ (fs : List Ru) (k : Nat), (cells fs).drop (k * 6) = cells (fs.drop k)
  | [], k => by simp [cells]
  | f :: r, 0 => by simp [cells]
  | f :: r, k + 1 => by
    rw [show (k + 1) * 6 = k * 6 + 6 by omega, List.drop_succ_cons, cells, ← cells_drop r k]
    simp only [List.drop_succ_cons]
theorem cells_set (x : Ru) : ∀ (fs : List Ru) (k : Nat), k < fs.length → cells (fs.set k x) = (((((((cells fs).set (k * 6) (.int .i64 x.id)).set (k * 6 + 1) (.string x.nm)).set (k * 6 + 2) (.string x.cl)).set (k * 6 + 3) (.int .i64 x.bo)).set (k * 6 + 4) (.bool x.wo)).set (k * 6 + 5) (.int .i64 x.ca))
  | [], k, h => absurd h (Nat.not_lt_zero _)
  | f :: r, 0, _ => by simp [cells]
  | f :: r, k + 1, h => by
    rw [List.set_cons_succ, cells, cells_set x r k (by simpa using h), cells]
    rw [show (k + 1) * 6 + 5 = k * 6 + 5 + 6 by omega]
    rw [show (k + 1) * 6 + 4 = k * 6 + 4 + 6 by omega]
    rw [show (k + 1) * 6 + 3 = k * 6 + 3 + 6 by omega]
    rw [show (k + 1) * 6 + 2 = k * 6 + 2 + 6 by omega]
    rw [show (k + 1) * 6 + 1 = k * 6 + 1 + 6 by omega]
    rw [show (k + 1) * 6 = k * 6 + 6 by omega]
    simp only [List.set_cons_succ]

/-- A row of its own. -/
def Own (w : World) (base : Nat) (v : Value) (rs : List Ru) : Prop := w.ownsRow base 35 6 v rs.length (cells rs)
theorem Own.slice {w : World} {base : Nat} {v : Value} {rs : List Ru} (h : Own w base v rs) :
    ∃ a cap, v = .slice a rs.length cap ∧ Row w a rs ∧ ∀ x, a = some x → base ≤ x.block ∧ x.block < w.heap.size := by
  have h' := h
  unfold Own at h
  rcases h.2 with ⟨rfl, h0⟩ | ⟨g, cap, cur, rfl, hb, _⟩
  · exact ⟨none, 0, by rw [h0], .inl h0, fun x e => by cases e⟩
  · refine ⟨some ⟨g, 0, none⟩, cap, rfl, .inr ⟨g, 0, rfl, fun i hi j hj => ?_⟩, fun x e => ?_⟩
    · rw [Nat.zero_add]
      exact (h.cellAt _ (by omega)).trans (cells_at rs i hi j hj)
    · cases e; exact h.lt g rfl
theorem Own.row {w : World} {base cap : Nat} {a : Option Addr} {rs : List Ru} (h : Own w base (.slice a rs.length cap) rs) : Row w a rs := by
  obtain ⟨a', c', e, hr, _⟩ := h.slice
  cases e; exact hr
theorem Own.le {w : World} {base n cap : Nat} {a : Option Addr} {rs : List Ru} (h : Own w base (.slice a n cap) rs) : rs.length ≤ cap := by
  rcases h.2 with ⟨h1, h0⟩ | ⟨g', c', cur, hv, _, _, h3, _⟩
  · omega
  · obtain ⟨-, -, rfl⟩ := Value.slice.inj hv
    omega
theorem take_at (rs : List Ru) {k i : Nat} (h : i < k) : at_ (rs.take k) i = at_ rs i := by
  unfold at_
  rw [List.getD_eq_getElem?_getD, List.getD_eq_getElem?_getD, List.getElem?_take_of_lt h]
theorem Row.take {w : World} {a : Option Addr} {rs : List Ru} (H : Row w a rs) (k : Nat) : Row w a (rs.take k) := by
  rcases H with H | ⟨b, off, ha, hc⟩
  · exact .inl (by rw [List.length_take]; omega)
  · refine .inr ⟨b, off, ha, fun i hi j hj => ?_⟩
    rw [List.length_take] at hi
    rw [take_at rs (by omega)]
    exact hc i (by omega) j hj
/-- The first element that a test holds of. -/
theorem find_at {p : Ru → Bool} {rs : List Ru} {k : Nat} (hk : k < rs.length) (h : ∀ j, j < k → p (at_ rs j) = false) (h1 : p (at_ rs k) = true) : rs.find? p = some (at_ rs k) := by
  rw [List.find?_eq_some_iff_getElem]
  exact ⟨h1, k, hk, (at_lt hk).symm, fun j hj => by have := h j hj; rw [at_lt (by omega)] at this; simp [this]⟩
theorem find_no {p : Ru → Bool} {rs : List Ru} (h : ∀ j, j < rs.length → p (at_ rs j) = false) : rs.find? p = none := by
  rw [List.find?_eq_none]
  intro x hx
  obtain ⟨j, hj, rfl⟩ := List.mem_iff_getElem.1 hx
  have := h j hj
  rw [at_lt hj] at this
  simp [this]
theorem Own.at_lt {w : World} {base cap n : Nat} {a : Option Addr} {rs : List Ru} (h : Own w base (.slice a n cap) rs) : ∀ x, a = some x → base ≤ x.block ∧ x.block < w.heap.size := by
  obtain ⟨a', c', e, _, hx⟩ := h.slice
  cases e; exact hx
theorem Own.below {w w' : World} {base : Nat} {v : Value} {rs : List Ru} (h : Own w base v rs) (hb : Below w.heap.size w w') : Own w' base v rs := owns_below h hb
theorem Own.drew {w : World} {base : Nat} {v : Value} {rs : List Ru} (h : Own w base v rs) : Own w.drew base v rs := h.below (Below.refl _ _).drew
theorem Own.rebase {w : World} {b b' : Nat} {v : Value} {rs : List Ru} (h : Own w b v rs) (hb : b' ≤ b) : Own w b' v rs := by
  refine ⟨h.1, ?_⟩
  rcases h.2 with h2 | ⟨g, cap, cur, hv, hg, r⟩
  · exact .inl h2
  · exact .inr ⟨g, cap, cur, hv, Nat.le_trans hb hg, r⟩
theorem Own.put {w : World} {base g n cap : Nat} {rs : List Ru} (h : Own w base (.slice (some ⟨g, 0, none⟩) n cap) rs) (hn : rs.length = n) {k : Nat} (hk : k < rs.length) (x : Ru) :
    Own (((((((w.setCell ⟨g, k * 6, none⟩ (.int .i64 x.id)).setCell ⟨g, k * 6 + 1, none⟩ (.string x.nm)).setCell ⟨g, k * 6 + 2, none⟩ (.string x.cl)).setCell ⟨g, k * 6 + 3, none⟩ (.int .i64 x.bo)).setCell ⟨g, k * 6 + 4, none⟩ (.bool x.wo)).setCell ⟨g, k * 6 + 5, none⟩ (.int .i64 x.ca))) base (.slice (some ⟨g, 0, none⟩) n cap) (rs.set k x) := by
  unfold Own at h ⊢
  rw [cells_set x rs k hk, List.length_set, hn]
  rw [hn] at h
  exact (World.ownsRow.stored (World.ownsRow.stored (World.ownsRow.stored (World.ownsRow.stored (World.ownsRow.stored (World.ownsRow.stored h (k * 6) (.int .i64 x.id)).1 (k * 6 + 1) (.string x.nm)).1 (k * 6 + 2) (.string x.cl)).1 (k * 6 + 3) (.int .i64 x.bo)).1 (k * 6 + 4) (.bool x.wo)).1 (k * 6 + 5) (.int .i64 x.ca)).1
/-- What stands at an index, whatever is written beside it. -/
theorem raw_at {w : World} {base g n cap : Nat} {L : List Value} (h : w.ownsRow base 35 6 (.slice (some ⟨g, 0, none⟩) n cap) n L) {k : Nat} (hk : k < n * 6) : ∃ u, w.cell? ⟨g, k, none⟩ = some u ∧ w.frozen? ⟨g, k, none⟩ = false := by
  have hl : L.length = n * 6 := h.1
  exact ⟨L[k], (h.cellAt k (by omega)).trans (List.getElem?_eq_getElem (by omega)), h.frozenAt k⟩
theorem info : (Tryz.prog.info? 35).map (fun i => (i.zero, i.size, i.bytes)) = some (some (.agg #[.int .i64 no.id, .string no.nm, .string no.cl, .int .i64 no.bo, .bool no.wo, .int .i64 no.ca]), 6, 64) := by kernel_rfl
theorem made (w : World) (n : Nat) (hn : n ≤ maxLen) : Own (w.alloc (.cells (madeCells #[.int .i64 no.id, .string no.nm, .string no.cl, .int .i64 no.bo, .bool no.wo, .int .i64 no.ca] (n * 6)) 35)) w.heap.size (.slice (some ⟨w.heap.size, 0, none⟩) n n) (List.replicate n no) := by
  unfold Own
  rw [List.length_replicate]
  have he : (madeCells #[.int .i64 no.id, .string no.nm, .string no.cl, .int .i64 no.bo, .bool no.wo, .int .i64 no.ca] (n * 6)).toList = cells (List.replicate n no) := by
    apply List.ext_getElem?
    intro i
    by_cases hi : i < n * 6
    · rw [show i = i / 6 * 6 + i % 6 by omega, cells_at _ _ (by simp; omega) _ (by omega)]
      have : at_ (List.replicate n no) (i / 6) = no := by rw [at_lt (by simp; omega)]; simp
      rw [this, show i / 6 * 6 + i % 6 = i by omega]
      unfold madeCells
      simp only [Array.toList_map, List.getElem?_map, Array.toList_range, List.getElem?_range hi, Option.map_some]
      obtain ⟨j, hj⟩ : ∃ j, i % 6 = j := ⟨_, rfl⟩
      have hjl : j < 6 := by omega
      show some ((#[.int .i64 no.id, .string no.nm, .string no.cl, .int .i64 no.bo, .bool no.wo, .int .i64 no.ca] : Array Value)[i % 6]!) = _
      rw [hj]
      obtain rfl | rfl | rfl | rfl | rfl | rfl : j = 0 ∨ j = 1 ∨ j = 2 ∨ j = 3 ∨ j = 4 ∨ j = 5 := by omega
      all_goals rfl
    · rw [List.getElem?_eq_none (by simp [madeCells]; omega), List.getElem?_eq_none (by rw [cells_len]; simp; omega)]
  rw [← he]
  exact ⟨by simp [madeCells], .inr ⟨w.heap.size, n, _, rfl, Nat.le_refl _, heap_alloc_new w _, Nat.le_refl _, hn, by simp [madeCells], by rw [List.take_of_length_le (by simp [madeCells])]⟩⟩

/-- A block of one: its cells; another one written over it. -/
theorem blk_cells {w : World} {g : Nat} {t : TypeId} {x : Ru} (h : Blk w g t #[.int .i64 x.id, .string x.nm, .string x.cl, .int .i64 x.bo, .bool x.wo, .int .i64 x.ca]) : (w.cell? ⟨g, 0, none⟩ = some (.int .i64 x.id) ∧ w.cell? ⟨g, 1, none⟩ = some (.string x.nm) ∧ w.cell? ⟨g, 2, none⟩ = some (.string x.cl) ∧ w.cell? ⟨g, 3, none⟩ = some (.int .i64 x.bo) ∧ w.cell? ⟨g, 4, none⟩ = some (.bool x.wo) ∧ w.cell? ⟨g, 5, none⟩ = some (.int .i64 x.ca)) ∧ (w.frozen? ⟨g, 0, none⟩ = false ∧ w.frozen? ⟨g, 1, none⟩ = false ∧ w.frozen? ⟨g, 2, none⟩ = false ∧ w.frozen? ⟨g, 3, none⟩ = false ∧ w.frozen? ⟨g, 4, none⟩ = false ∧ w.frozen? ⟨g, 5, none⟩ = false) :=
  ⟨⟨h.cell 0 rfl, h.cell 1 rfl, h.cell 2 rfl, h.cell 3 rfl, h.cell 4 rfl, h.cell 5 rfl⟩, h.frozen 0, h.frozen 1, h.frozen 2, h.frozen 3, h.frozen 4, h.frozen 5⟩
theorem blk_all {w : World} {g : Nat} {t : TypeId} {x : Ru} (h : Blk w g t #[.int .i64 x.id, .string x.nm, .string x.cl, .int .i64 x.bo, .bool x.wo, .int .i64 x.ca]) (y : Ru) : Blk ((((((w.setCell ⟨g, 0, none⟩ (.int .i64 y.id)).setCell ⟨g, 1, none⟩ (.string y.nm)).setCell ⟨g, 2, none⟩ (.string y.cl)).setCell ⟨g, 3, none⟩ (.int .i64 y.bo)).setCell ⟨g, 4, none⟩ (.bool y.wo)).setCell ⟨g, 5, none⟩ (.int .i64 y.ca)) g t #[.int .i64 y.id, .string y.nm, .string y.cl, .int .i64 y.bo, .bool y.wo, .int .i64 y.ca] ∧ ∀ B, B ≤ g → Below B w ((((((w.setCell ⟨g, 0, none⟩ (.int .i64 y.id)).setCell ⟨g, 1, none⟩ (.string y.nm)).setCell ⟨g, 2, none⟩ (.string y.cl)).setCell ⟨g, 3, none⟩ (.int .i64 y.bo)).setCell ⟨g, 4, none⟩ (.bool y.wo)).setCell ⟨g, 5, none⟩ (.int .i64 y.ca)) := by
  refine ⟨?_, fun B hB => ?_⟩
  · have := (Blk.set_ (Blk.set_ (Blk.set_ (Blk.set_ (Blk.set_ (Blk.set_ h 0 (.int .i64 y.id)) 1 (.string y.nm)) 2 (.string y.cl)) 3 (.int .i64 y.bo)) 4 (.bool y.wo)) 5 (.int .i64 y.ca))
    simpa using this
  · iterate 6 (refine Below.setCell ?_ hB _)
    exact Below.refl _ _

/-- The store of a whole one, as the region's law tells it. -/
theorem blk_there {w : World} {g : Nat} {t : TypeId} {x : Ru} (h : Blk w g t #[.int .i64 x.id, .string x.nm, .string x.cl, .int .i64 x.bo, .bool x.wo, .int .i64 x.ca]) : w.there g 0 6 := fun j hj => by
  rw [Nat.zero_add]
  obtain rfl | rfl | rfl | rfl | rfl | rfl : j = 0 ∨ j = 1 ∨ j = 2 ∨ j = 3 ∨ j = 4 ∨ j = 5 := by omega
  all_goals exact ⟨by rw [h.cell _ rfl]; rfl, h.frozen _⟩
theorem blk_stored {w : World} {g : Nat} {t : TypeId} {x : Ru} (h : Blk w g t #[.int .i64 x.id, .string x.nm, .string x.cl, .int .i64 x.bo, .bool x.wo, .int .i64 x.ca]) (y : Ru) : Blk (w.setCells g 0 [.int .i64 y.id, .string y.nm, .string y.cl, .int .i64 y.bo, .bool y.wo, .int .i64 y.ca]) g t #[.int .i64 y.id, .string y.nm, .string y.cl, .int .i64 y.bo, .bool y.wo, .int .i64 y.ca] ∧ ∀ B, B ≤ g → Below B w (w.setCells g 0 [.int .i64 y.id, .string y.nm, .string y.cl, .int .i64 y.bo, .bool y.wo, .int .i64 y.ca]) := blk_all h y
theorem size : (Tryz.prog.info? 35).map (·.size) = some 6 := by kernel_rfl
theorem one_cell (y : Ru) : (#[.int .i64 y.id, .string y.nm, .string y.cl, .int .i64 y.bo, .bool y.wo, .int .i64 y.ca] : Array Value).all (·.oneCell') = true := by simp [Value.oneCell']
end Go.Proofs.YtleoljnofdajfaaGreatDoor.RuK
