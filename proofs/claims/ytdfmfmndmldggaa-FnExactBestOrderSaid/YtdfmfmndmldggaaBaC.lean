/- Texts of one layer: CtM, CtS, CtN, CtW, CtL, CtK, CtG, CtO. -/
import Derived.Test.YtdfmfmndmldggaaBaA
import Derived.Deep.MidRow
import Derived.Maps.AppendAt
import Derived.RegionTactic
import Derived.Deep.RegionHeld3
import Derived.ProofKit
import Derived.OpenShut
import Derived.ShutString
import Derived.ChangeSlices
import Derived.WideShapes
import Derived.Lib.SmallJoins
import Derived.Deep.Slices
namespace Go.Proofs.Ytdfmfmndmldggaa.Lb
/-- A Control. -/
structure Ct where
  co : Int
  ce : Int
end Go.Proofs.Ytdfmfmndmldggaa.Lb
namespace Go.Proofs.Ytdfmfmndmldggaa.CtK
open Go.RowKit Lb Bk
set_option linter.unusedSimpArgs false
set_option linter.unusedVariables false

def no : Ct := ⟨0, 0⟩
def at_ (rs : List Ct) (i : Nat) : Ct := rs.getD i no
theorem at_lt {rs : List Ct} {i : Nat} (h : i < rs.length) : at_ rs i = rs[i] := by simp [at_, h]
def cV (r : Ct) : Nat → Value
  | 0 => .int .i64 r.co
  | _ => .int .i64 r.ce

/-- A list that can be read. -/
def Row (w : World) (a : Option Addr) (rs : List Ct) : Prop := rs.length = 0 ∨ ∃ b off, a = some ⟨b, off, none⟩ ∧ ∀ i, i < rs.length → ∀ j, j < 2 → w.cell? ⟨b, off + i * 2 + j, none⟩ = some (cV (at_ rs i) j)
theorem Row.later {w w' : World} {a : Option Addr} {rs : List Ct} (H : Row w a rs) (hb : Below w.heap.size w w') : Row w' a rs := by
  rcases H with H | ⟨b, off, ha, hc⟩
  · exact .inl H
  · exact .inr ⟨b, off, ha, fun i hi j hj => (hb.cell (World.block_lt_of_cell? w _ (hc i hi j hj))).trans (hc i hi j hj)⟩
theorem Row.drew {w : World} {a : Option Addr} {rs : List Ct} (H : Row w a rs) : Row w.drew a rs := H
theorem Row.beside {w w' : World} {a : Option Addr} {rs : List Ct} (H : Row w a rs) {r : Option Nat} (hg : w.grownBy w' r) (hr : ∀ x, a = some x → r ≠ some x.block) : Row w' a rs := by
  rcases H with H | ⟨b, off, ha, hc⟩
  · exact .inl H
  · exact .inr ⟨b, off, ha, fun i hi j hj => hg.cell (hc i hi j hj) (fun e => hr _ ha (by simpa using e.symm))⟩
theorem Row.cells {w : World} {a : Option Addr} {rs : List Ct} (H : Row w a rs) {i : Nat} (hi : i < rs.length) : ∃ b off, a = some ⟨b, off, none⟩ ∧ w.cell? ⟨b, off + i * 2, none⟩ = some (.int .i64 (at_ rs i).co) ∧ w.cell? ⟨b, off + i * 2 + 1, none⟩ = some (.int .i64 (at_ rs i).ce) := by
  rcases H with H | ⟨b, off, ha, hc⟩
  · omega
  · exact ⟨b, off, ha, hc i hi 0 (by omega), hc i hi 1 (by omega)⟩

/-- The cells of a list. -/
def cells : List Ct → List Value
  | [] => []
  | f :: r => .int .i64 f.co :: .int .i64 f.ce :: cells r
theorem cells_app (f : Ct) : ∀ fs, cells (fs ++ [f]) = cells fs ++ [.int .i64 f.co, .int .i64 f.ce]
  | [] => rfl
  | g :: r => by rw [List.cons_append, cells, cells_app f r, cells]; rfl
theorem cells_cat (gs : List Ct) : ∀ fs, cells (fs ++ gs) = cells fs ++ cells gs
  | [] => rfl
  | g :: r => by rw [List.cons_append, cells, cells_cat gs r, cells]; rfl
theorem cells_len : ∀ fs, (cells fs).length = fs.length * 2
  | [] => by simp [cells]
  | g :: r => by simp only [cells, List.length_cons, cells_len r]; omega
theorem cells_at : ∀ (fs : List Ct) (i : Nat), i < fs.length → ∀ j, j < 2 → (cells fs)[i * 2 + j]? = some (cV (at_ fs i) j)
  | [], i, h, _, _ => absurd h (Nat.not_lt_zero _)
  | f :: r, 0, _, j, hj => by
    rw [Nat.zero_mul, Nat.zero_add]
    obtain rfl | rfl : j = 0 ∨ j = 1 := by omega
    all_goals rfl
  | f :: r, i + 1, h, j, hj => by
    rw [show (i + 1) * 2 + j = (i * 2 + j) + 2 by omega]
    have := cells_at r i (by simpa using h) j hj
    simpa [cells, at_] using this
theorem cells_take : ∀ (fs : List Ct) (k : Nat), (cells fs).take (k * 2) = cells (fs.take k)
  | [], k => by simp [cells]
  | f :: r, 0 => by simp [cells]
  | f :: r, k + 1 => by
    rw [show (k + 1) * 2 = k * 2 + 2 by omega, List.take_succ_cons, cells, cells, ← cells_take r k]
    simp only [List.take_succ_cons]
theorem cells_drop : ∀ (fs : List Ct) (k : Nat), (cells fs).drop (k * 2) = cells (fs.drop k)
  | [], k => by simp [cells]
  | f :: r, 0 => by simp [cells]
  | f :: r, k + 1 => by
    rw [show (k + 1) * 2 = k * 2 + 2 by omega, List.drop_succ_cons, cells, ← cells_drop r k]
    simp only [List.drop_succ_cons]
theorem cells_set (x : Ct) : ∀ (fs : List Ct) (k : Nat), k < fs.length → cells (fs.set k x) = (((cells fs).set (k * 2) (.int .i64 x.co)).set (k * 2 + 1) (.int .i64 x.ce))
  | [], k, h => absurd h (Nat.not_lt_zero _)
  | f :: r, 0, _ => by simp [cells]
  | f :: r, k + 1, h => by
    rw [List.set_cons_succ, cells, cells_set x r k (by simpa using h), cells]
    rw [show (k + 1) * 2 + 1 = k * 2 + 1 + 2 by omega]
    rw [show (k + 1) * 2 = k * 2 + 2 by omega]
    simp only [List.set_cons_succ]

/-- A row of its own. -/
def Own (w : World) (base : Nat) (v : Value) (rs : List Ct) : Prop := w.ownsRow base 70 2 v rs.length (cells rs)
theorem Own.slice {w : World} {base : Nat} {v : Value} {rs : List Ct} (h : Own w base v rs) :
    ∃ a cap, v = .slice a rs.length cap ∧ Row w a rs ∧ ∀ x, a = some x → base ≤ x.block ∧ x.block < w.heap.size := by
  have h' := h
  unfold Own at h
  rcases h.2 with ⟨rfl, h0⟩ | ⟨g, cap, cur, rfl, hb, _⟩
  · exact ⟨none, 0, by rw [h0], .inl h0, fun x e => by cases e⟩
  · refine ⟨some ⟨g, 0, none⟩, cap, rfl, .inr ⟨g, 0, rfl, fun i hi j hj => ?_⟩, fun x e => ?_⟩
    · rw [Nat.zero_add]
      exact (h.cellAt _ (by omega)).trans (cells_at rs i hi j hj)
    · cases e; exact h.lt g rfl
theorem Own.row {w : World} {base cap : Nat} {a : Option Addr} {rs : List Ct} (h : Own w base (.slice a rs.length cap) rs) : Row w a rs := by
  obtain ⟨a', c', e, hr, _⟩ := h.slice
  cases e; exact hr
theorem Own.le {w : World} {base n cap : Nat} {a : Option Addr} {rs : List Ct} (h : Own w base (.slice a n cap) rs) : rs.length ≤ cap := by
  rcases h.2 with ⟨h1, h0⟩ | ⟨g', c', cur, hv, _, _, h3, _⟩
  · omega
  · obtain ⟨-, -, rfl⟩ := Value.slice.inj hv
    omega
theorem take_at (rs : List Ct) {k i : Nat} (h : i < k) : at_ (rs.take k) i = at_ rs i := by
  unfold at_
  rw [List.getD_eq_getElem?_getD, List.getD_eq_getElem?_getD, List.getElem?_take_of_lt h]
theorem Row.take {w : World} {a : Option Addr} {rs : List Ct} (H : Row w a rs) (k : Nat) : Row w a (rs.take k) := by
  rcases H with H | ⟨b, off, ha, hc⟩
  · exact .inl (by rw [List.length_take]; omega)
  · refine .inr ⟨b, off, ha, fun i hi j hj => ?_⟩
    rw [List.length_take] at hi
    rw [take_at rs (by omega)]
    exact hc i (by omega) j hj
/-- The first element that a test holds of. -/
theorem find_at {p : Ct → Bool} {rs : List Ct} {k : Nat} (hk : k < rs.length) (h : ∀ j, j < k → p (at_ rs j) = false) (h1 : p (at_ rs k) = true) : rs.find? p = some (at_ rs k) := by
  rw [List.find?_eq_some_iff_getElem]
  exact ⟨h1, k, hk, (at_lt hk).symm, fun j hj => by have := h j hj; rw [at_lt (by omega)] at this; simp [this]⟩
theorem find_no {p : Ct → Bool} {rs : List Ct} (h : ∀ j, j < rs.length → p (at_ rs j) = false) : rs.find? p = none := by
  rw [List.find?_eq_none]
  intro x hx
  obtain ⟨j, hj, rfl⟩ := List.mem_iff_getElem.1 hx
  have := h j hj
  rw [at_lt hj] at this
  simp [this]
theorem Own.at_lt {w : World} {base cap n : Nat} {a : Option Addr} {rs : List Ct} (h : Own w base (.slice a n cap) rs) : ∀ x, a = some x → base ≤ x.block ∧ x.block < w.heap.size := by
  obtain ⟨a', c', e, _, hx⟩ := h.slice
  cases e; exact hx
theorem Own.below {w w' : World} {base : Nat} {v : Value} {rs : List Ct} (h : Own w base v rs) (hb : Below w.heap.size w w') : Own w' base v rs := owns_below h hb
theorem Own.drew {w : World} {base : Nat} {v : Value} {rs : List Ct} (h : Own w base v rs) : Own w.drew base v rs := h.below (Below.refl _ _).drew
theorem Own.rebase {w : World} {b b' : Nat} {v : Value} {rs : List Ct} (h : Own w b v rs) (hb : b' ≤ b) : Own w b' v rs := by
  refine ⟨h.1, ?_⟩
  rcases h.2 with h2 | ⟨g, cap, cur, hv, hg, r⟩
  · exact .inl h2
  · exact .inr ⟨g, cap, cur, hv, Nat.le_trans hb hg, r⟩
theorem Own.put {w : World} {base g n cap : Nat} {rs : List Ct} (h : Own w base (.slice (some ⟨g, 0, none⟩) n cap) rs) (hn : rs.length = n) {k : Nat} (hk : k < rs.length) (x : Ct) :
    Own (((w.setCell ⟨g, k * 2, none⟩ (.int .i64 x.co)).setCell ⟨g, k * 2 + 1, none⟩ (.int .i64 x.ce))) base (.slice (some ⟨g, 0, none⟩) n cap) (rs.set k x) := by
  unfold Own at h ⊢
  rw [cells_set x rs k hk, List.length_set, hn]
  rw [hn] at h
  exact (World.ownsRow.stored (World.ownsRow.stored h (k * 2) (.int .i64 x.co)).1 (k * 2 + 1) (.int .i64 x.ce)).1
/-- What stands at an index, whatever is written beside it. -/
theorem raw_at {w : World} {base g n cap : Nat} {L : List Value} (h : w.ownsRow base 70 2 (.slice (some ⟨g, 0, none⟩) n cap) n L) {k : Nat} (hk : k < n * 2) : ∃ u, w.cell? ⟨g, k, none⟩ = some u ∧ w.frozen? ⟨g, k, none⟩ = false := by
  have hl : L.length = n * 2 := h.1
  exact ⟨L[k], (h.cellAt k (by omega)).trans (List.getElem?_eq_getElem (by omega)), h.frozenAt k⟩
theorem info : (Try.prog.info? 70).map (fun i => (i.zero, i.size, i.bytes)) = some (some (.agg #[.int .i64 no.co, .int .i64 no.ce]), 2, 16) := by kernel_rfl
theorem made (w : World) (n : Nat) (hn : n ≤ maxLen) : Own (w.alloc (.cells (madeCells #[.int .i64 no.co, .int .i64 no.ce] (n * 2)) 70)) w.heap.size (.slice (some ⟨w.heap.size, 0, none⟩) n n) (List.replicate n no) := by
  unfold Own
  rw [List.length_replicate]
  have he : (madeCells #[.int .i64 no.co, .int .i64 no.ce] (n * 2)).toList = cells (List.replicate n no) := by
    apply List.ext_getElem?
    intro i
    by_cases hi : i < n * 2
    · rw [show i = i / 2 * 2 + i % 2 by omega, cells_at _ _ (by simp; omega) _ (by omega)]
      have : at_ (List.replicate n no) (i / 2) = no := by rw [at_lt (by simp; omega)]; simp
      rw [this, show i / 2 * 2 + i % 2 = i by omega]
      unfold madeCells
      simp only [Array.toList_map, List.getElem?_map, Array.toList_range, List.getElem?_range hi, Option.map_some]
      obtain ⟨j, hj⟩ : ∃ j, i % 2 = j := ⟨_, rfl⟩
      have hjl : j < 2 := by omega
      show some ((#[.int .i64 no.co, .int .i64 no.ce] : Array Value)[i % 2]!) = _
      rw [hj]
      obtain rfl | rfl : j = 0 ∨ j = 1 := by omega
      all_goals rfl
    · rw [List.getElem?_eq_none (by simp [madeCells]; omega), List.getElem?_eq_none (by rw [cells_len]; simp; omega)]
  rw [← he]
  exact ⟨by simp [madeCells], .inr ⟨w.heap.size, n, _, rfl, Nat.le_refl _, heap_alloc_new w _, Nat.le_refl _, hn, by simp [madeCells], by rw [List.take_of_length_le (by simp [madeCells])]⟩⟩

/-- A block of one: its cells; another one written over it. -/
theorem blk_cells {w : World} {g : Nat} {t : TypeId} {x : Ct} (h : Blk w g t #[.int .i64 x.co, .int .i64 x.ce]) : (w.cell? ⟨g, 0, none⟩ = some (.int .i64 x.co) ∧ w.cell? ⟨g, 1, none⟩ = some (.int .i64 x.ce)) ∧ (w.frozen? ⟨g, 0, none⟩ = false ∧ w.frozen? ⟨g, 1, none⟩ = false) :=
  ⟨⟨h.cell 0 rfl, h.cell 1 rfl⟩, h.frozen 0, h.frozen 1⟩
theorem blk_all {w : World} {g : Nat} {t : TypeId} {x : Ct} (h : Blk w g t #[.int .i64 x.co, .int .i64 x.ce]) (y : Ct) : Blk ((w.setCell ⟨g, 0, none⟩ (.int .i64 y.co)).setCell ⟨g, 1, none⟩ (.int .i64 y.ce)) g t #[.int .i64 y.co, .int .i64 y.ce] ∧ ∀ B, B ≤ g → Below B w ((w.setCell ⟨g, 0, none⟩ (.int .i64 y.co)).setCell ⟨g, 1, none⟩ (.int .i64 y.ce)) := by
  refine ⟨?_, fun B hB => ?_⟩
  · have := (Blk.set_ (Blk.set_ h 0 (.int .i64 y.co)) 1 (.int .i64 y.ce))
    simpa using this
  · iterate 2 (refine Below.setCell ?_ hB _)
    exact Below.refl _ _

/-- The store of a whole one, as the region's law tells it. -/
theorem blk_there {w : World} {g : Nat} {t : TypeId} {x : Ct} (h : Blk w g t #[.int .i64 x.co, .int .i64 x.ce]) : w.there g 0 2 := fun j hj => by
  rw [Nat.zero_add]
  obtain rfl | rfl : j = 0 ∨ j = 1 := by omega
  all_goals exact ⟨by rw [h.cell _ rfl]; rfl, h.frozen _⟩
theorem blk_stored {w : World} {g : Nat} {t : TypeId} {x : Ct} (h : Blk w g t #[.int .i64 x.co, .int .i64 x.ce]) (y : Ct) : Blk (w.setCells g 0 [.int .i64 y.co, .int .i64 y.ce]) g t #[.int .i64 y.co, .int .i64 y.ce] ∧ ∀ B, B ≤ g → Below B w (w.setCells g 0 [.int .i64 y.co, .int .i64 y.ce]) := blk_all h y
theorem size : (Try.prog.info? 70).map (·.size) = some 2 := by kernel_rfl
theorem one_cell (y : Ct) : (#[.int .i64 y.co, .int .i64 y.ce] : Array Value).all (·.oneCell') = true := by simp [Value.oneCell']
end Go.Proofs.Ytdfmfmndmldggaa.CtK

namespace Go.Proofs.Ytdfmfmndmldggaa.CtK
open Go.RowKit Lb Bk
set_option linter.unusedSimpArgs false
set_option linter.unusedVariables false

/-- One that came in: its texts are not too long. -/
structure Is (f : Ct) : Prop where
  ok : True
def sz (f : Ct) : Int := 0
theorem sz_nn (f : Ct) : 0 ≤ sz f := by unfold sz; omega

set_option maxHeartbeats 2000000 in
theorem to_any (f : Ct) (w : World) :
    Calls Try.prog 70 #[.agg #[.int .i64 f.co, .int .i64 f.ce]] w fun e w' => e = .returned (.agg #[.int .i64 f.co, .int .i64 f.ce]) ∧ Below w.heap.size w w' := by
  go_enter Try.func70, Try.ntmps70
  go_wp2
  refine bodyPost_ret (v := .agg #[.int .i64 f.co, .int .i64 f.ce]) (by simp [results, Try.results70, go_sem]) rfl ?_
  exact ⟨rfl, (((Below.refl _ _).alloc (Nat.le_refl _) _).alloc (by simp) _).alloc (by simp; omega) _⟩

set_option maxHeartbeats 2000000 in
theorem eq_same (f : Ct) (w : World) :
    Calls Try.prog 71 #[.agg #[.int .i64 f.co, .int .i64 f.ce], .agg #[.int .i64 f.co, .int .i64 f.ce]] w fun e w' => e = .returned (.bool true) ∧ Below w.heap.size w w' := by
  go_enter Try.func71, Try.ntmps71
  go_wp2
  go_ret
  exact ⟨rfl, ((Below.refl _ _).alloc (Nat.le_refl _) _).alloc (by simp) _⟩

end Go.Proofs.Ytdfmfmndmldggaa.CtK

namespace Go.Proofs.Ytdfmfmndmldggaa.CtK
open Go.RowKit Lb Bk
set_option linter.unusedSimpArgs false
set_option linter.unusedVariables false

theorem cells_one : ∀ (rs : List Ct) (u : Value), u ∈ cells rs → u.oneCell' = true
  | [], u, h => by simp [cells] at h
  | f :: r, u, h => by
    simp only [cells, List.mem_cons] at h
    rcases h with rfl | rfl | h
    · rfl
    · rfl
    · exact cells_one r u h
theorem add_none (b o j : Nat) : (⟨b, o, none⟩ : Addr).add j = ⟨b, o + j, none⟩ := by unfold Addr.add; split <;> simp_all
theorem Row.news {w : World} {ad : Addr} {rs : List Ct} (H : Row w (some ad) rs) : ∀ j u, (CtK.cells rs)[j]? = some u → w.cell? (ad.add j) = some u := by
  intro j u h
  have hj : j < rs.length * 2 := by
    have := (List.getElem?_eq_some_iff.1 h).1
    rwa [cells_len] at this
  rcases H with h0 | ⟨b, off, e, hc⟩
  · omega
  · cases e
    rw [add_none]
    have h1 := hc (j / 2) (by omega) (j % 2) (by omega)
    have h2 := cells_at rs (j / 2) (by omega) (j % 2) (by omega)
    rw [show j / 2 * 2 + j % 2 = j by omega] at h2
    rw [show off + j / 2 * 2 + j % 2 = off + j by omega] at h1
    rw [h1]
    rw [h2] at h
    exact h
theorem drop_at (rs : List Ct) (k i : Nat) : at_ (rs.drop k) i = at_ rs (k + i) := by
  unfold at_
  rw [List.getD_eq_getElem?_getD, List.getD_eq_getElem?_getD, List.getElem?_drop]
theorem Row.drop {w : World} {b off : Nat} {rs : List Ct} (H : Row w (some ⟨b, off, none⟩) rs) (k : Nat) : Row w (some ⟨b, off + k * 2, none⟩) (rs.drop k) := by
  rcases H with h0 | ⟨b', off', e, hc⟩
  · exact .inl (by rw [List.length_drop]; omega)
  · cases e
    refine .inr ⟨b, off + k * 2, rfl, fun i hi j hj => ?_⟩
    rw [List.length_drop] at hi
    rw [drop_at, show off + k * 2 + i * 2 + j = off + (k + i) * 2 + j by omega]
    exact hc (k + i) (by omega) j hj
theorem Own.cat {w : World} {base n m : Nat} {v : Value} {rs qs : List Ct} (hn : rs.length = n) (hm : qs.length = m) (h : w.ownsRow base 70 2 v (n + m) (cells rs ++ cells qs)) : Own w base v (rs ++ qs) := by
  unfold Own
  rw [List.length_append, hn, hm, cells_cat]
  exact h
theorem Own.empty (w : World) : Own (w.alloc (.cells #[] 70)) w.heap.size (.slice (some ⟨w.heap.size, 0, none⟩) 0 0) [] := World.ownsRow_made w #[] 0 (Nat.le_refl _) (Nat.zero_le _) rfl
end Go.Proofs.Ytdfmfmndmldggaa.CtK

namespace Go.Proofs.Ytdfmfmndmldggaa.CtK
open Go.RowKit Lb Bk
set_option linter.unusedVariables false

/-- A list that grows, of the call's own. -/
structure Gr (w : World) (v : Value) (zs : List Ct) (wr : World) : Prop where
  b : Below w.heap.size w wr
  own : CtK.Own wr w.heap.size v zs
theorem Gr.below {w : World} {v : Value} {zs : List Ct} {wr w' : World} (h : Gr w v zs wr) (hb : Below wr.heap.size wr w') : Gr w v zs w' := ⟨h.b.trans (hb.mono h.b.size), h.own.below hb⟩
theorem Gr.alloc {w : World} {v : Value} {zs : List Ct} {wr : World} (h : Gr w v zs wr) (o : Obj) : Gr w v zs (wr.alloc o) := h.below ((Below.refl _ _).alloc (Nat.le_refl _) _)
theorem Gr.drew {w : World} {v : Value} {zs : List Ct} {wr : World} (h : Gr w v zs wr) : Gr w v zs wr.drew := h.below (Below.refl _ _).drew
theorem Gr.put {w : World} {v v' : Value} {zs : List Ct} {x : Ct} {n : Nat} {wr w' : World} (h : Gr w v zs wr) (hn : zs.length = n) (hg : wr.grownBy w' v.ownBlock) (ho : w'.ownsRow w.heap.size 70 2 v' (n + 1) (CtK.cells zs ++ CtK.cells [x])) : Gr w v' (zs ++ [x]) w' :=
  ⟨h.b.grown hg h.b.size (fun k e => (World.ownsRow.lt h.own k e).1), by unfold CtK.Own; rw [List.length_append, CtK.cells_cat]; subst hn; exact ho⟩
theorem Gr.start (w : World) : Gr w (.slice (some ⟨w.heap.size, 0, none⟩) 0 0) [] (w.alloc (.cells #[] 70)) :=
  ⟨(Below.refl _ _).alloc (Nat.le_refl _) _, CtK.Own.empty w⟩
end Go.Proofs.Ytdfmfmndmldggaa.CtK

namespace Go.Proofs.Ytdfmfmndmldggaa.CtK
open Go.RowKit Lb Bk
set_option linter.unusedSimpArgs false
set_option linter.unusedVariables false

theorem part_set (rs : List Ct) (k : Nat) (h : k < rs.length) : (rs.take k ++ List.replicate (rs.length - k) no).set k (at_ rs k) = rs.take (k + 1) ++ List.replicate (rs.length - (k + 1)) no := by
  rw [List.set_append_right _ _ (by rw [List.length_take]; omega), List.length_take, show k - min k rs.length = 0 by omega, show rs.length - k = (rs.length - (k + 1)) + 1 by omega, List.replicate_succ, List.set_cons_zero, List.take_succ_eq_append_getElem h, at_lt h, List.append_assoc]
  rfl

set_option maxHeartbeats 2000000 in
theorem toG_any (a : Option Addr) (cap : Nat) (rs : List Ct) (w : World) (hr : Row w a rs) (hl : rs.length ≤ 1048576) :
    Calls Try.prog 35 #[.slice a rs.length cap] w fun e w' => ∃ g, e = .returned (.slice (some ⟨g, 0, none⟩) rs.length rs.length) ∧ Own w' w.heap.size (.slice (some ⟨g, 0, none⟩) rs.length rs.length) rs ∧ Below w.heap.size w w' := by
  obtain ⟨t0, hi, hz0, hz1, hz2⟩ := info_parts info
  obtain ⟨n, hn⟩ : ∃ n, rs.length = n := ⟨_, rfl⟩
  have hmk : (Instr.makeSlice 27 (.int .i64 (n : Int)) (.int .i64 (n : Int))).run Try.prog w = .ok (.slice (some ⟨w.heap.size, 0, none⟩) n n) (w.alloc (.cells (madeCells #[.int .i64 no.co, .int .i64 no.ce] (n * 2)) 70)) := by
    have h := run_make (P := Try.prog) w 27 70 t0 (.agg #[.int .i64 no.co, .int .i64 no.ce]) Try.underlying27 hi hz0 .i64 .i64 n n (by omega) (Int.le_refl _) (by rw [hz2]; omega) (by omega)
    simp only [Int.toNat_natCast, hz1] at h
    exact h
  have H := Lib.hid hr
  have HM := Lib.hid (made w n (by unfold maxLen; omega))
  have HB := Lib.hid ((Below.refl w.heap.size w).alloc (Nat.le_refl _) (.cells (madeCells #[.int .i64 no.co, .int .i64 no.ce] (n * 2)) 70))
  have HN := Lib.hid hn
  rw [hn] at hl ⊢
  clear hr hi hz0 hz1 hz2 hn
  go_enter Try.func35, Try.ntmps35
  go_wp2
  go_loopw [4] (fun i wr => ∃ k : Nat, k ≤ n ∧ i = .int .i64 k ∧ Own wr w.heap.size (.slice (some ⟨w.heap.size, 0, none⟩) n n) (rs.take k ++ List.replicate (rs.length - k) no) ∧ Below w.heap.size w wr) (fun i _ => n - (intOf i).toNat)
  case atStart => exact ⟨0, Nat.zero_le _, rfl, by rw [HN.out]; simpa using HM.out, HB.out⟩
  case round =>
    obtain ⟨k, hk, rfl, ho, hb⟩ := hrel
    by_cases hlt : k < n
    · obtain ⟨b, off, rfl, c0, c1⟩ := (H.out.later hb).cells (i := k) (by rw [HN.out]; exact hlt)
      have HO := Lib.hid ho
      have HBr := Lib.hid hb
      clear ho hb
      go_wp2_with fail
      refine (to_any (at_ rs k) _).mono ?_
      rintro e w2 ⟨rfl, hb2⟩
      have HO2 := Lib.hid (HO.out.below hb2)
      have HB2 := Lib.hid (HBr.out.trans (hb2.mono HBr.out.size))
      have hlen : (rs.take k ++ List.replicate (rs.length - k) no).length = n := by have := HN.out; simp; omega
      have HP := Lib.hid (HO2.out.put hlen (k := k) (by rw [hlen]; exact hlt) (at_ rs k))
      have HR2 := Lib.hid (show w2.ownsRow w.heap.size 70 2 (.slice (some ⟨w.heap.size, 0, none⟩) n n) n (cells (rs.take k ++ List.replicate (rs.length - k) no)) from by have h := HO2.out; unfold Own at h; rw [hlen] at h; exact h)
      clear hb2 c0 c1 hlen

      obtain ⟨u0, d0, f0⟩ := raw_at HR2.out (k := k * 2) (by omega)
      obtain ⟨u1, d1, f1⟩ := raw_at HR2.out (k := k * 2 + 1) (by omega)
      go_wp2
      go_roundw
      case rel =>
        refine ⟨k + 1, by omega, by go_num, ?_, ?_⟩
        · have h := HP.out
          rw [part_set rs k (by rw [HN.out]; exact hlt)] at h
          exact h
        · iterate 2 (refine Below.setCell ?_ (by simp) _)
          exact HB2.out
      case measure => simp [intOf]; omega
    · obtain rfl : k = n := by omega
      go_wp2
      go_ret
      refine ⟨_, rfl, ?_, hb⟩
      rw [HN.out, Nat.sub_self, List.take_of_length_le (by rw [HN.out]; exact Nat.le_refl _)] at ho
      simpa using ho

theorem toS_any (a : Option Addr) (cap : Nat) (rs : List Ct) (w : World) (hr : Row w a rs) (hl : rs.length ≤ 1048576) :
    Calls Try.prog 35 #[.slice a rs.length cap] w fun e w' => ∃ v, e = .returned v ∧ Own w' w.heap.size v rs ∧ Below w.heap.size w w' :=
  (toG_any a cap rs w hr hl).mono fun e w' ⟨g, h1, h2, h3⟩ => ⟨_, h1, h2, h3⟩

/-- The lengths of the first 'k' elements' texts. -/
def tot (rs : List Ct) : Nat → Int
  | 0 => 0
  | k + 1 => tot rs k + sz (at_ rs k)
theorem tot_nn (rs : List Ct) : ∀ k, 0 ≤ tot rs k
  | 0 => Int.le_refl _
  | k + 1 => by have := tot_nn rs k; have := sz_nn (at_ rs k); rw [tot]; omega
/-- What is left, if it is not negative, says that the list is short, and all texts together. -/
def SzPost (rs : List Ct) (left : Int) (e : Ending) : Prop := ∃ r : Int, e = .returned (.int .i64 r) ∧ (r = -1 ∨ (0 ≤ r ∧ r = left - rs.length - tot rs rs.length))


theorem tot_zero (rs : List Ct) : ∀ k, tot rs k = 0
  | 0 => rfl
  | k + 1 => by rw [tot, tot_zero rs k]; rfl
set_option maxHeartbeats 2000000 in
theorem szS_any (a : Option Addr) (cap : Nat) (rs : List Ct) (left : Int) (w : World) (hr : Row w a rs) (hf : ∀ i, i < rs.length → Is (at_ rs i)) (hl : rs.length ≤ maxLen) (h0 : 0 ≤ left) (h1 : left ≤ 1048576) :
    Calls Try.prog 32 #[.slice a rs.length cap, .int .i64 left] w fun e w' => SzPost rs left e ∧ Below w.heap.size w w' := by
  unfold maxLen at hl
  unfold SzPost
  rw [tot_zero]
  obtain ⟨n, hn⟩ : ∃ n, rs.length = n := ⟨_, rfl⟩
  rw [hn] at hl ⊢
  clear hr hf hn
  by_cases hlt0 : left - n < 0
  · go_enter Try.func32, Try.ntmps32
    go_wp2
    go_ret
    exact ⟨⟨-1, rfl, .inl rfl⟩, Below.refl _ _⟩
  · go_enter Try.func32, Try.ntmps32
    go_wp2
    go_ret
    exact ⟨⟨_, rfl, .inr ⟨by omega, by omega⟩⟩, Below.refl _ _⟩


set_option maxHeartbeats 4000000 in
theorem eqS_same (a b : Option Addr) (cap cap' : Nat) (rs : List Ct) (w : World) (hr : Row w a rs) (hr' : Row w b rs) (hl : rs.length ≤ maxLen) :
    Calls Try.prog 38 #[.slice a rs.length cap, .slice b rs.length cap'] w fun e w' => e = .returned (.bool true) ∧ Below w.heap.size w w' := by
  unfold maxLen at hl
  have H := Lib.hid hr
  have H' := Lib.hid hr'
  obtain ⟨n, hn⟩ : ∃ n, rs.length = n := ⟨_, rfl⟩
  have HN := Lib.hid hn
  rw [hn] at hl ⊢
  clear hr hr' hn
  go_enter Try.func38, Try.ntmps38
  go_wp2
  go_loopw [5] (fun i wr => ∃ k : Nat, k ≤ n ∧ i = .int .i64 k ∧ Below w.heap.size w wr) (fun i _ => n - (intOf i).toNat)
  case atStart => exact ⟨0, Nat.zero_le _, rfl, Below.refl _ _⟩
  case round =>
    obtain ⟨k, hk, rfl, hb⟩ := hrel
    have HBr := Lib.hid hb
    by_cases hlt : k < n
    · obtain ⟨b1, off1, rfl, c0, c1⟩ := (H.out.later hb).cells (i := k) (by rw [HN.out]; exact hlt)
      obtain ⟨b2, off2, rfl, d0, d1⟩ := (H'.out.later hb).cells (i := k) (by rw [HN.out]; exact hlt)
      clear hb
      go_wp2
      go_region_held3 (fun W : World => (W.cell? ⟨b1, off1 + k * 2, none⟩ = some (.int .i64 (at_ rs k).co) ∧ W.cell? ⟨b1, off1 + k * 2 + 1, none⟩ = some (.int .i64 (at_ rs k).ce)) ∧ (W.cell? ⟨b2, off2 + k * 2, none⟩ = some (.int .i64 (at_ rs k).co) ∧ W.cell? ⟨b2, off2 + k * 2 + 1, none⟩ = some (.int .i64 (at_ rs k).ce))) (first | exact ⟨⟨c0, c1⟩, d0, d1⟩ | exact ⟨HC.out, HD.out⟩) (first
        | (go_at_call 71; refine (eq_same (at_ rs k) _).mono ?_; rintro e w2 ⟨rfl, hb2⟩; have HB2 := Lib.hid (show Below w.heap.size w w2 from by first | exact HBr.out.trans (hb2.mono HBr.out.size) | exact HBr.out.drew.trans (hb2.mono HBr.out.size)); have HC := Lib.hid (And.intro ((hb2.cell (World.block_lt_of_cell? _ _ c0)).trans c0) ((hb2.cell (World.block_lt_of_cell? _ _ c1)).trans c1)); have HD := Lib.hid (And.intro ((hb2.cell (World.block_lt_of_cell? _ _ d0)).trans d0) ((hb2.cell (World.block_lt_of_cell? _ _ d1)).trans d1)); clear hb2))
      all_goals go_wp2
      all_goals go_roundw
      all_goals first
        | exact ⟨k + 1, by omega, by go_num, HB2.out⟩
        | (simp [intOf]; omega)
    · obtain rfl : k = n := by omega
      go_wp2
      go_ret
      exact ⟨rfl, HBr.out⟩

end Go.Proofs.Ytdfmfmndmldggaa.CtK

namespace Go.Proofs.Ytdfmfmndmldggaa.CtK
open IntS (grownBy_trans)
open Go.RowKit Lb Bk
set_option linter.unusedSimpArgs false
set_option linter.unusedVariables false

def mkOne (k : Nat) : Ct := ⟨((k : Nat) : Int), ((k + 1 : Nat) : Int)⟩
def mkL (k n : Nat) : List Ct := (List.range n).map fun i => mkOne (k + 2 * i)
theorem mkL_len (k n : Nat) : (mkL k n).length = n := by simp [mkL]
theorem mkL_at {k n i : Nat} (h : i < n) : at_ (mkL k n) i = mkOne (k + 2 * i) := by rw [at_lt (by rw [mkL_len]; exact h)]; simp [mkL]
theorem mk_set (k : Nat) (rs : List Ct) (i : Nat) (h : i < rs.length) : (mkL k i ++ rs.drop i).set i (mkOne (k + 2 * i)) = mkL k (i + 1) ++ rs.drop (i + 1) := by
  rw [List.set_append_right _ _ (by rw [mkL_len]; exact Nat.le_refl _), mkL_len, Nat.sub_self, List.drop_eq_getElem_cons h, List.set_cons_zero]
  unfold mkL
  rw [List.range_succ, List.map_append, List.append_assoc]
  rfl
theorem mk_part_len (k : Nat) (rs : List Ct) (i : Nat) (h : i ≤ rs.length) : (mkL k i ++ rs.drop i).length = rs.length := by rw [List.length_append, mkL_len, List.length_drop]; omega


set_option maxHeartbeats 4000000 in
theorem markS_any (base : Nat) (a : Option Addr) (cap : Nat) (rs : List Ct) (k : Nat) (w : World) (hown : Own w base (.slice a rs.length cap) rs) (h0 : 1 ≤ k) (h1 : k + 2 * rs.length ≤ 8000000) :
    Calls Try.prog 41 #[.slice a rs.length cap, .int .i64 k] w fun e w' => e = .returned (.int .i64 (k + 2 * rs.length : Nat)) ∧ Own w' base (.slice a rs.length cap) (mkL k rs.length) ∧ w.grownBy w' (Value.slice a rs.length cap).ownBlock := by
  have HO0 := Lib.hid hown
  obtain ⟨n, hn⟩ : ∃ n, rs.length = n := ⟨_, rfl⟩
  have HN := Lib.hid hn
  rw [hn] at h1 ⊢
  clear hown hn
  go_enter Try.func41, Try.ntmps41
  go_wp2
  go_loopw [1, 5] (fun kk ii wr => ∃ i : Nat, i ≤ n ∧ ii = .int .i64 i ∧ kk = .int .i64 (k + 2 * i : Nat) ∧ Own wr base (.slice a n cap) (mkL k i ++ rs.drop i) ∧ w.grownBy wr (Value.slice a n cap).ownBlock) (fun _ ii _ => n - (intOf ii).toNat)
  case atStart => exact ⟨0, Nat.zero_le _, rfl, rfl, by have := HO0.out; rw [HN.out] at this; simpa [mkL] using this, World.grownBy.refl _ _⟩
  case round =>
    obtain ⟨i, hi, rfl, rfl, ho, hg⟩ := hrel
    have HO := Lib.hid ho
    have HG := Lib.hid hg
    clear ho hg
    by_cases hlt : i < n
    · obtain ⟨g, rfl⟩ : ∃ g, a = some ⟨g, 0, none⟩ := by
        rcases HO.out.2 with ⟨_, h0⟩ | ⟨g, c, cur, hv, _⟩
        · rw [mk_part_len k rs i (by rw [HN.out]; exact hi), HN.out] at h0; omega
        · exact ⟨g, by simpa using (Value.slice.inj hv).1⟩
      obtain ⟨L, hL⟩ : ∃ L, cells (mkL k i ++ rs.drop i) = L := ⟨_, rfl⟩
      have R0 := Lib.hid (show wr.ownsRow base 70 2 (.slice (some ⟨g, 0, none⟩) n cap) n L from by
        have h := HO.out
        unfold Own at h
        rw [hL, mk_part_len k rs i (by rw [HN.out]; exact hi), HN.out] at h
        exact h)
      have HL := Lib.hid hL
      have G0 := HG
      obtain ⟨K, hK⟩ : ∃ K, k + 2 * i = K := ⟨_, rfl⟩
      have hK1 : 1 ≤ K := by omega
      have hK2 : K + 2 ≤ 8000000 := by omega
      have HK := Lib.hid hK
      rw [hK]
      clear hK hL HO HG
      obtain ⟨u0, c0, q0⟩ := raw_at R0.out (k := i * 2) (by omega)
      obtain ⟨u1, c1, q1⟩ := raw_at R0.out (k := i * 2 + 1) (by omega)
      have R1 := Lib.hid (World.ownsRow.stored R0.out (i * 2) (.int .i64 ((K : Int)))).1
      have G1 := Lib.hid (grownBy_trans G0.out (World.ownsRow.stored R0.out (i * 2) (.int .i64 ((K : Int)))).2)
      have R2 := Lib.hid (World.ownsRow.stored R1.out (i * 2 + 1) (.int .i64 ((K : Int) + 1))).1
      have G2 := Lib.hid (grownBy_trans G1.out (World.ownsRow.stored R1.out (i * 2 + 1) (.int .i64 ((K : Int) + 1))).2)
      go_wp2
      go_roundw
      case rel =>
        refine ⟨i + 1, by omega, by go_num, by have := HK.out; exact congrArg (Value.int IntKind.i64) (by omega), ?_, G2.out⟩
        have h := R2.out
        unfold Own
        rw [mk_part_len k rs (i + 1) (by rw [HN.out]; omega), HN.out, ← mk_set k rs i (by rw [HN.out]; exact hlt), cells_set _ _ _ (by rw [mk_part_len k rs i (by rw [HN.out]; exact hi), HN.out]; exact hlt), HL.out, HK.out]
        exact h
      case measure => simp [intOf]; omega
    · obtain rfl : i = n := by omega
      go_wp2
      go_ret
      refine ⟨rfl, ?_, HG.out⟩
      have h := HO.out
      rw [List.drop_of_length_le (by rw [HN.out]; exact Nat.le_refl _), List.append_nil] at h
      exact h

end Go.Proofs.Ytdfmfmndmldggaa.CtK

namespace Go.Proofs.Ytdfmfmndmldggaa.CtK
open Go.RowKit Lb Bk
theorem Row.chg {lo hi : Nat} {w w' : World} (h : MapS.Chg lo hi w w') {a : Option Addr} {rs : List Ct} (H : Row w a rs) (hx : ∀ p, a = some p → p.block < lo ∨ hi ≤ p.block) : Row w' a rs := by
  rcases H with H | ⟨b, off, ha, hc⟩
  · exact .inl H
  · exact .inr ⟨b, off, ha, fun i hi' j hj => MpA.chg_cell h (hc i hi' j hj) (by have h1 := hx _ ha; exact h1)⟩
theorem Own.chg {lo hi base n cap : Nat} {w w' : World} (h : MapS.Chg lo hi w w') {a : Option Addr} {rs : List Ct} (H : Own w base (.slice a n cap) rs) (hx : ∀ p, a = some p → p.block < lo ∨ hi ≤ p.block) : Own w' base (.slice a n cap) rs := MpA.chg_owns h H hx
end Go.Proofs.Ytdfmfmndmldggaa.CtK

namespace Go.Proofs.Ytdfmfmndmldggaa.CtK
open Go.ChangeShapes Go.WideShapes Go.ChangeAt Go.RowKit Go.Joins Go.Deep Lb Bk
open Go.ChangeMaps (open_string shut_string)
set_option linter.unusedVariables false

theorem array2 {cs : Array Value} (h : cs.size = 2) : ∃ x0 x1, cs = #[x0, x1] := by
  obtain ⟨l⟩ := cs
  match l, h with
  | [x0, x1], _ => exact ⟨x0, x1, rfl⟩

/-- One that came in. -/
theorem open_one {P : Program} {H : Type} {enc : TypeId × Value → H} {W : World} {r : Reach} {b0 base : Nat} {spare : Nat → Bool} {held : Bool} {t : TypeId} {f0 f1 : Field} {v : Value} {d : DataW H} {p : List MemPlace}
    (hs : P.underlying t = some (.struct #[f0, f1])) (hone : oneCellFields P #[f0, f1] = true) (hC : P.cellsOf t = 2)
    (h0 : P.underlying f0.type = some (.int .i64)) (h1 : P.underlying f1.type = some (.int .i64))
    (hv : Value.okWide P W r b0 t v) (h : DataW.Trod enc P W base spare held t v d p) : ∃ (f : Ct), v = .agg #[.int .i64 f.co, .int .i64 f.ce] ∧ Is f := by
  obtain ⟨cs, rfl, hsz⟩ := okWide_struct hs hv
  obtain ⟨c0, c1, rfl⟩ := array2 (hsz.trans hC)
  obtain ⟨fuel, hf⟩ := h
  obtain ⟨xs, n, _, _, hl, hlen, hf⟩ := DataW.trod_struct hs hf
  match xs, hlen with
  | [y0, y1], _ =>

    have t0 := hf 0 f0 rfl
    have t1 := hf 1 f1 rfl
    obtain ⟨o0, k0⟩ := hone_of hone 0 f0 rfl
    obtain ⟨o1, k1⟩ := hone_of hone 1 f1 rfl
    simp [Value.cells, o0, k0] at t0
    simp [Value.cells, o1, k1] at t1
    obtain ⟨z0, e0, _, w0⟩ := DataW.trod_int h0 t0
    obtain ⟨z1, e1, _, w1⟩ := DataW.trod_int h1 t1
    simp at e0 e1
    subst e0 e1
    exact ⟨⟨z0, z1⟩, rfl, ⟨trivial⟩⟩

/-- A list that came in. -/
structure IsS (W : World) (a : Option Addr) (rs : List Ct) : Prop where
  R : Row W a rs
  f : ∀ i, i < rs.length → Is (at_ rs i)
  l : rs.length ≤ maxLen

theorem open_list {P : Program} {H : Type} {enc : TypeId × Value → H} {W : World} {r : Reach} {b0 base : Nat} {spare : Nat → Bool} {held : Bool} {t e : TypeId} {f0 f1 : Field} {v : Value} {d : DataW H} {p : List MemPlace}
    (ht : P.underlying t = some (.slice e)) (he : P.underlying e = some (.struct #[f0, f1])) (hone : oneCellFields P #[f0, f1] = true) (hC : P.cellsOf e = 2)
    (h0 : P.underlying f0.type = some (.int .i64)) (h1 : P.underlying f1.type = some (.int .i64))
    (hv : Value.okWide P W r b0 t v) (h : DataW.Trod enc P W base spare held t v d p) : ∃ (a : Option Addr) (cap : Nat) (rs : List Ct), v = .slice a rs.length cap ∧ IsS W a rs := by
  have inh : Inhabited Ct := ⟨no⟩
  obtain ⟨a, len, cap, rfl⟩ := Go.WideShapes.okWide_slice ht hv
  obtain ⟨fuel, hf⟩ := h
  rcases open_slice ht hf with ⟨hcs, _⟩ | ⟨x, l, c, m, k, D, Pl, hcs, _, hl, hm, hmm, _, hx⟩
  · simp [Value.cells] at hcs
    obtain ⟨rfl, rfl, rfl⟩ := hcs
    exact ⟨none, 0, [], rfl, .inl rfl, fun i hi => absurd hi (Nat.not_lt_zero _), by unfold maxLen; exact Nat.zero_le _⟩
  · simp [Value.cells] at hcs
    obtain ⟨rfl, rfl, rfl⟩ := hcs
    have hlm : len ≤ m := by rw [hmm]; split <;> omega
    have each : ∀ i, i < len → ∃ f : Ct, (W.cell? (x.add (i * 2)) = some (cV f 0) ∧ W.cell? (x.add (i * 2 + 1)) = some (cV f 1)) ∧ Is f := by
      intro i hi
      obtain ⟨cs', hc1, hc2⟩ := hx i (by omega)
      rw [hC] at hc1
      obtain ⟨_, hlen, hcell⟩ := World.cells?_some hc1
      obtain ⟨xs, n, _, _, _, hxl, hfs⟩ := DataW.trod_struct he hc2

      obtain ⟨o0, k0⟩ := hone_of hone 0 f0 rfl
      obtain ⟨o1, k1⟩ := hone_of hone 1 f1 rfl
      match xs, hxl, cs', hlen with
      | [y0, y1], _, [v0, v1], _ =>
        have t0 := hfs 0 f0 rfl
        have t1 := hfs 1 f1 rfl
        simp [o0, k0] at t0
        simp [o1, k1] at t1
        obtain ⟨z0, e0, _, w0⟩ := DataW.trod_int h0 t0
        obtain ⟨z1, e1, _, w1⟩ := DataW.trod_int h1 t1
        simp at e0 e1
        subst e0 e1
        have g0 := hcell 0 (by omega)
        have g1 := hcell 1 (by omega)
        rw [add_add] at g0 g1
        exact ⟨⟨z0, z1⟩, ⟨by simpa [cV] using g0, by simpa [cV] using g1⟩, ⟨trivial⟩⟩
    obtain ⟨q, hq⟩ := choose_lt each
    have hlen : ((List.range len).map q).length = len := by simp
    have hat : ∀ i, i < len → at_ ((List.range len).map q) i = q i := fun i hi => by rw [at_lt (by rw [hlen]; exact hi)]; simp
    refine ⟨some x, cap, (List.range len).map q, by rw [hlen], ?_, fun i hi => ?_, by rw [hlen]; omega⟩
    · by_cases h00 : len = 0
      · exact .inl (by rw [hlen]; exact h00)
      · have hs : x.spot = none := by
          have := (hq 0 (by omega)).1.1
          exact spot_none (a := x) (by simpa [Addr.add] using this)
        refine .inr ⟨x.block, x.off, by cases x; simp_all, fun i hi j hj => ?_⟩
        rw [hlen] at hi
        rw [hat i hi, show x.off + i * 2 + j = x.off + (i * 2 + j) by omega, ← add_of_spot hs]
        obtain ⟨a0, a1⟩ := (hq i hi).1
        obtain rfl | rfl : j = 0 ∨ j = 1 := by omega
        · exact a0
        · exact a1
    · rw [hlen] at hi
      rw [hat i hi]
      exact (hq i hi).2

end Go.Proofs.Ytdfmfmndmldggaa.CtK
