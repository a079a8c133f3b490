/- The least times from a cell: what the program's search has in memory. -/
import Derived.Test.YtdfmfmndmldggaaBaN
import Derived.ScopeJumps
import Derived.Deep.MidRow
namespace Go.Proofs.Ytdfmfmndmldggaa.DjkB
open Go.RowKit Lb IntS MapS MapV High Cells StepT StpF SpecB
set_option linter.unusedSimpArgs false
set_option linter.unusedVariables false

/-- Jumps back to one label, with a number that every pass lowers. -/
theorem wp_scope_ghost {P : Program} {a : Act} {w : World} {Q : Exit → Act → World → Prop} {c rest : Code} (l : Nat) (J : Nat → Act → World → Prop) (hf : findLabel c l = some rest)
    (first : c.wp P (Exit.jump l (fun a w => ∃ n, J n a w) Q) a w)
    (pass : ∀ n a w, J n a w → rest.wp P (Exit.jump l (fun a' w' => ∃ n', J n' a' w' ∧ n' < n) Q) a w) : (Code.scope c).wp P Q a w := by
  have least : ∀ (n : Nat) (a : Act) (w : World), J n a w → ∃ k, J k a w ∧ ∀ j, J j a w → k ≤ j := by
    intro n
    induction n using Nat.strongRecOn with
    | _ n ih =>
      intro a w h
      by_cases hc : ∃ j, j < n ∧ J j a w
      · obtain ⟨j, hj, hJ⟩ := hc
        exact ih j hj a w hJ
      · exact ⟨n, h, fun j hJ => Nat.le_of_not_lt fun hlt => hc ⟨j, hlt, hJ⟩⟩
  classical
  refine wp_scope_jumps l (fun a w => ∃ n, J n a w) (fun a w => if h : ∃ n, J n a w then (least h.choose a w h.choose_spec).choose else 0) hf first ?_
  intro a w hJ
  have hs := (least hJ.choose a w hJ.choose_spec).choose_spec
  refine Code.wp_mono ?_ (pass _ a w hs.1)
  intro e a' w' h
  cases e with
  | goto l' =>
    obtain ⟨h1, n', h2, h3⟩ := h
    refine ⟨h1, ⟨n', h2⟩, ?_⟩
    have hx : ∃ n, J n a' w' := ⟨n', h2⟩
    have hs' := (least hx.choose a' w' hx.choose_spec).choose_spec
    have := hs'.2 n' h2
    rw [dif_pos hx, dif_pos hJ]
    omega
  | normal => exact h
  | exit id => exact h
  | ret => exact h
  | panic ch => exact h
  | outgrown => exact h

/-- The same, where the way to the label goes on by what is shown of the passes. -/
theorem wp_scope_pass {P : Program} {a : Act} {w : World} {Q : Exit → Act → World → Prop} {c rest : Code} (l : Nat) (J : Nat → Act → World → Prop) (hf : findLabel c l = some (.seq .skip rest))
    (pass : ∀ n a w, J n a w → rest.wp P (Exit.jump l (fun a' w' => ∃ n', J n' a' w' ∧ n' < n) Q) a w)
    (first : (∀ n a w, J n a w → rest.wp P (Exit.jump l (fun a w => ∃ n, J n a w) Q) a w) → c.wp P (Exit.jump l (fun a w => ∃ n, J n a w) Q) a w) : (Code.scope c).wp P Q a w := by
  refine wp_scope_ghost l J hf (first fun n a w h => Code.wp_mono ?_ (pass n a w h)) fun n a w h => wp_seq (wp_skip (pass n a w h))
  intro e a' w' h
  cases e with
  | goto l' => obtain ⟨h1, n', h2, _⟩ := h; exact ⟨h1, n', h2⟩
  | normal => exact h
  | exit id => exact h
  | ret => exact h
  | panic ch => exact h
  | outgrown => exact h

/-- An array of 36 times; of 36 bits. -/
def timeCs (tm : Nat → Int) : Array Value := ((List.range 36).map fun i => Value.int .i64 (tm i)).toArray
def bitCs (sb : Nat → Bool) : Array Value := ((List.range 36).map fun i => Value.bool (sb i)).toArray
theorem timeCs_set (tm : Nat → Int) (j : Nat) (v : Int) : (timeCs tm).setIfInBounds j (.int .i64 v) = timeCs (upd tm j v) := by
  unfold timeCs upd
  apply Array.ext
  · simp
  · intro i h1 h2
    simp only [Array.size_setIfInBounds, List.size_toArray, List.length_map, List.length_range] at h1
    by_cases e : j = i
    · subst e; simp [Array.getElem_setIfInBounds]
    · simp [Array.getElem_setIfInBounds, e, show ¬ i = j by omega]
theorem timeCs_congr {tm tn : Nat → Int} (h : ∀ j, j < 36 → tm j = tn j) : timeCs tm = timeCs tn := by
  unfold timeCs
  congr 1
  exact List.map_congr_left fun i hi => by rw [h i (by simpa using hi)]
theorem bitCs_set (sb : Nat → Bool) (j : Nat) : (bitCs sb).setIfInBounds j (.bool true) = bitCs (setT sb j) := by
  unfold bitCs setT
  apply Array.ext
  · simp
  · intro i h1 h2
    simp only [Array.size_setIfInBounds, List.size_toArray, List.length_map, List.length_range] at h1
    by_cases e : j = i
    · subst e; simp [Array.getElem_setIfInBounds]
    · simp [Array.getElem_setIfInBounds, e, show (i == j) = false by simp; omega]
theorem time_cell {w : World} {g : Nat} {t : TypeId} {tm : Nat → Int} (h : Blk w g t (timeCs tm)) {j : Nat} (hj : j < 36) : w.cell? ⟨g, j, none⟩ = some (.int .i64 (tm j)) ∧ w.frozen? ⟨g, j, none⟩ = false := by
  unfold Blk at h
  constructor
  · simp [World.cell?, h, timeCs, hj]
  · simp [World.frozen?, h]
theorem bit_cell {w : World} {g : Nat} {t : TypeId} {sb : Nat → Bool} (h : Blk w g t (bitCs sb)) {j : Nat} (hj : j < 36) : w.cell? ⟨g, j, none⟩ = some (.bool (sb j)) ∧ w.frozen? ⟨g, j, none⟩ = false := by
  unfold Blk at h
  constructor
  · simp [World.cell?, h, bitCs, hj]
  · simp [World.frozen?, h]

/-- What stands while the times are spread: ahead of the bits, and with them. -/
structure Tw (w : World) (box : Array Value) (tm : Nat → Int) (wr : World) : Prop where
  b : Below w.heap.size w wr
  box : Blk wr w.heap.size 26 box
  res : Blk wr (w.heap.size + 1) 111 (timeCs fun _ => 0)
  tms : Blk wr (w.heap.size + 1 + 1) 111 (timeCs tm)
structure Sw (w : World) (box : Array Value) (tm : Nat → Int) (sb : Nat → Bool) (wr : World) : Prop where
  t : Tw w box tm wr
  bits : Blk wr (w.heap.size + 1 + 1 + 1) 122 (bitCs sb)
theorem Tw.later {w : World} {box : Array Value} {tm : Nat → Int} {wr w' : World} (h : Tw w box tm wr) (hb : Below wr.heap.size wr w') : Tw w box tm w' :=
  ⟨h.b.trans (hb.mono h.b.size), h.box.later hb, h.res.later hb, h.tms.later hb⟩
theorem Tw.put {w : World} {box : Array Value} {tm : Nat → Int} {wr : World} (h : Tw w box tm wr) (j : Nat) (v : Int) : Tw w box (upd tm j v) (wr.setCell ⟨w.heap.size + 1 + 1, j, none⟩ (.int .i64 v)) :=
  ⟨h.b.setCell (by show w.heap.size ≤ w.heap.size + 1 + 1; omega) _, h.box.far (by show w.heap.size ≠ w.heap.size + 1 + 1; omega) _, h.res.far (by show w.heap.size + 1 ≠ w.heap.size + 1 + 1; omega) _, by rw [← timeCs_set]; exact h.tms.set_ j _⟩
theorem Tw.same {w : World} {box : Array Value} {tm tn : Nat → Int} {wr : World} (h : Tw w box tm wr) (he : ∀ j, j < 36 → tm j = tn j) : Tw w box tn wr := ⟨h.b, h.box, h.res, by rw [← timeCs_congr he]; exact h.tms⟩
theorem Tw.bits {w : World} {box : Array Value} {tm : Nat → Int} {wr : World} (h : Tw w box tm wr) (hs : wr.heap.size = w.heap.size + 1 + 1 + 1) : Sw w box tm (fun _ => false) (wr.alloc (.cells (bitCs fun _ => false) 122)) :=
  ⟨h.later ((Below.refl _ _).alloc (Nat.le_refl _) _), by have := Blk.new wr 122 (bitCs fun _ => false); rwa [hs] at this⟩
theorem Sw.later {w : World} {box : Array Value} {tm : Nat → Int} {sb : Nat → Bool} {wr w' : World} (h : Sw w box tm sb wr) (hb : Below wr.heap.size wr w') : Sw w box tm sb w' := ⟨h.t.later hb, h.bits.later hb⟩
theorem Sw.drew {w : World} {box : Array Value} {tm : Nat → Int} {sb : Nat → Bool} {wr : World} (h : Sw w box tm sb wr) : Sw w box tm sb wr.drew := h.later (Below.refl _ _).drew
theorem Sw.put {w : World} {box : Array Value} {tm : Nat → Int} {sb : Nat → Bool} {wr : World} (h : Sw w box tm sb wr) (j : Nat) (v : Int) : Sw w box (upd tm j v) sb (wr.setCell ⟨w.heap.size + 1 + 1, j, none⟩ (.int .i64 v)) :=
  ⟨h.t.put j v, h.bits.far (by show w.heap.size + 1 + 1 + 1 ≠ w.heap.size + 1 + 1; omega) _⟩
theorem Sw.bit {w : World} {box : Array Value} {tm : Nat → Int} {sb : Nat → Bool} {wr : World} (h : Sw w box tm sb wr) (j : Nat) : Sw w box tm (setT sb j) (wr.setCell ⟨w.heap.size + 1 + 1 + 1, j, none⟩ (.bool true)) :=
  ⟨⟨h.t.b.setCell (by show w.heap.size ≤ w.heap.size + 1 + 1 + 1; omega) _, h.t.box.far (by show w.heap.size ≠ w.heap.size + 1 + 1 + 1; omega) _, h.t.res.far (by show w.heap.size + 1 ≠ w.heap.size + 1 + 1 + 1; omega) _, h.t.tms.far (by show w.heap.size + 1 + 1 ≠ w.heap.size + 1 + 1 + 1; omega) _⟩, by rw [← bitCs_set]; exact h.bits.set_ j _⟩
theorem Sw.bm {w : World} {box : Array Value} {tm : Nat → Int} {sb : Nat → Bool} {wr : World} (h : Sw w box tm sb wr) {gb : Nat} {m : Mp} {a b : Option Addr} {ca cb : Nat} (H : Bm w gb m a b ca cb) : Bm wr gb m a b ca cb := H.later h.t.b

theorem far_cell {w : World} {box : Array Value} {tm : Nat → Int} {sb : Nat → Bool} {wr : World} (h : Sw w box tm sb wr) {y c : Nat} (hc : c < 36) (hne : y ≠ c) (v : Int) :
    (wr.setCell ⟨w.heap.size + 1 + 1, y, none⟩ (.int .i64 v)).cell? ⟨w.heap.size + 1 + 1, c, none⟩ = some (.int .i64 (tm c)) := by
  have := (time_cell (h.put y v).t.tms hc).1
  rwa [upd_ne (Ne.symm hne)] at this
theorem nx_ne {m : Mp} {ww hh : Nat} (g : GoodM m ww hh) {c y : Nat} (hc : c < ww * hh) (hy : y ∈ nx m c) : y ≠ c := by
  rintro rfl
  have := (mem_near g.w1 hc).1 ((mem_nx g).1 hy).1
  omega
theorem irow_of {w : World} {base cap : Nat} {a : Option Addr} {l : List Nat} (h : OwnI w base (.slice a l.length cap) (ints l)) : IRow w a (ints l) := by
  have e : l.length = (ints l).length := (ints_length l).symm
  rw [e] at h
  exact OwnI.row h
theorem put_row {w : World} {box : Array Value} {tm : Nat → Int} {sb : Nat → Bool} {wr : World} (h : Sw w box tm sb wr) {base : Nat} {v : Value} {zs : List Int} (hv : OwnI wr base v zs) (y : Nat) (u : Int) : OwnI (wr.setCell ⟨w.heap.size + 1 + 1, y, none⟩ (.int .i64 u)) base v zs :=
  own_far hv h.t.tms (by decide) _
def timeL (tm : Nat → Int) : List Value := (List.range 36).map fun i => Value.int .i64 (tm i)
theorem timeL_len (tm : Nat → Int) : (timeL tm).length = 36 := by simp [timeL]
theorem timeS_len (tm : Nat → Int) : (timeL tm).toArray.size = 36 := by simp [timeL]
theorem timeL_one {tm : Nat → Int} : ∀ v ∈ timeL tm, v.oneCell' = true := fun v hv => by
  obtain ⟨i, _, rfl⟩ := List.mem_map.1 hv
  rfl
theorem results_cell {fn : Func} {p : Tmp} {ty : TypeId} (h : fn.results = #[.cell p ty]) (tmps : Array Value) (P : Program) (w : World) (b : Nat) (v : Value) (hp : tmps.getD p undef = .pointer (some ⟨b, 0, none⟩)) (hl : (loadVar ty ⟨b, 0, none⟩).run P w = .ok v w) : (results fn tmps).run P w = .ok v w := by
  simp only [results, h]
  simp only [Array.getD_eq_getD_getElem?] at hp
  simp [Sem.run_bind, Result.andThen, hp, asAddr, hl]
theorem blk_range {w : World} {g : Nat} {t : TypeId} {tm : Nat → Int} (h : Blk w g t (timeCs tm)) : w.rangeAt g 0 (timeL tm) := by
  intro j v hv
  have hj : j < 36 := by
    have := (List.getElem?_eq_some_iff.1 hv).1
    rwa [timeL_len] at this
  rw [Nat.zero_add, (time_cell h hj).1, ← hv]
  simp [timeL, hj]
theorem blk_there {w : World} {g : Nat} {t : TypeId} {tm : Nat → Int} (h : Blk w g t (timeCs tm)) : w.there g 0 36 := by
  intro j hj
  rw [Nat.zero_add, (time_cell h hj).1, (time_cell h hj).2]
  exact ⟨rfl, rfl⟩
theorem info_times : (Try.prog.info? 111).map (·.size) = some 36 := by kernel_rfl
theorem load_times {w : World} {g : Nat} {t : TypeId} {tm : Nat → Int} (h : Blk w g t (timeCs tm)) : (Instr.loadAt 111 (.pointer (some ⟨g, 0, none⟩))).run Try.prog w = .ok (.agg (timeCs tm)) w :=
  run_loadAt_mid w g 0 111 (timeL tm) _ (blk_range h) Try.underlying111 rfl (by rw [timeL_len]; exact info_times)
theorem store_times {w : World} {g : Nat} {t : TypeId} {tm tn : Nat → Int} (h : Blk w g t (timeCs tm)) : (Instr.storeAt 111 (.pointer (some ⟨g, 0, none⟩)) (.agg (timeCs tn))).run Try.prog w = .ok () (w.setCells g 0 (timeL tn)) := by
  have hs : (timeCs tn).size = 36 := by simp [timeCs]
  have := run_storeAt_mid (P := Try.prog) w g 0 111 (timeCs tn) (by rw [hs]; exact blk_there h) (by rw [hs]; exact info_times) (all_oneCell_toArray fun v hv => by
    obtain ⟨i, _, rfl⟩ := List.mem_map.1 hv
    rfl)
  rwa [show (timeCs tn).toList = timeL tn from by simp [timeCs, timeL]] at this
/-- A row of stores into one block. -/
theorem setCells_blk {g : Nat} {t : TypeId} : ∀ (vs : List Value) (o : Nat) (w : World) (cs : Array Value), Blk w g t cs → ∃ cs', Blk (w.setCells g o vs) g t cs' ∧ cs'.size = cs.size ∧ (∀ j, j < o ∨ o + vs.length ≤ j → cs'[j]? = cs[j]?) ∧ ∀ j, j < vs.length → o + j < cs.size → cs'[o + j]? = vs[j]?
  | [], o, w, cs, h => ⟨cs, h, rfl, fun _ _ => rfl, fun j hj => by simp at hj⟩
  | v :: r, o, w, cs, h => by
    obtain ⟨cs', h1, h2, h3, h4⟩ := setCells_blk r (o + 1) _ _ (h.set_ o v)
    refine ⟨cs', h1, by simpa using h2, fun j hj => ?_, fun j hj hs => ?_⟩
    · have hjo : j ≠ o := by simp at hj; omega
      rw [h3 j (by simp at hj; omega)]
      simp [Array.getElem?_setIfInBounds, Ne.symm hjo]
    · cases j with
      | zero =>
        rw [h3 (o + 0) (by omega)]
        simp [Array.getElem?_setIfInBounds] at hs ⊢
        omega
      | succ j =>
        have := h4 j (by simpa using hj) (by simp; omega)
        rw [show o + (j + 1) = o + 1 + j by omega, this]
        rfl
theorem setCells_far {g p : Nat} {t : TypeId} (hne : p ≠ g) : ∀ (vs : List Value) (o : Nat) (w : World) (cs : Array Value), Blk w p t cs → Blk (w.setCells g o vs) p t cs
  | [], o, w, cs, h => h
  | v :: r, o, w, cs, h => setCells_far hne r (o + 1) _ _ (h.far (by show p ≠ g; exact hne) v)
theorem setCells_below {B g : Nat} {w0 : World} (hg : B ≤ g) : ∀ (vs : List Value) (o : Nat) (w : World), Below B w0 w → Below B w0 (w.setCells g o vs)
  | [], o, w, h => h
  | v :: r, o, w, h => setCells_below hg r (o + 1) _ (h.setCell (by show B ≤ g; exact hg) v)
theorem blk_times {w : World} {g : Nat} {t : TypeId} {tm tn : Nat → Int} (h : Blk w g t (timeCs tm)) : Blk (w.setCells g 0 (timeL tn)) g t (timeCs tn) := by
  obtain ⟨cs', h1, h2, h3, h4⟩ := setCells_blk (timeL tn) 0 w (timeCs tm) h
  have hs : (timeCs tm).size = 36 := by simp [timeCs]
  have e : cs' = timeCs tn := by
    apply Array.ext_getElem?
    intro j
    by_cases hj : j < 36
    · have := h4 j (by rw [timeL_len]; exact hj) (by rw [hs]; omega)
      rw [Nat.zero_add] at this
      rw [this]
      simp [timeL, timeCs, hj]
    · rw [Array.getElem?_eq_none (by omega), Array.getElem?_eq_none (by simp [timeCs]; omega)]
  subst e
  exact h1
theorem Sw.load {w : World} {box : Array Value} {tm : Nat → Int} {sb : Nat → Bool} {wr : World} (h : Sw w box tm sb wr) : (Instr.loadAt 111 (.pointer (some ⟨w.heap.size + 1 + 1, 0, none⟩))).run Try.prog wr = .ok (.agg (timeCs tm)) wr := load_times h.t.tms
theorem Sw.store {w : World} {box : Array Value} {tm : Nat → Int} {sb : Nat → Bool} {wr : World} (h : Sw w box tm sb wr) : (Instr.storeAt 111 (.pointer (some ⟨w.heap.size + 1, 0, none⟩)) (.agg (timeCs tm))).run Try.prog wr = .ok () (wr.setCells (w.heap.size + 1) 0 (timeL tm)) := store_times h.t.res
theorem Sw.stored {w : World} {box : Array Value} {tm : Nat → Int} {sb : Nat → Bool} {wr : World} (h : Sw w box tm sb wr) : Blk (wr.setCells (w.heap.size + 1) 0 (timeL tm)) (w.heap.size + 1) 111 (timeCs tm) ∧ Below w.heap.size w (wr.setCells (w.heap.size + 1) 0 (timeL tm)) :=
  have h1 : w.heap.size ≤ w.heap.size + 1 := Nat.le_succ _
  ⟨blk_times h.t.res, setCells_below (g := w.heap.size + 1) h1 (timeL tm) 0 wr h.t.b⟩
theorem ret_times {w : World} {g : Nat} {t : TypeId} {tm : Nat → Int} (h : Blk w g t (timeCs tm)) {fn : Func} {p : Tmp} (hf : fn.results = #[.cell p 111]) (tmps : Array Value) (hp : tmps.getD p undef = .pointer (some ⟨g, 0, none⟩)) : (results fn tmps).run Try.prog w = .ok (.agg (timeCs tm)) w :=
  results_cell hf tmps Try.prog w g _ hp (run_loadVar_mid w g 0 111 (timeL tm) _ (blk_range h) Try.underlying111 rfl (by rw [timeL_len]; exact info_times))
end Go.Proofs.Ytdfmfmndmldggaa.DjkB
