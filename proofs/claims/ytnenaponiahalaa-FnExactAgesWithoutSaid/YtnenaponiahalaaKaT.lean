/- Tables of pairs that grow: a list of lists of two numbers, of the call's own. -/
import Derived.Test.YtnenaponiahalaaTblS
import Derived.Test.YtnenaponiahalaaPrtB
import Derived.Deep.AppendLies
namespace Go.Proofs.Ytnenaponiahalaa.KaT
open Go.RowKit Lb IntS SpecB TblS PrtB
set_option linter.unusedSimpArgs false
set_option linter.unusedVariables false

def zsP (l : List (Nat × Nat)) (i : Nat) : List Int := [((l.getD i (0, 0)).1 : Int), ((l.getD i (0, 0)).2 : Int)]
theorem zsP_len (l : List (Nat × Nat)) (i : Nat) : (zsP l i).length = 2 := rfl
theorem zsP_app {l : List (Nat × Nat)} {p : Nat × Nat} {i : Nat} (h : i < l.length) : zsP (l ++ [p]) i = zsP l i := by
  unfold zsP
  rw [List.getD_eq_getElem?_getD, List.getD_eq_getElem?_getD, List.getElem?_append_left h]
theorem zsP_last (l : List (Nat × Nat)) (p : Nat × Nat) : zsP (l ++ [p]) l.length = [(p.1 : Int), (p.2 : Int)] := by
  unfold zsP
  rw [List.getD_eq_getElem?_getD]
  simp
/-- The table stands. -/
structure Tg (w : World) (v : Value) (l : List (Nat × Nat)) (rs : Nat → Value) (wr : World) : Prop where
  b : Below w.heap.size w wr
  own : OwnP wr w.heap.size v l.length (zsP l) rs
theorem Tg.below {w : World} {v : Value} {l : List (Nat × Nat)} {rs : Nat → Value} {wr w' : World} (h : Tg w v l rs wr) (hb : Below wr.heap.size wr w') : Tg w v l rs w' := ⟨h.b.trans (hb.mono h.b.size), h.own.below hb⟩
theorem Tg.alloc {w : World} {v : Value} {l : List (Nat × Nat)} {rs : Nat → Value} {wr : World} (h : Tg w v l rs wr) (o : Obj) : Tg w v l rs (wr.alloc o) := h.below ((Below.refl _ _).alloc (Nat.le_refl _) _)
theorem Tg.start {w wr : World} (hb : Below w.heap.size w wr) : Tg w (.slice (some ⟨wr.heap.size, 0, none⟩) 0 0) [] (fun _ => undef) (wr.alloc (.cells #[] 24)) :=
  ⟨hb.alloc hb.size _, ownP_nil wr w _ _ hb.size⟩
theorem own_two (w : World) (base : Nat) (a b : Int) (h : base ≤ w.heap.size) : OwnI (w.alloc (.cells #[.int .i64 a, .int .i64 b] 3)) base (.slice (some ⟨w.heap.size, 0, none⟩) 2 2) [a, b] :=
  ⟨by simp, .inr ⟨w.heap.size, 2, #[.int .i64 a, .int .i64 b], rfl, h, heap_alloc_new w _, Nat.le_refl _, by decide, rfl, by simp⟩⟩
theorem Tg.push {w : World} {v v' vq : Value} {l : List (Nat × Nat)} {rs : Nat → Value} {a b : Nat} {s : Nat} {wr w' : World} (h : Tg w v l rs wr) (hq : OwnI wr s vq [(a : Int), (b : Int)]) (hs : w.heap.size ≤ s) (hlow : ∀ i, i < l.length → ∀ x, (rs i).ownBlock = some x → x < s)
    (ho : w'.ownsRow w.heap.size 24 1 v' (l.length + 1) ((List.range l.length).map rs ++ [vq])) (hg : wr.grownBy w' v.ownBlock) : Tg w v' (l ++ [(a, b)]) (fun i => if i = l.length then vq else rs i) w' := by
  refine ⟨h.b.grown hg h.b.size (fun k e => (World.ownsRow.lt h.own.tbl k e).1), ?_⟩
  rw [List.length_append]
  exact PrtB.push h.own hq hs hlow ho hg (fun i hi => zsP_app hi) (zsP_last l (a, b))
theorem Tg.low {w : World} {v : Value} {l : List (Nat × Nat)} {rs : Nat → Value} {wr : World} (h : Tg w v l rs wr) : ∀ i, i < l.length → ∀ x, (rs i).ownBlock = some x → x < wr.heap.size := fun i hi x e => (World.ownsRow.lt (h.own.row i hi) x e).2
/-- A row of numbers stands when a cell of the table is set. -/
theorem row_kept {w : World} {base base' g n n' cap j : Nat} {v : Value} {zs : List Int} {xs : List Value} (h : OwnI w base v zs) (ht : w.ownsRow base' 24 1 (.slice (some ⟨g, 0, none⟩) n cap) n' xs) (u : Value) : OwnI (w.setCell ⟨g, j, none⟩ u) base v zs := by
  have hne := own_own_ne ht h (by decide)
  unfold OwnI at h ⊢
  refine ⟨h.1, ?_⟩
  rcases h.2 with h2 | ⟨g', c', cur, hv, hg, hh, r⟩
  · exact .inl h2
  · refine .inr ⟨g', c', cur, hv, hg, (Below.heap_setCell w ⟨g, j, none⟩ u g' ?_).trans hh, r⟩
    intro e
    exact hne g g' rfl (by rw [hv]; rfl) e.symm
/-- The last one is replaced by a new one. -/
theorem Tg.repl {w : World} {g n cap : Nat} {vq : Value} {l : List (Nat × Nat)} {p : Nat × Nat} {rs : Nat → Value} {a b s : Nat} {wr : World} (h : Tg w (.slice (some ⟨g, 0, none⟩) n cap) (l ++ [p]) rs wr) (hn : n = l.length + 1) (hq : OwnI wr s vq [(a : Int), (b : Int)]) (hs : w.heap.size ≤ s) (hlow : ∀ i, i < l.length + 1 → ∀ x, (rs i).ownBlock = some x → x < s) :
    Tg w (.slice (some ⟨g, 0, none⟩) n cap) (l ++ [(a, b)]) (fun i => if i = l.length then vq else rs i) (wr.setCell ⟨g, l.length, none⟩ vq) := by
  have ht := h.own.tbl
  have hgb := (World.ownsRow.lt ht g rfl).1
  have hlen : (l ++ [p]).length = l.length + 1 := by simp
  refine ⟨h.b.setCell (p := ⟨g, l.length, none⟩) hgb _, ?_⟩
  rw [show (l ++ [(a, b)]).length = l.length + 1 by simp]
  rw [hlen] at ht
  subst hn
  refine ⟨?_, fun i hi => ?_, fun i j hij hj x hx => ?_⟩
  · have h2 := (World.ownsRow.stored ht l.length vq).1
    rw [List.range_succ, List.map_append] at h2 ⊢
    rw [List.set_append_right _ _ (by simp)] at h2
    simp only [List.length_map, List.length_range, Nat.sub_self, List.map_cons, List.map_nil, List.set_cons_zero, if_pos] at h2 ⊢
    rwa [show (List.range l.length).map (fun i => if i = l.length then vq else rs i) = (List.range l.length).map rs from List.map_congr_left fun i hi => if_neg (by have := List.mem_range.1 hi; omega)]
  · by_cases e : i = l.length
    · subst e
      simp only [if_pos]
      rw [zsP_last]
      exact IntS.rebase (row_kept hq ht vq) hs
    · simp only [if_neg e]
      rw [zsP_app (by omega)]
      have := h.own.row i (by rw [hlen]; omega)
      rw [zsP_app (by omega)] at this
      exact row_kept this ht vq
  · by_cases e : j = l.length
    · subst e
      simp only [if_pos, if_neg (show ¬ i = l.length by omega)] at hx ⊢
      intro hy
      have := hlow i (by omega) x hx
      have := (World.ownsRow.lt hq x hy).1
      omega
    · simp only [if_neg e, if_neg (show ¬ i = l.length by omega)] at hx ⊢
      exact h.own.ne i j hij (by rw [hlen]; omega) x hx
/-- The last row's place. -/
theorem Tg.last {w : World} {v : Value} {l : List (Nat × Nat)} {p : Nat × Nat} {rs : Nat → Value} {wr : World} (h : Tg w v (l ++ [p]) rs wr) : ∃ g cap b c, v = .slice (some ⟨g, 0, none⟩) (l.length + 1) cap ∧ wr.cell? ⟨g, l.length, none⟩ = some (.slice (some ⟨b, 0, none⟩) 2 c) ∧ wr.cell? ⟨b, 0, none⟩ = some (.int .i64 (p.1 : Int)) ∧ wr.cell? ⟨b, 1, none⟩ = some (.int .i64 (p.2 : Int)) ∧ wr.frozen? ⟨g, l.length, none⟩ = false := by
  have ht := h.own.tbl
  have hlen : (l ++ [p]).length = l.length + 1 := by simp
  rw [hlen] at ht
  obtain ⟨g, cap, rfl, hcell⟩ : ∃ g cap, v = .slice (some ⟨g, 0, none⟩) (l.length + 1) cap ∧ True := by
    rcases ht.2 with ⟨_, h0⟩ | ⟨g, cap, cur, hv, _⟩
    · omega
    · exact ⟨g, cap, hv, trivial⟩
  have hr := h.own.row l.length (by rw [hlen]; omega)
  rw [zsP_last] at hr
  obtain ⟨b, c, hb⟩ : ∃ b c, rs l.length = .slice (some ⟨b, 0, none⟩) 2 c := by
    unfold OwnI at hr
    rcases hr.2 with ⟨_, h0⟩ | ⟨g, cap, cur, hv, _⟩
    · cases h0
    · exact ⟨g, cap, hv⟩
  rw [hb] at hr
  refine ⟨g, cap, b, c, rfl, ?_, ?_, ?_, ht.frozenAt l.length⟩
  · rw [ht.cellAt l.length (by omega)]
    simp [hb]
  · exact hr.cellAt 0 (by decide)
  · exact hr.cellAt 1 (by decide)
/-- The answer: a table of the call's own, and whether. -/
def TPost (w : World) (l : List (Nat × Nat)) (ok : Bool) (e : Ending) (w' : World) : Prop := ∃ v rs, e = .returned (.tuple #[v, .bool ok]) ∧ OwnP w' w.heap.size v l.length (zsP l) rs ∧ Below w.heap.size w w'
end Go.Proofs.Ytnenaponiahalaa.KaT
