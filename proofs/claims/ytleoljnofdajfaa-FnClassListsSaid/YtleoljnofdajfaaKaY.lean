/- AgesWithout: the model's text; both. -/
import Derived.Test.YtleoljnofdajfaaPartM
import Derived.Test.YtleoljnofdajfaaTblS
import Derived.Test.YtleoljnofdajfaaShelf
import Derived.Sort.OwnSortedInts
import Derived.Deep.AppendLies
import Derived.Test.YtleoljnofdajfaaKaG
import Derived.Test.YtleoljnofdajfaaKlN
import Derived.Test.YtleoljnofdajfaaShelfS
import Derived.Shelf.SlSortCmp.WholeK
import Derived.Shelf.SlSortCmp.NoneTotal
import Derived.Test.YtleoljnofdajfaaKaF
import Derived.Test.YtleoljnofdajfaaKaH
import Derived.Test.YtleoljnofdajfaaRuP
namespace Go.Proofs.Ytleoljnofdajfaa.Lb
set_option linter.unusedVariables false

def srt (p : List Nat) : List Nat := p.mergeSort (fun a b => decide (a ≤ b))
theorem mem_srt {p : List Nat} {x : Nat} : x ∈ srt p ↔ x ∈ p := List.mem_mergeSort
theorem srt_length (p : List Nat) : (srt p).length = p.length := List.length_mergeSort p
theorem srt_sorted {p : List Nat} (h : p.Nodup) : (srt p).Pairwise (· < ·) := by
  have h1 : (srt p).Pairwise (fun a b => decide (a ≤ b) = true) := by
    refine List.pairwise_mergeSort (fun a b c h1 h2 => ?_) (fun a b => ?_) p
    · simp only [decide_eq_true_eq] at *; omega
    · simp only [Bool.or_eq_true, decide_eq_true_eq]; omega
  have h2 : (srt p).Nodup := (List.mergeSort_perm p _).nodup_iff.2 h
  refine (h1.and h2).imp fun {a b} h => ?_
  have h3 : a ≤ b := by simpa using h.1
  have h4 : a ≠ b := h.2
  omega
theorem srt_ints (p : List Nat) : (ints p).mergeSort (fun x y => decide (x ≤ y)) = ints (srt p) := by
  unfold srt ints
  refine (List.map_mergeSort (fun a _ b _ => ?_)).symm
  simp
theorem Bfs.part {m : Mp} {w h k : Nat} (g : GoodM m w h) (ho : Opn m (w * h) k) {p : List Nat} {d : Nat} (b : Bfs m (w * h) k p d) (hd : p.length ≤ d) : IsPart m k (srt p) :=
  ⟨srt_sorted b.nodup, fun x => by rw [mem_srt]; exact b.full g ho hd x⟩

/-- The lists of the parts as numbers. -/
def zsOf (ps : List (List Nat)) (i : Nat) : List Int := ints (ps.getD i [])
theorem zsOf_old {ps : List (List Nat)} {p : List Nat} {i : Nat} (h : i < ps.length) : zsOf (ps ++ [p]) i = zsOf ps i := by
  unfold zsOf
  simp [List.getD, List.getElem?_append_left h]
theorem zsOf_new (ps : List (List Nat)) (p : List Nat) : zsOf (ps ++ [p]) ps.length = ints p := by
  unfold zsOf
  simp [List.getD]
theorem PartsTo.len {m : Mp} {w h k : Nat} (g : GoodM m w h) {ps : List (List Nat)} (hp : PartsTo m (w * h) k ps) (i : Nat) : (zsOf ps i).length ≤ 36 := by
  unfold zsOf
  rw [ints_length]
  by_cases hi : i < ps.length
  · obtain ⟨c, hc, hq⟩ := hp.parts (ps.getD i []) (by simp [hi])
    have := hq.length g hc
    have := g.n36
    omega
  · simp [List.getD, List.getElem?_eq_none (Nat.le_of_not_lt hi)]

end Go.Proofs.Ytleoljnofdajfaa.Lb

namespace Go.Proofs.Ytleoljnofdajfaa.PrtB
open Go.RowKit Lb IntS MapS SpecB TblS
set_option linter.unusedSimpArgs false
set_option linter.unusedVariables false

/-- The bits. -/
def seenCs (sb : Nat → Bool) : Array Value := ((List.range 36).map fun i => Value.bool (sb i)).toArray
def setB (sb : Nat → Bool) (j : Nat) : Nat → Bool := fun i => sb i || i == j
theorem seenCs_set (sb : Nat → Bool) (j : Nat) : (seenCs sb).setIfInBounds j (.bool true) = seenCs (setB sb j) := by
  unfold seenCs setB
  apply Array.ext
  · simp
  · intro i h1 h2
    simp only [Array.size_setIfInBounds, List.size_toArray, List.length_map, List.length_range] at h1
    by_cases e : j = i
    · subst e; simp [Array.getElem_setIfInBounds]
    · simp [Array.getElem_setIfInBounds, e, show (i == j) = false by simp; omega]
theorem seen_cell {w : World} {g : Nat} {t : TypeId} {sb : Nat → Bool} (h : Blk w g t (seenCs sb)) {j : Nat} (hj : j < 36) : w.cell? ⟨g, j, none⟩ = some (.bool (sb j)) ∧ w.frozen? ⟨g, j, none⟩ = false := by
  unfold Blk at h
  constructor
  · simp [World.cell?, h, seenCs, hj]
  · simp [World.frozen?, h]

/-- The lists beside a growing row. -/
theorem beside {w w' : World} {base s n : Nat} {v vq : Value} {zs : Nat → List Int} {rs : Nat → Value} {z : List Int} (h : OwnP w base v n zs rs) (hq : OwnI w s vq z) (hlow : ∀ i, i < n → ∀ x, (rs i).ownBlock = some x → x < s) (hg : w.grownBy w' vq.ownBlock) : OwnP w' base v n zs rs :=
  ⟨own_grown h.tbl hg (own_own_ne h.tbl hq (by decide)), fun i hi => own_grown (h.row i hi) hg (fun x y hx hy => by have := hlow i hi x hx; have := (hq.lt y hy).1; omega), h.ne⟩
theorem far {w : World} {base n g i : Nat} {t : TypeId} {cs : Array Value} {v : Value} {zs : Nat → List Int} {rs : Nat → Value} (h : OwnP w base v n zs rs) (hb : Blk w g t cs) (h1 : (28 : TypeId) ≠ t) (h2 : (3 : TypeId) ≠ t) (u : Value) : OwnP (w.setCell ⟨g, i, none⟩ u) base v n zs rs :=
  ⟨own_far h.tbl hb h1 u, fun j hj => own_far (h.row j hj) hb h2 u, h.ne⟩
/-- One more list. -/
theorem push {w w' : World} {base s n : Nat} {v v' vq : Value} {zs zs' : Nat → List Int} {rs : Nat → Value} {z : List Int} (h : OwnP w base v n zs rs) (hq : OwnI w s vq z) (hs : base ≤ s) (hlow : ∀ i, i < n → ∀ x, (rs i).ownBlock = some x → x < s)
    (ho : w'.ownsRow base 28 1 v' (n + 1) ((List.range n).map rs ++ [vq])) (hg : w.grownBy w' v.ownBlock) (h1 : ∀ i, i < n → zs' i = zs i) (h2 : zs' n = z) : OwnP w' base v' (n + 1) zs' (fun i => if i = n then vq else rs i) := by
  have e : ∀ i, i < n → (if i = n then vq else rs i) = rs i := fun i hi => if_neg (by omega)
  refine ⟨?_, fun i hi => ?_, fun i j hij hj x hx => ?_⟩
  · rw [List.range_succ, List.map_append]
    have e2 : (List.range n).map (fun i => if i = n then vq else rs i) = (List.range n).map rs := List.map_congr_left fun i hi => e i (by simpa using hi)
    rw [e2]
    simpa using ho
  · by_cases hin : i = n
    · subst hin
      simp only [if_pos]
      rw [h2]
      exact IntS.rebase (own_grown hq hg (fun x y hx hy => fun e => own_own_ne h.tbl hq (by decide) y x hy hx e.symm)) hs
    · rw [e i (by omega), h1 i (by omega)]
      exact own_grown (h.row i (by omega)) hg (fun x y hx hy => fun e => own_own_ne h.tbl (h.row i (by omega)) (by decide) y x hy hx e.symm)
  · by_cases hjn : j = n
    · subst hjn
      simp only [if_pos]
      rw [e i hij] at hx
      intro hy
      have := hlow i hij x hx
      have := (hq.lt x hy).1
      omega
    · have hjn' : j < n := by omega
      simp only [e j hjn']
      rw [e i (by omega)] at hx
      exact h.ne i j hij hjn' x hx

/-- A list of one number, new. -/
theorem own_one (w : World) (base : Nat) (z : Int) (h : base ≤ w.heap.size) : OwnI (w.alloc (.cells #[.int .i64 z] 3)) base (.slice (some ⟨w.heap.size, 0, none⟩) 1 1) [z] :=
  ⟨by simp, .inr ⟨w.heap.size, 1, #[.int .i64 z], rfl, h, heap_alloc_new w _, Nat.le_refl _, by decide, rfl, by simp⟩⟩

theorem own_ints_slice {w : World} {base : Nat} {v : Value} {p : List Nat} (h : OwnI w base v (ints p)) (hp : 0 < p.length) : ∃ g cap, v = .slice (some ⟨g, 0, none⟩) p.length cap := by
  rcases h.2 with ⟨_, h0⟩ | ⟨g, cap, cur, rfl, _⟩
  · rw [ints_length] at h0; omega
  · exact ⟨g, cap, by rw [ints_length]⟩
theorem own_ints_cell {w : World} {base g n cap : Nat} {p : List Nat} (h : OwnI w base (.slice (some ⟨g, 0, none⟩) n cap) (ints p)) {j : Nat} (hj : j < p.length) : w.cell? ⟨g, j, none⟩ = some (.int .i64 ((p.getD j 0 : Nat) : Int)) := by
  unfold OwnI at h
  rcases h.2 with ⟨h1, h0⟩ | ⟨g', c', cur, hv, _⟩
  · cases h1
  · obtain ⟨-, rfl, -⟩ := Value.slice.inj hv
    rw [h.cellAt j (by rw [ints_length]; omega)]
    simp [ints, hj]
theorem own_ints_raw {w : World} {base : Nat} {v : Value} {p : List Nat} (h : OwnI w base v (ints p)) : w.ownsRow base 3 1 v p.length ((ints p).map (Value.int .i64)) := by
  unfold OwnI at h
  rwa [ints_length] at h
theorem own_ints_put {w : World} {base : Nat} {v : Value} {p : List Nat} {y : Nat} (h : w.ownsRow base 3 1 v (p.length + 1) ((ints p).map (Value.int .i64) ++ [.int .i64 y])) : OwnI w base v (ints (p ++ [y])) := by
  unfold OwnI
  have e1 : (ints (p ++ [y])).length = p.length + 1 := by simp [ints]
  have e2 : (ints (p ++ [y])).map (Value.int .i64) = (ints p).map (Value.int .i64) ++ [.int .i64 y] := by simp [ints]
  rw [e1, e2]; exact h

/-- The answer: lists of the call's own, and whether there are any. -/
def TPst (w : World) (n : Nat) (zs : Nat → List Int) (ok : Bool) (e : Ending) (w' : World) : Prop := ∃ v rs, e = .returned (.tuple #[v, .bool ok]) ∧ OwnP w' w.heap.size v n zs rs ∧ Below w.heap.size w w'
theorem ownP_nil (w w0 : World) (zs : Nat → List Int) (rs : Nat → Value) (h : w0.heap.size ≤ w.heap.size) : OwnP (w.alloc (.cells #[] 28)) w0.heap.size (.slice (some ⟨w.heap.size, 0, none⟩) 0 0) 0 zs rs :=
  ⟨World.ownsRow_made (e := 28) (size := 1) w #[] 0 h (Nat.zero_le _) rfl, fun i hi => by omega, fun i j _ hj => by omega⟩

end Go.Proofs.Ytleoljnofdajfaa.PrtB

namespace Go.Proofs.Ytleoljnofdajfaa.KaT
open Go.RowKit Lb IntS SpecB TblS PrtB
set_option linter.unusedSimpArgs false
set_option linter.unusedVariables false

def zsP (l : List (Nat × Nat)) (i : Nat) : List Int := [((l.getD i (0, 0)).1 : Int), ((l.getD i (0, 0)).2 : Int)]
theorem zsP_len (l : List (Nat × Nat)) (i : Nat) : (zsP l i).length = 2 := rfl
theorem zsP_app {l : List (Nat × Nat)} {p : Nat × Nat} {i : Nat} (h : i < l.length) : zsP (l ++ [p]) i = zsP l i := by
  unfold zsP
  rw [List.getD_eq_getElem?_getD, List.getD_eq_getElem?_getD, List.getElem?_append_left h]
theorem zsP_last (l : List (Nat × Nat)) (p : Nat × Nat) : zsP (l ++ [p]) l.length = [(p.1 : Int), (p.2 : Int)] := by
  unfold zsP
  rw [List.getD_eq_getElem?_getD]
  simp
/-- The table stands. -/
structure Tg (w : World) (v : Value) (l : List (Nat × Nat)) (rs : Nat → Value) (wr : World) : Prop where
  b : Below w.heap.size w wr
  own : OwnP wr w.heap.size v l.length (zsP l) rs
theorem Tg.below {w : World} {v : Value} {l : List (Nat × Nat)} {rs : Nat → Value} {wr w' : World} (h : Tg w v l rs wr) (hb : Below wr.heap.size wr w') : Tg w v l rs w' := ⟨h.b.trans (hb.mono h.b.size), h.own.below hb⟩
theorem Tg.alloc {w : World} {v : Value} {l : List (Nat × Nat)} {rs : Nat → Value} {wr : World} (h : Tg w v l rs wr) (o : Obj) : Tg w v l rs (wr.alloc o) := h.below ((Below.refl _ _).alloc (Nat.le_refl _) _)
theorem Tg.start {w wr : World} (hb : Below w.heap.size w wr) : Tg w (.slice (some ⟨wr.heap.size, 0, none⟩) 0 0) [] (fun _ => undef) (wr.alloc (.cells #[] 28)) :=
  ⟨hb.alloc hb.size _, ownP_nil wr w _ _ hb.size⟩
theorem own_two (w : World) (base : Nat) (a b : Int) (h : base ≤ w.heap.size) : OwnI (w.alloc (.cells #[.int .i64 a, .int .i64 b] 3)) base (.slice (some ⟨w.heap.size, 0, none⟩) 2 2) [a, b] :=
  ⟨by simp, .inr ⟨w.heap.size, 2, #[.int .i64 a, .int .i64 b], rfl, h, heap_alloc_new w _, Nat.le_refl _, by decide, rfl, by simp⟩⟩
theorem Tg.push {w : World} {v v' vq : Value} {l : List (Nat × Nat)} {rs : Nat → Value} {a b : Nat} {s : Nat} {wr w' : World} (h : Tg w v l rs wr) (hq : OwnI wr s vq [(a : Int), (b : Int)]) (hs : w.heap.size ≤ s) (hlow : ∀ i, i < l.length → ∀ x, (rs i).ownBlock = some x → x < s)
    (ho : w'.ownsRow w.heap.size 28 1 v' (l.length + 1) ((List.range l.length).map rs ++ [vq])) (hg : wr.grownBy w' v.ownBlock) : Tg w v' (l ++ [(a, b)]) (fun i => if i = l.length then vq else rs i) w' := by
  refine ⟨h.b.grown hg h.b.size (fun k e => (World.ownsRow.lt h.own.tbl k e).1), ?_⟩
  rw [List.length_append]
  exact PrtB.push h.own hq hs hlow ho hg (fun i hi => zsP_app hi) (zsP_last l (a, b))
theorem Tg.low {w : World} {v : Value} {l : List (Nat × Nat)} {rs : Nat → Value} {wr : World} (h : Tg w v l rs wr) : ∀ i, i < l.length → ∀ x, (rs i).ownBlock = some x → x < wr.heap.size := fun i hi x e => (World.ownsRow.lt (h.own.row i hi) x e).2
/-- A row of numbers stands when a cell of the table is set. -/
theorem row_kept {w : World} {base base' g n n' cap j : Nat} {v : Value} {zs : List Int} {xs : List Value} (h : OwnI w base v zs) (ht : w.ownsRow base' 28 1 (.slice (some ⟨g, 0, none⟩) n cap) n' xs) (u : Value) : OwnI (w.setCell ⟨g, j, none⟩ u) base v zs := by
  have hne := own_own_ne ht h (by decide)
  unfold OwnI at h ⊢
  refine ⟨h.1, ?_⟩
  rcases h.2 with h2 | ⟨g', c', cur, hv, hg, hh, r⟩
  · exact .inl h2
  · refine .inr ⟨g', c', cur, hv, hg, (Below.heap_setCell w ⟨g, j, none⟩ u g' ?_).trans hh, r⟩
    intro e
    exact hne g g' rfl (by rw [hv]; rfl) e.symm
/-- The last one is replaced by a new one. -/
theorem Tg.repl {w : World} {g n cap : Nat} {vq : Value} {l : List (Nat × Nat)} {p : Nat × Nat} {rs : Nat → Value} {a b s : Nat} {wr : World} (h : Tg w (.slice (some ⟨g, 0, none⟩) n cap) (l ++ [p]) rs wr) (hn : n = l.length + 1) (hq : OwnI wr s vq [(a : Int), (b : Int)]) (hs : w.heap.size ≤ s) (hlow : ∀ i, i < l.length + 1 → ∀ x, (rs i).ownBlock = some x → x < s) :
    Tg w (.slice (some ⟨g, 0, none⟩) n cap) (l ++ [(a, b)]) (fun i => if i = l.length then vq else rs i) (wr.setCell ⟨g, l.length, none⟩ vq) := by
  have ht := h.own.tbl
  have hgb := (World.ownsRow.lt ht g rfl).1
  have hlen : (l ++ [p]).length = l.length + 1 := by simp
  refine ⟨h.b.setCell (p := ⟨g, l.length, none⟩) hgb _, ?_⟩
  rw [show (l ++ [(a, b)]).length = l.length + 1 by simp]
  rw [hlen] at ht
  subst hn
  refine ⟨?_, fun i hi => ?_, fun i j hij hj x hx => ?_⟩
  · have h2 := (World.ownsRow.stored ht l.length vq).1
    rw [List.range_succ, List.map_append] at h2 ⊢
    rw [List.set_append_right _ _ (by simp)] at h2
    simp only [List.length_map, List.length_range, Nat.sub_self, List.map_cons, List.map_nil, List.set_cons_zero, if_pos] at h2 ⊢
    rwa [show (List.range l.length).map (fun i => if i = l.length then vq else rs i) = (List.range l.length).map rs from List.map_congr_left fun i hi => if_neg (by have := List.mem_range.1 hi; omega)]
  · by_cases e : i = l.length
    · subst e
      simp only [if_pos]
      rw [zsP_last]
      exact IntS.rebase (row_kept hq ht vq) hs
    · simp only [if_neg e]
      rw [zsP_app (by omega)]
      have := h.own.row i (by rw [hlen]; omega)
      rw [zsP_app (by omega)] at this
      exact row_kept this ht vq
  · by_cases e : j = l.length
    · subst e
      simp only [if_pos, if_neg (show ¬ i = l.length by omega)] at hx ⊢
      intro hy
      have := hlow i (by omega) x hx
      have := (World.ownsRow.lt hq x hy).1
      omega
    · simp only [if_neg e, if_neg (show ¬ i = l.length by omega)] at hx ⊢
      exact h.own.ne i j hij (by rw [hlen]; omega) x hx
/-- The last row's place. -/
theorem Tg.last {w : World} {v : Value} {l : List (Nat × Nat)} {p : Nat × Nat} {rs : Nat → Value} {wr : World} (h : Tg w v (l ++ [p]) rs wr) : ∃ g cap b c, v = .slice (some ⟨g, 0, none⟩) (l.length + 1) cap ∧ wr.cell? ⟨g, l.length, none⟩ = some (.slice (some ⟨b, 0, none⟩) 2 c) ∧ wr.cell? ⟨b, 0, none⟩ = some (.int .i64 (p.1 : Int)) ∧ wr.cell? ⟨b, 1, none⟩ = some (.int .i64 (p.2 : Int)) ∧ wr.frozen? ⟨g, l.length, none⟩ = false := by
  have ht := h.own.tbl
  have hlen : (l ++ [p]).length = l.length + 1 := by simp
  rw [hlen] at ht
  obtain ⟨g, cap, rfl, hcell⟩ : ∃ g cap, v = .slice (some ⟨g, 0, none⟩) (l.length + 1) cap ∧ True := by
    rcases ht.2 with ⟨_, h0⟩ | ⟨g, cap, cur, hv, _⟩
    · omega
    · exact ⟨g, cap, hv, trivial⟩
  have hr := h.own.row l.length (by rw [hlen]; omega)
  rw [zsP_last] at hr
  obtain ⟨b, c, hb⟩ : ∃ b c, rs l.length = .slice (some ⟨b, 0, none⟩) 2 c := by
    unfold OwnI at hr
    rcases hr.2 with ⟨_, h0⟩ | ⟨g, cap, cur, hv, _⟩
    · cases h0
    · exact ⟨g, cap, hv⟩
  rw [hb] at hr
  refine ⟨g, cap, b, c, rfl, ?_, ?_, ?_, ht.frozenAt l.length⟩
  · rw [ht.cellAt l.length (by omega)]
    simp [hb]
  · exact hr.cellAt 0 (by decide)
  · exact hr.cellAt 1 (by decide)
/-- The answer: a table of the call's own, and whether. -/
def TPost (w : World) (l : List (Nat × Nat)) (ok : Bool) (e : Ending) (w' : World) : Prop := ∃ v rs, e = .returned (.tuple #[v, .bool ok]) ∧ OwnP w' w.heap.size v l.length (zsP l) rs ∧ Below w.heap.size w w'
end Go.Proofs.Ytleoljnofdajfaa.KaT

namespace Go.Proofs.Ytleoljnofdajfaa.KaM
open Lb KlI KaA
open KlK (at_ at_lt)
set_option linter.unusedVariables false

/-- One more number for the spans. -/
def ext (l : List (Nat × Nat)) (k : Nat) : List (Nat × Nat) := match l.getLast? with
  | some p => if p.2 + 1 = k then l.dropLast ++ [(p.1, k)] else l ++ [(k, k)]
  | none => [(k, k)]
/-- The spans of those below a number of which a test holds. -/
def sp (F : Nat → Bool) : Nat → List (Nat × Nat)
  | 0 => []
  | k + 1 => if F k then ext (sp F k) k else sp F k
theorem ext_nil (k : Nat) : ext [] k = [(k, k)] := rfl
theorem ext_new {l : List (Nat × Nat)} {k : Nat} (h : ∀ p ∈ l.getLast?, p.2 + 1 ≠ k) : ext l k = l ++ [(k, k)] := by
  unfold ext
  cases hl : l.getLast? with
  | none => rw [List.getLast?_eq_none_iff.1 hl]; rfl
  | some p => rw [hl] at h; simp only []; rw [if_neg (h p rfl)]
theorem ext_on (l : List (Nat × Nat)) (s k : Nat) : ext (l ++ [(s, k)]) (k + 1) = l ++ [(s, k + 1)] := by
  unfold ext
  rw [List.getLast?_concat, List.dropLast_concat]
  simp
theorem sp_end {F : Nat → Bool} : ∀ {k : Nat} {p : Nat × Nat}, p ∈ sp F k → F p.2 = true ∧ p.2 < k ∧ p.1 ≤ p.2
  | 0, p, h => by simp [sp] at h
  | k + 1, p, h => by
    rw [sp] at h
    by_cases hF : F k = true
    · rw [if_pos hF] at h
      unfold ext at h
      cases hl : (sp F k).getLast? with
      | none =>
        rw [hl] at h
        simp only [List.mem_singleton] at h
        subst h
        exact ⟨hF, Nat.lt_succ_self _, Nat.le_refl _⟩
      | some q =>
        rw [hl] at h
        simp only [] at h
        have hq := List.mem_of_getLast? hl
        split at h
        · rcases List.mem_append.1 h with h1 | h1
          · have := sp_end (List.dropLast_subset _ h1)
            exact ⟨this.1, by omega, this.2.2⟩
          · simp only [List.mem_singleton] at h1
            subst h1
            have := sp_end hq
            exact ⟨hF, Nat.lt_succ_self _, by show q.1 ≤ k; omega⟩
        · rcases List.mem_append.1 h with h1 | h1
          · have := sp_end h1
            exact ⟨this.1, by omega, this.2.2⟩
          · simp only [List.mem_singleton] at h1
            subst h1
            exact ⟨hF, Nat.lt_succ_self _, Nat.le_refl _⟩
    · rw [if_neg hF] at h
      have := sp_end h
      exact ⟨this.1, by omega, this.2.2⟩
theorem sp_covered {F : Nat → Bool} {a : Nat} : ∀ {b : Nat}, a ≤ b → (∀ x, a ≤ x → x < b → F x = false) → sp F b = sp F a
  | 0, h, _ => by obtain rfl : a = 0 := (by omega); rfl
  | b + 1, h, hF => by
    rcases Nat.lt_or_ge a (b + 1) with h1 | h1
    · rw [sp, hF b (by omega) (by omega), if_neg (by simp)]
      exact sp_covered (by omega) fun x h2 h3 => hF x h2 (by omega)
    · obtain rfl : a = b + 1 := by omega
      rfl
theorem sp_free {F : Nat → Bool} {a : Nat} (hb : a = 0 ∨ F (a - 1) = false) : ∀ {b : Nat}, a < b → (∀ x, a ≤ x → x < b → F x = true) → sp F b = sp F a ++ [(a, b - 1)]
  | 0, h, _ => by omega
  | b + 1, h, hF => by
    rw [sp, hF b (by omega) (by omega), if_pos rfl, Nat.add_sub_cancel]
    rcases Nat.lt_or_ge a b with h1 | h1
    · rw [sp_free hb h1 (fun x h2 h3 => hF x h2 (by omega))]
      obtain ⟨c, rfl⟩ : ∃ c, b = c + 1 := ⟨b - 1, by omega⟩
      rw [Nat.add_sub_cancel]
      exact ext_on _ _ _
    · obtain rfl : a = b := by omega
      refine ext_new fun p hp e => ?_
      have h2 := sp_end (List.mem_of_getLast? hp)
      rcases hb with h3 | h3
      · omega
      · rw [show a - 1 = p.2 by omega, h2.1] at h3
        cases h3
theorem sp_len (F : Nat → Bool) : ∀ k, (sp F k).length ≤ k
  | 0 => Nat.le_refl _
  | k + 1 => by
    have ih := sp_len F k
    rw [sp]
    split
    · unfold ext
      split
      · rename_i p hp
        have : (sp F k) ≠ [] := by intro e; rw [e] at hp; cases hp
        have := List.length_pos_iff.2 this
        split
        · rw [List.length_append, List.length_dropLast]; simp; omega
        · rw [List.length_append]; simp; omega
      · simp
    · omega

/-! The sweep over sorted ranges. -/
/-- Which numbers lie in no range. -/
def frF (fs : List Kl) (x : Nat) : Bool := !(fs.any (fun c => decide (c.lo ≤ (x : Int) ∧ (x : Int) ≤ c.hi)))
theorem fr_no {fs : List Kl} {c : Kl} {x : Nat} (hc : c ∈ fs) (h1 : c.lo ≤ (x : Int)) (h2 : (x : Int) ≤ c.hi) : frF fs x = false := by
  unfold frF
  rw [Bool.not_eq_false', List.any_eq_true]
  exact ⟨c, hc, decide_eq_true ⟨h1, h2⟩⟩
theorem fr_yes {fs : List Kl} {x : Nat} (h : ∀ c, c ∈ fs → ¬ (c.lo ≤ (x : Int) ∧ (x : Int) ≤ c.hi)) : frF fs x = true := by
  unfold frF
  rw [Bool.not_eq_true', List.any_eq_false]
  intro c hc
  simpa using h c hc
theorem fr_same {fs gs : List Kl} (h : ∀ x, x ∈ gs ↔ x ∈ fs) : frF gs = frF fs := by
  funext x
  cases hf : frF fs x with
  | true =>
    refine fr_yes fun c hc e => ?_
    rw [fr_no ((h c).1 hc) e.1 e.2] at hf
    cases hf
  | false =>
    cases hg : frF gs x with
    | false => rfl
    | true =>
      unfold frF at hf
      rw [Bool.not_eq_false', List.any_eq_true] at hf
      obtain ⟨c, hc, hp⟩ := hf
      have := of_decide_eq_true hp
      rw [fr_no ((h c).2 hc) this.1 this.2] at hg
      cases hg
/-- What holds behind the first ones: they end below the next number, and the number before it lies in one of them. -/
structure Sw (fs : List Kl) (j N : Nat) : Prop where
  le : N ≤ 121
  hi : ∀ i, i < j → (at_ fs i).hi < (N : Int)
  last : N = 0 ∨ frF fs (N - 1) = false
theorem Sw.start (fs : List Kl) : Sw fs 0 0 := ⟨by omega, fun i h => by omega, .inl rfl⟩
theorem Sw.step {fs : List Kl} {j N l h : Nat} (s : Sw fs j N) (hj : j < fs.length) (hl : (at_ fs j).lo = (l : Int)) (hh : (at_ fs j).hi = (h : Int)) (hlh : l ≤ h) (h120 : h ≤ 120) (hs : ∀ i, j ≤ i → i < fs.length → (at_ fs j).lo ≤ (at_ fs i).lo) :
    Sw fs (j + 1) (max N (h + 1)) ∧ (N < l → sp (frF fs) (max N (h + 1)) = sp (frF fs) N ++ [(N, l - 1)]) ∧ (¬ N < l → sp (frF fs) (max N (h + 1)) = sp (frF fs) N) := by
  have hmem : at_ fs j ∈ fs := by rw [at_lt hj]; exact List.getElem_mem hj
  have hcov : ∀ x, l ≤ x → x < h + 1 → frF fs x = false := fun x h1 h2 => fr_no hmem (by omega) (by omega)
  refine ⟨⟨by have := s.le; omega, fun i hi => ?_, ?_⟩, fun hNl => ?_, fun hNl => ?_⟩
  · rcases Nat.lt_or_ge i j with h1 | h1
    · have := s.hi i h1; omega
    · obtain rfl : i = j := by omega
      omega
  · rcases Nat.lt_or_ge N (h + 1) with h1 | h1
    · rw [Nat.max_eq_right (by omega)]
      exact .inr (hcov _ (by omega) (by omega))
    · rw [Nat.max_eq_left h1]
      exact s.last
  · rw [Nat.max_eq_right (by omega)]
    have e1 : sp (frF fs) (h + 1) = sp (frF fs) l := sp_covered (by omega) hcov
    rw [e1]
    refine sp_free s.last hNl fun x h1 h2 => fr_yes fun c hc e => ?_
    obtain ⟨i, hi, rfl⟩ := List.mem_iff_getElem.1 hc
    rcases Nat.lt_or_ge i j with h3 | h3
    · have := s.hi i h3
      rw [at_lt hi] at this
      omega
    · have := hs i h3 hi
      rw [at_lt hi] at this
      omega
  · exact sp_covered (by omega) fun x h1 h2 => hcov x (by omega) (by omega)
theorem Sw.done {fs : List Kl} {N : Nat} (s : Sw fs fs.length N) : (N ≤ 120 → sp (frF fs) 121 = sp (frF fs) N ++ [(N, 120)]) ∧ (¬ N ≤ 120 → sp (frF fs) 121 = sp (frF fs) N) := by
  refine ⟨fun h => sp_free s.last (by omega) fun x h1 h2 => fr_yes fun c hc e => ?_, fun h => by rw [show N = 121 by have := s.le; omega]⟩
  obtain ⟨i, hi, rfl⟩ := List.mem_iff_getElem.1 hc
  have := s.hi i hi
  rw [at_lt hi] at this
  omega
end Go.Proofs.Ytleoljnofdajfaa.KaM

namespace Go.Proofs.Ytleoljnofdajfaa.KlZ
open Go.RowKit Lb Bk KlK Go.Sort
set_option linter.unusedSimpArgs false
set_option linter.unusedVariables false

instance : Inhabited Kl := ⟨no⟩
def enc (x : Kl) : List Value := cells [x]
theorem enc_len (x : Kl) : (enc x).length = 8 := by unfold enc; rw [cells_len]; rfl
theorem enc_one (x : Kl) : ∀ v ∈ enc x, v.oneCell' = true := cells_one [x]
theorem get_at (fs : List Kl) (i : Nat) : fs.toArray[i]! = at_ fs i := by
  unfold at_
  rw [List.getD_eq_getElem?_getD]
  simp only [List.getElem!_toArray, List.getElem!_eq_getElem?_getD]
  rfl
theorem enc_at (x : Kl) {j : Nat} (hj : j < 8) : (enc x)[j]? = some (cV x j) := by
  have := cells_at [x] 0 (by simp) j hj
  rw [Nat.zero_mul, Nat.zero_add] at this
  exact this
theorem flat (fs : List Kl) : (flatK enc 8 fs.toArray).toList = cells fs := by
  apply List.ext_getElem?
  intro t
  by_cases ht : t < fs.length * 8
  · have h1 := cells_at fs (t / 8) (by omega) (t % 8) (by omega)
    rw [show t / 8 * 8 + t % 8 = t by omega] at h1
    rw [h1, Array.getElem?_toList]
    unfold flatK
    rw [Array.getElem?_map, Array.getElem?_range, if_pos (by simpa using ht)]
    show some ((enc fs.toArray[t / 8]!)[t % 8]!) = _
    rw [get_at, List.getElem!_eq_getElem?_getD, enc_at _ (by omega)]
    rfl
  · rw [List.getElem?_eq_none (by simp; omega), List.getElem?_eq_none (by rw [cells_len]; omega)]
theorem holds_of {w : World} {base g n cap : Nat} {fs : List Kl} (h : Own w base (.slice (some ⟨g, 0, none⟩) n cap) fs) (hn : fs.length = n) : HoldsK enc 8 w g 0 fs.toArray := by
  intro j hj
  rw [size_flatK] at hj
  have hj' : j < n * 8 := by simpa [hn] using hj
  unfold Own at h
  rw [hn] at h
  refine ⟨?_, by rw [Nat.zero_add]; exact h.frozenAt j⟩
  rw [Nat.zero_add, h.cellAt j hj', ← flat fs]
  rw [Array.getElem?_toList, getElem!_pos _ j (by rw [size_flatK]; exact hj), Array.getElem?_eq_getElem (by rw [size_flatK]; exact hj)]
  rfl
theorem heap_s {w : World} {g m : Nat} {os : Array Obj} {cur : Array Value} {e : TypeId} {fr : Nat × Nat} (F : Array Value) (hb : w.heap[g]? = some (.cells cur e fr)) :
    (grow (putRow id (Sort.ahead w m) g 0 F) os).heap[g]? = some (.cells (putCells id 0 F cur) e fr) := by
  have hg : g < w.heap.size := (Array.getElem?_eq_some_iff.1 hb).1
  rw [heap_grow_old _ _ (by simpa using hg)]
  simp [putRow, mapBlock, Sort.ahead, Array.getElem?_modify, hb, onCells]
theorem grown_s {w : World} {g m : Nat} {os : Array Obj} (F : Array Value) : w.grownBy (grow (putRow id (Sort.ahead w m) g 0 F) os) (some g) := by
  refine ⟨rfl, rfl, rfl, by simp, fun k hk hne => ?_⟩
  rw [heap_grow_old _ _ (by simpa using hk)]
  have : g ≠ k := fun e => hne (by rw [e])
  simp [putRow, mapBlock, Sort.ahead, Array.getElem?_modify, this]
theorem take_s (cur : Array Value) (F : Array Value) (n : Nat) (hn : F.size = n) (h : n ≤ cur.size) : (putCells id 0 F cur).toList.take n = F.toList := by
  apply List.ext_getElem?
  intro j
  by_cases hj : j < n
  · rw [List.getElem?_take_of_lt hj, Array.getElem?_toList, Array.getElem?_toList]
    simp [putCells, hn, hj, show j < cur.size by omega]
  · rw [List.getElem?_take_eq_none (by omega), List.getElem?_eq_none (by simp; omega)]
theorem own_s {w : World} {base g n cap m : Nat} {fs gs : List Kl} {os : Array Obj} (h : Own w base (.slice (some ⟨g, 0, none⟩) n cap) fs) (hn : fs.length = n) (hg : gs.length = n) :
    Own (sortWorldK enc 8 w g 0 m gs.toArray os) base (.slice (some ⟨g, 0, none⟩) n cap) gs := by
  unfold Own at h ⊢
  rw [hn] at h
  rw [hg]
  refine ⟨by rw [cells_len, hg], ?_⟩
  rcases h.2 with ⟨h1, _⟩ | ⟨g', cap', cur, hv, hb, hh, h1, h2, h3, h4⟩
  · cases h1
  · cases hv
    refine .inr ⟨g, cap, _, rfl, hb, heap_s (flatK enc 8 gs.toArray) hh, h1, h2, by simp [putCells, h3], ?_⟩
    rw [take_s cur _ (n * 8) (by rw [size_flatK]; simp [hg]) (by rw [h3]; exact Nat.mul_le_mul_right _ h1)]
    exact flat gs
theorem pos_block {w : World} {base n cap : Nat} {a : Option Addr} {fs : List Kl} (h : Own w base (.slice a n cap) fs) (hn : fs.length = n) (h0 : 0 < n) : ∃ g, a = some ⟨g, 0, none⟩ ∧ g < w.heap.size := by
  unfold Own at h
  rcases h.2 with ⟨h1, h2⟩ | ⟨g, cap', cur, hv, hb, hh, _⟩
  · omega
  · cases hv
    exact ⟨g, rfl, (Array.getElem?_eq_some_iff.1 hh).1⟩

/-- The sort: another order of the same ones, no smaller one behind a greater one; only the row's block is turned. -/
def SortPost (w : World) (base : Nat) (v : Value) (lt : Kl → Kl → Bool) (fs : List Kl) (e : Ending) (w' : World) : Prop := e = .returned (.tuple #[]) ∧ ∃ gs : List Kl, gs.length = fs.length ∧ (∀ x, x ∈ gs ↔ x ∈ fs) ∧ (∀ i j, i < j → j < gs.length → lt (at_ gs j) (at_ gs i) = false) ∧ Own w' base v gs ∧ w.grownBy w' v.ownBlock
theorem sort_any (g : Nat) (cf : Kl → Kl → Int) (hO : SWO (ltOf cf)) (eg : ∀ args w, (callFunc g args).run Try.prog w = .ok (.enter g args) w)
    (hcmp : ∀ x y W, Calls Try.prog g #[.agg #[.int .i64 x.id, .string x.nm, .int .i64 x.lo, .int .i64 x.hi, .bool x.wo, .bool x.me, .int .i64 x.co, .int .i64 x.mo], .agg #[.int .i64 y.id, .string y.nm, .int .i64 y.lo, .int .i64 y.hi, .bool y.wo, .bool y.me, .int .i64 y.co, .int .i64 y.mo]] W fun e w' => e = .returned (.int .i64 (cf x y)) ∧ ∃ q os', w' = grow (W.drewN q) os')
    (base : Nat) (v : Value) (fs : List Kl) (w : World) (h : Own w base v fs) (hl : fs.length ≤ 1048576) :
    Calls Try.prog 35 #[v, .func (.func g) #[] #[]] w (SortPost w base v (ltOf cf) fs) := by
  obtain ⟨a, cap, rfl, -, -⟩ := h.slice
  rcases Nat.eq_zero_or_pos fs.length with h0 | h0
  · have C := AnyF.slices_SortFunc_none Try.sortKl a cap (.func (.func g) #[] #[]) w
    rw [h0]
    refine C.mono ?_
    rintro e w' ⟨rfl, rfl⟩
    have h' := h
    rw [h0] at h'
    exact ⟨rfl, fs, rfl, fun x => Iff.rfl, fun i j hij hj => by omega, h', World.grownBy.refl _ _⟩
  · obtain ⟨b, rfl, hb⟩ := pos_block h rfl h0
    have C := AnyQ.slices_SortFunc Try.sortKl 8 Try.isAgg33 Try.sizeOf33 enc enc_len enc_one cf hO g #[] b 0 cap fs.toArray w eg
      (fun m os dk _ x y => by
        have := hcmp x y (sortWorldK enc 8 w b 0 m dk os)
        exact this) (holds_of h rfl) hb (by simp; omega)
    rw [show fs.toArray.size = fs.length from by simp] at C
    refine C.mono ?_
    rintro e w' ⟨rfl, d', m, os, hp, hs, rfl⟩
    have e1 : d'.size = fs.length := by have := hp.1; simpa using this
    have hperm : d'.toList.Perm fs := by
      have := hp.2.2
      rw [show d'.extract 0 fs.length = d' from by rw [← e1]; simp, show fs.toArray.extract 0 fs.length = fs.toArray from by simp] at this
      exact this
    refine ⟨rfl, d'.toList, by simpa using e1, fun x => hperm.mem_iff, fun i j hij hj => ?_, ?_, ?_⟩
    · have := hs i j (Nat.zero_le _) hij (by simpa using (by simpa [e1] using hj : j < fs.length))
      rw [← get_at, ← get_at, Array.toArray_toList]
      exact this
    · have := own_s (m := m) (os := os) h rfl (gs := d'.toList) (by simpa using e1)
      rwa [Array.toArray_toList] at this
    · exact grown_s (flatK enc 8 d')
end Go.Proofs.Ytleoljnofdajfaa.KlZ

namespace Go.Proofs.Ytleoljnofdajfaa.KaW
open Go.RowKit Lb Bk InA KlI KaA KaG KaD KaF KaH KaM KaT
open KlK (at_ at_lt no Row Own cells blk_cells)
open TblS (rInfo)
open IntS (OwnI)
open RuP (cmpZ cmp_any)
set_option linter.unusedSimpArgs false
set_option linter.unusedVariables false

/-- Those of a sex; what AgesWithout answers. -/
def sexL (rs : List Kl) (woman : Bool) : List Kl := rs.filter (fun c => sexB c woman)
def agL (rs : List Kl) (woman : Bool) : List (Nat × Nat) := if goodB rs then sp (frF (sexL rs woman)) 121 else []
theorem ag_len (rs : List Kl) (woman : Bool) : (agL rs woman).length ≤ 121 := by
  unfold agL
  split
  · exact sp_len _ _
  · exact Nat.zero_le _
def loZ (x y : Kl) : Int := cmpZ x.lo y.lo
theorem lo_lt (x y : Kl) : ltOf loZ x y = decide (x.lo < y.lo) := by
  unfold ltOf loZ cmpZ
  apply decide_eq_decide.2
  by_cases h1 : x.lo < y.lo
  · simp [h1]
  · by_cases h2 : y.lo < x.lo <;> simp [h1, h2]
theorem lo_swo : Go.Sort.SWO (ltOf loZ) where
  irrefl x := by rw [lo_lt]; simp
  trans x y z h1 h2 := by rw [lo_lt] at *; simp at *; omega
  ntrans x y z h1 h2 := by rw [lo_lt] at *; simp at *; omega

set_option maxHeartbeats 1000000 in
theorem lo_any (x y : Kl) (W : World) : Calls Try.prog 36 #[.agg #[.int .i64 x.id, .string x.nm, .int .i64 x.lo, .int .i64 x.hi, .bool x.wo, .bool x.me, .int .i64 x.co, .int .i64 x.mo], .agg #[.int .i64 y.id, .string y.nm, .int .i64 y.lo, .int .i64 y.hi, .bool y.wo, .bool y.me, .int .i64 y.co, .int .i64 y.mo]] W fun e w' => e = .returned (.int .i64 (loZ x y)) ∧ ∃ q os', w' = Go.Sort.grow (W.drewN q) os' := by
  obtain ⟨⟨p0, p1, p2, p3, p4, p5, p6, p7⟩, -⟩ := blk_cells ((Blk.new W 33 #[.int .i64 x.id, .string x.nm, .int .i64 x.lo, .int .i64 x.hi, .bool x.wo, .bool x.me, .int .i64 x.co, .int .i64 x.mo]).alloc (.cells #[.int .i64 y.id, .string y.nm, .int .i64 y.lo, .int .i64 y.hi, .bool y.wo, .bool y.me, .int .i64 y.co, .int .i64 y.mo] 33))
  obtain ⟨⟨q0, q1, q2, q3, q4, q5, q6, q7⟩, -⟩ := blk_cells (show Blk ((W.alloc (.cells #[.int .i64 x.id, .string x.nm, .int .i64 x.lo, .int .i64 x.hi, .bool x.wo, .bool x.me, .int .i64 x.co, .int .i64 x.mo] 33)).alloc (.cells #[.int .i64 y.id, .string y.nm, .int .i64 y.lo, .int .i64 y.hi, .bool y.wo, .bool y.me, .int .i64 y.co, .int .i64 y.mo] 33)) (W.heap.size + 1) 33 #[.int .i64 y.id, .string y.nm, .int .i64 y.lo, .int .i64 y.hi, .bool y.wo, .bool y.me, .int .i64 y.co, .int .i64 y.mo] from by simpa using Blk.new (W.alloc (.cells #[.int .i64 x.id, .string x.nm, .int .i64 x.lo, .int .i64 x.hi, .bool x.wo, .bool x.me, .int .i64 x.co, .int .i64 x.mo] 33)) 33 #[.int .i64 y.id, .string y.nm, .int .i64 y.lo, .int .i64 y.hi, .bool y.wo, .bool y.me, .int .i64 y.co, .int .i64 y.mo])
  obtain ⟨z, hz⟩ : ∃ z, cmpZ x.lo y.lo = z := ⟨_, rfl⟩
  have C := Lib.hid (fun w => hz ▸ cmp_any x.lo y.lo w)
  rw [show loZ x y = z from hz]
  clear hz
  go_enter Try.func36, Try.ntmps36
  go_wp2_with fail
  refine (C.out _).mono ?_
  rintro e w1 ⟨rfl, rfl⟩
  go_wp2
  go_ret
  exact ⟨rfl, 0, _, by rw [Go.Sort.alloc_eq_grow, Go.Sort.alloc_eq_grow, Go.Sort.grow_grow]; rfl⟩

set_option maxHeartbeats 1000000 in
theorem sx1_any (c : Kl) (woman : Bool) (B : Nat) (w : World) (hw : w.cell? ⟨B, 0, none⟩ = some (.bool woman)) : Calls Try.prog 33 #[.agg #[.int .i64 c.id, .string c.nm, .int .i64 c.lo, .int .i64 c.hi, .bool c.wo, .bool c.me, .int .i64 c.co, .int .i64 c.mo], .pointer (some ⟨B, 0, none⟩)] w fun e w' => e = .returned (.bool (sexB c woman)) ∧ Below w.heap.size w w' := by
  have HB := Lib.hid ((Below.refl w.heap.size w).alloc (Nat.le_refl _) (.cells #[.int .i64 c.id, .string c.nm, .int .i64 c.lo, .int .i64 c.hi, .bool c.wo, .bool c.me, .int .i64 c.co, .int .i64 c.mo] 33))
  obtain ⟨⟨p0, p1, p2, p3, p4, p5, p6, p7⟩, -⟩ := blk_cells (Blk.new w 33 #[.int .i64 c.id, .string c.nm, .int .i64 c.lo, .int .i64 c.hi, .bool c.wo, .bool c.me, .int .i64 c.co, .int .i64 c.mo])
  have l0 := (HB.out.cell (World.block_lt_of_cell? w _ hw)).trans hw
  obtain ⟨o, ho⟩ : ∃ o, sexB c woman = o := ⟨_, rfl⟩
  have C := Lib.hid (fun w => ho ▸ sex_any c woman w)
  rw [ho]
  clear ho hw
  go_enter Try.func33, Try.ntmps33
  go_upto_region 1 with (fail)
  generalize w.alloc (.cells #[.int .i64 c.id, .string c.nm, .int .i64 c.lo, .int .i64 c.hi, .bool c.wo, .bool c.me, .int .i64 c.co, .int .i64 c.mo] 33) = wz at *
  go_wp2_with fail
  refine (C.out _).mono ?_
  rintro e w1 ⟨rfl, hb⟩
  have HB1 := Lib.hid (HB.out.trans (hb.mono HB.out.size))
  clear hb
  go_wp2
  go_ret
  exact ⟨rfl, HB1.out⟩

set_option maxRecDepth 20000 in
set_option maxHeartbeats 8000000 in
theorem ages_impl (rs : List Kl) (hf : ∀ i, i < rs.length → KlK.Is (at_ rs i)) (hl : rs.length ≤ 1048576) (woman : Bool) (a : Option Addr) (cap : Nat) (w : World) (hc : rs.length ≤ cap) (hr : Row w a rs) :
    Calls Try.prog 11 #[.slice a rs.length cap, .bool woman] w (TPost w (agL rs woman) (goodB rs)) := by
  obtain ⟨t1, ri, rz0, rz1, rz2⟩ := info_parts rInfo
  have HB := Lib.hid ((Below.refl w.heap.size w).alloc (Nat.le_refl _) (.cells #[.bool woman] 4))
  have HK := Lib.hid (Blk.new w 4 #[.bool woman])
  have H := Lib.hid hr
  have hml : rs.length ≤ maxLen := by unfold maxLen; omega
  obtain ⟨g, hg⟩ : ∃ g, goodB rs = g := ⟨_, rfl⟩
  have c1 := Lib.hid (fun w hr => hg ▸ KaA.impl_any a cap rs w hc hr hf hml)
  have HG := Lib.hid hg
  obtain ⟨l, hl2⟩ : ∃ l, agL rs woman = l := ⟨_, rfl⟩
  have HLL := Lib.hid hl2
  rw [hg, hl2]
  have HLn := Lib.hid hl
  clear hr hg hl2 hf hc hml hl
  go_enter Try.func11, Try.ntmps11
  go_wp2_with fail
  refine (c1.out _ (H.out.later HB.out)).mono ?_
  rintro e w1 ⟨rfl, hb⟩
  have HB1 := Lib.hid (HB.out.trans (hb.mono HB.out.size))
  have HK1 := Lib.hid (HK.out.later hb)
  clear hb HB HK
  cases g with
  | false =>
    have h2 : l = [] := by rw [← HLL.out]; unfold agL; rw [HG.out]; rfl
    subst h2
    have HT := Lib.hid (Tg.start HB1.out)
    go_wp2
    go_ret2
    exact ⟨_, _, rfl, HT.out.own, HT.out.b⟩
  | true =>
    have hn8 := good_len HG.out
    have h2 := Lib.hid (show sp (frF (sexL rs woman)) 121 = l from by rw [← HLL.out]; unfold agL; rw [HG.out]; rfl)
    have C2 := Lib.hid (that_any 33 #[.pointer (some ⟨w.heap.size, 0, none⟩)] (fun c => sexB c woman) (fun _ => True) w1 (fun args w => FnEn.enter_of Try.func33 (by kernel_rfl) rfl args w)
      (fun c _ w' hb => sx1_any c woman w.heap.size w' ((HK1.out.later hb).cell 0 rfl)) a cap rs (H.out.later HB1.out) (fun _ _ => trivial) HLn.out)
    have hsz := HB1.out.size
    go_wp2_with fail
    refine C2.out.mono ?_
    rintro e w2 ⟨v2, rfl, ho, hb⟩
    have HO2 := Lib.hid (show Own w2 w1.heap.size v2 (sexL rs woman) from ho)
    have HB2 := Lib.hid (HB1.out.trans (hb.mono hsz))
    clear ho hb HB1 C2 c1
    have hsl : (sexL rs woman).length ≤ 8 := Nat.le_trans (fil_len _ rs) hn8
    obtain ⟨fs, hfs⟩ : ∃ fs, sexL rs woman = fs := ⟨_, rfl⟩
    have HFs := Lib.hid hfs
    have HOK := Lib.hid (show ∀ x, x ∈ fs → okK x = true from by
      rw [← hfs]
      intro x hx
      obtain ⟨j, hj, e⟩ := List.mem_iff_getElem.1 (List.mem_filter.1 hx).1
      rw [← e, ← at_lt hj]
      exact good_ok HG.out hj)
    rw [hfs] at h2 HO2 hsl
    have C3 := Lib.hid (fun w h => KlZ.sort_any 36 loZ lo_swo (fun args w => FnEn.enter_of Try.func36 (by kernel_rfl) rfl args w) (fun x y W => lo_any x y W) w1.heap.size v2 fs w h (by omega))
    clear hfs
    go_wp2_with fail
    refine (C3.out _ HO2.out).mono ?_
    rintro e w3 ⟨rfl, gs, hgl, hgm, hgs, ho, hgr⟩
    have hb3 : Below w.heap.size w2 w3 := (Below.refl _ _).grown hgr HB2.out.size (fun k e => Nat.le_trans hsz (World.ownsRow.lt HO2.out k e).1)
    have HB3 := Lib.hid (HB2.out.trans hb3)
    obtain ⟨ga, gc, rfl, -, -⟩ := ho.slice
    have HO3 := Lib.hid ho
    have HGL := Lib.hid (show ∀ i, i < gs.length → okK (at_ gs i) = true from fun i hi => by
      rw [at_lt hi]
      exact HOK.out _ ((hgm _).1 (List.getElem_mem hi)))
    have HSo := Lib.hid (show ∀ j, j < gs.length → ∀ i, j ≤ i → i < gs.length → (at_ gs j).lo ≤ (at_ gs i).lo from fun j hj i hji hi => by
      rcases Nat.lt_or_ge j i with h1 | h1
      · have := hgs j i h1 hi
        rw [lo_lt] at this
        have := of_decide_eq_false this
        omega
      · obtain rfl : i = j := by omega
        exact Int.le_refl _)
    have h3 := Lib.hid (show sp (frF gs) 121 = l from by rw [fr_same hgm]; exact h2.out)
    have hg8 : gs.length ≤ 8 := by omega
    have hsz3 := HB3.out.size
    have HT3 := Lib.hid (Tg.start HB3.out)
    have HO4 := Lib.hid (show Own (w3.alloc (.cells #[] 28)) w1.heap.size (.slice ga gs.length gc) gs from HO3.out.alloc _)
    obtain ⟨n, hn⟩ : ∃ n, gs.length = n := ⟨_, rfl⟩
    have HN := Lib.hid hn
    rw [hn] at HO4 hg8 ⊢
    clear hgl hgm hgs ho hgr hb3 HB2 HO2 C3 hsl h2 HOK HFs HB3 HO3 hn
    go_wp2_with fail
    go_loopg [23, 8, 7] n (fun gk i nx v wr => ∃ (k N : Nat) (rr : Nat → Value), k ≤ n ∧ gk = n - k ∧ i = .int .i64 k ∧ nx = .int .i64 N ∧ Sw gs k N ∧ Tg w v (sp (frF gs) N) rr wr ∧ Own wr w1.heap.size (.slice ga n gc) gs)
    case atStart => exact ⟨0, 0, _, Nat.zero_le _, rfl, rfl, rfl, Sw.start gs, HT3.out, HO4.out⟩
    case round =>
      clear HT3 HO4
      obtain ⟨k, N, rr, hk, hgk, rfl, rfl, hS, hT, hO⟩ := hrel
      have HS := Lib.hid hS
      have HO := Lib.hid hO
      have HT := Lib.hid hT
      have hN := hS.le
      clear hS hT hO
      by_cases hlt : k < n
      · obtain ⟨b, off, rfl, c0, c1, c2, c3, c4, c5, c6, c7⟩ := (show Row wr ga gs from by have h := HO.out; rw [← HN.out] at h; exact h.row).cells (i := k) (by rw [HN.out]; exact hlt)
        obtain ⟨y, hy⟩ : ∃ y, at_ gs k = y := ⟨_, rfl⟩
        have hag := ok_ages (HGL.out k (by rw [HN.out]; exact hlt))
        rw [hy] at c0 c1 c2 c3 c4 c5 c6 c7 hag
        obtain ⟨l0, hl0⟩ : ∃ x : Nat, y.lo = (x : Int) := ⟨y.lo.toNat, by omega⟩
        obtain ⟨h0, hh0⟩ : ∃ x : Nat, y.hi = (x : Int) := ⟨y.hi.toNat, by omega⟩
        have HSt := Lib.hid (HS.out.step (j := k) (by rw [HN.out]; exact hlt) (by rw [hy]; exact hl0) (by rw [hy]; exact hh0) (by omega) (by omega) (HSo.out k (by rw [HN.out]; exact hlt)))
        have hlb : l0 ≤ 120 := by omega
        have hhb : h0 ≤ 120 := by omega
        have HL0 := Lib.hid hl0
        have HH0 := Lib.hid hh0
        have HT2 := Lib.hid (HT.out.alloc (.cells #[.int .i64 y.id, .string y.nm, .int .i64 y.lo, .int .i64 y.hi, .bool y.wo, .bool y.me, .int .i64 y.co, .int .i64 y.mo] 33))
        have HO2 := Lib.hid (show Own (wr.alloc (.cells #[.int .i64 y.id, .string y.nm, .int .i64 y.lo, .int .i64 y.hi, .bool y.wo, .bool y.me, .int .i64 y.co, .int .i64 y.mo] 33)) w1.heap.size (.slice (some ⟨b, off, none⟩) n gc) gs from HO.out.alloc _)
        have HK2 := Lib.hid (Blk.new wr 33 #[.int .i64 y.id, .string y.nm, .int .i64 y.lo, .int .i64 y.hi, .bool y.wo, .bool y.me, .int .i64 y.co, .int .i64 y.mo])
        have hspl := sp_len (frF gs) N
        obtain ⟨sl, hsl⟩ : ∃ x, (sp (frF gs) N).length = x := ⟨_, rfl⟩
        rw [hsl] at hspl
        have HM := Lib.hid hsl
        clear hy hl0 hh0 hag HT HO hsl
        have hmx : IntKind.i64.wrap ((h0 : Int) + 1) = ((h0 + 1 : Nat) : Int) := by rw [IntWalk.i64_in _ (by omega)]; omega
        go_upto_region 10 with (fail)
        obtain ⟨⟨e0, e1, e2, e3, e4, e5, e6, e7⟩, -⟩ := blk_cells HK2.out
        generalize wr.alloc (.cells #[.int .i64 y.id, .string y.nm, .int .i64 y.lo, .int .i64 y.hi, .bool y.wo, .bool y.me, .int .i64 y.co, .int .i64 y.mo] 33) = wz at *
        rw [HL0.out] at e2
        rw [HH0.out] at e3
        clear c0 c1 c2 c3 c4 c5 c6 c7
        have HT := HT2
        by_cases hNl : N < l0
        · have hd : decide ((N : Int) < (l0 : Int)) = true := decide_eq_true (by omega)
          have hl1 : 1 ≤ l0 := by omega
          have hw1 : ((l0 : Int) - 1) = ((l0 - 1 : Nat) : Int) := by omega
          have HE2 := Lib.hid (HSt.out.2.1 hNl)
          have HHw := Lib.hid hw1
          go_upto_region 11 with (fail)
          have HTa := Lib.hid ((HT.out.alloc (.cells #[.int .i64 (N : Nat), .int .i64 (l0 - 1 : Nat)] 3)).alloc (.cells #[.slice (some ⟨wz.heap.size, 0, none⟩) 2 2] 28))
          have HQa := Lib.hid ((own_two wz wz.heap.size (N : Nat) (l0 - 1 : Nat) (Nat.le_refl _)).alloc (.cells #[.slice (some ⟨wz.heap.size, 0, none⟩) 2 2] 28))
          have HLo := Lib.hid HT.out.low
          have hcn := cell_one_new (wz.alloc (.cells #[.int .i64 (N : Nat), .int .i64 (l0 - 1 : Nat)] 3)) (.slice (some ⟨wz.heap.size, 0, none⟩) 2 2) 28
          rw [World.size_alloc] at hcn
          have hown := HTa.out.own.tbl
          rw [HM.out] at hown
          have hsz := HT.out.b.size
          go_wp2_with (at_builtin; (refine wpList_append_own _ rfl (.tmp 31) (.tmp 37) 40 rfl w.heap.size 28 t1 (.slice none 0 0) 1 24 Try.underlying40 ri rz0 rz1 rz2 rfl (by decide) _ sl _ rfl hown ⟨_, 0, none⟩ 1 1 [.slice (some ⟨wz.heap.size, 0, none⟩) 2 2] rfl rfl hcn (by simp [Value.oneCell']) (by unfold maxLen; omega) (by omega) (by simp; omega) ?_; intro v' w3 hown3 hgr3 _; have HOP := Lib.hid (show Own w3 w1.heap.size (.slice (some ⟨b, off, none⟩) n gc) gs from ((HO2.out.alloc _).alloc _).kept hgr3 (own_apart ((HO2.out.alloc _).alloc _) HTa.out.own.tbl (by decide))); have HKp := blk_keep HTa.out.own.tbl ((HK2.out.alloc (.cells #[.int .i64 (N : Nat), .int .i64 (l0 - 1 : Nat)] 3)).alloc (.cells #[.slice (some ⟨wz.heap.size, 0, none⟩) 2 2] 28)) (by decide) hgr3; have e3n : w3.cell? ⟨wr.heap.size, 3, none⟩ = some (.int .i64 (h0 : Nat)) := (by have h := (blk_cells HKp).1.2.2.2.1; rwa [HH0.out] at h); clear HKp;  have HP3 := Lib.hid (HTa.out.push HQa.out (by omega) HLo.out (by rw [HM.out]; exact hown3) hgr3); clear hown3 hgr3))
          go_roundg (n - (k + 1))
          case measure => omega
          case rel => exact ⟨k + 1, max N (h0 + 1), _, by omega, rfl, by go_num, by go_num, HSt.out.1, by rw [HE2.out]; exact HP3.out, HOP.out⟩
        · have hd : decide ((N : Int) < (l0 : Int)) = false := decide_eq_false (by omega)
          have HE2 := Lib.hid (HSt.out.2.2 hNl)
          go_wp2
          go_roundg (n - (k + 1))
          case measure => omega
          case rel => exact ⟨k + 1, max N (h0 + 1), _, by omega, rfl, by go_num, by go_num, HSt.out.1, by rw [HE2.out]; exact HT.out, HO2.out⟩
      · obtain rfl : k = n := by omega
        have HDn := Lib.hid (show Sw gs gs.length N from by rw [HN.out]; exact HS.out).done
        have hspl := sp_len (frF gs) N
        obtain ⟨sl, hsl⟩ : ∃ x, (sp (frF gs) N).length = x := ⟨_, rfl⟩
        rw [hsl] at hspl
        have HM := Lib.hid hsl
        clear hsl
        by_cases hN2 : N ≤ 120
        · have hd : decide ((N : Int) ≤ 120) = true := decide_eq_true (by omega)
          have HE2 := Lib.hid (HDn.out.1 hN2)
          go_upto_region 15 with (fail)
          have HTa := Lib.hid ((HT.out.alloc (.cells #[.int .i64 (N : Nat), .int .i64 (120 : Nat)] 3)).alloc (.cells #[.slice (some ⟨wr.heap.size, 0, none⟩) 2 2] 28))
          have HQa := Lib.hid ((own_two wr wr.heap.size (N : Nat) (120 : Nat) (Nat.le_refl _)).alloc (.cells #[.slice (some ⟨wr.heap.size, 0, none⟩) 2 2] 28))
          have HLo := Lib.hid HT.out.low
          have hcn := cell_one_new (wr.alloc (.cells #[.int .i64 (N : Nat), .int .i64 (120 : Nat)] 3)) (.slice (some ⟨wr.heap.size, 0, none⟩) 2 2) 28
          rw [World.size_alloc] at hcn
          have hown := HTa.out.own.tbl
          rw [HM.out] at hown
          have hsz := HT.out.b.size
          go_wp2_with (at_builtin; (refine wpList_append_own _ rfl (.tmp 47) (.tmp 50) 40 rfl w.heap.size 28 t1 (.slice none 0 0) 1 24 Try.underlying40 ri rz0 rz1 rz2 rfl (by decide) _ sl _ rfl hown ⟨_, 0, none⟩ 1 1 [.slice (some ⟨wr.heap.size, 0, none⟩) 2 2] rfl rfl hcn (by simp [Value.oneCell']) (by unfold maxLen; omega) (by omega) (by simp; omega) ?_; intro v' w3 hown3 hgr3 _;  have HP3 := Lib.hid (HTa.out.push HQa.out (by omega) HLo.out (by rw [HM.out]; exact hown3) hgr3); clear hown3 hgr3))
          go_ret2
          exact ⟨_, _, rfl, by have h := HP3.out.own; rw [show sp (frF gs) N ++ [(N, 120)] = l from by rw [← HE2.out, h3.out]] at h; exact h, HP3.out.b⟩
        · have hd : decide ((N : Int) ≤ 120) = false := decide_eq_false (by omega)
          have HE2 := Lib.hid (HDn.out.2 hN2)
          go_wp2
          go_ret2
          exact ⟨_, _, rfl, by have h := HT.out.own; rw [show sp (frF gs) N = l from by rw [← HE2.out, h3.out]] at h; exact h, HT.out.b⟩
end Go.Proofs.Ytleoljnofdajfaa.KaW

namespace Go.Proofs.Ytleoljnofdajfaa.KaY
open Go.RowKit Lb Bk InA KlI KaA KaG KaD KaF KaH KaM KaT KaW
open KlK (at_ at_lt no Row Own cells blk_cells)
open TblS (rInfo)
open IntS (OwnI)
set_option linter.unusedSimpArgs false
set_option linter.unusedVariables false

/-- Whether one of them admits. -/
def anyB (rs : List Kl) (woman : Bool) (x : Nat) : Bool := rs.any (fun c => admB c (x : Int) woman)
theorem any_take {rs : List Kl} {woman : Bool} {x k : Nat} (hk : k < rs.length) : anyB (rs.take (k + 1)) woman x = (anyB (rs.take k) woman x || admB (at_ rs k) (x : Int) woman) := by
  unfold anyB
  rw [List.take_succ_eq_append_getElem hk, List.any_append, ← at_lt hk]
  simp
theorem any_free (rs : List Kl) (woman : Bool) (x : Nat) : anyB rs woman x = !(frF (sexL rs woman) x) := by
  unfold anyB frF sexL
  rw [Bool.not_not, List.any_filter]
  congr 1
  funext c
  unfold admB
  exact Bool.and_comm _ _
theorem ext_none {l : List (Nat × Nat)} {k : Nat} (h : l.getLast? = none) : l = [] ∧ ext l k = [(k, k)] := by
  have := List.getLast?_eq_none_iff.1 h
  subst this
  exact ⟨rfl, rfl⟩
theorem ext_same {l : List (Nat × Nat)} {p : Nat × Nat} {k : Nat} (h : p.2 + 1 = k) : ext (l ++ [p]) k = l ++ [(p.1, k)] := by
  obtain ⟨s, e⟩ := p
  subst h
  exact ext_on l s e
theorem ext_far {l : List (Nat × Nat)} {p : Nat × Nat} {k : Nat} (h : ¬ p.2 + 1 = k) : ext (l ++ [p]) k = (l ++ [p]) ++ [(k, k)] := by
  refine ext_new fun q hq => ?_
  rw [List.getLast?_concat] at hq
  cases hq
  exact h

set_option maxRecDepth 20000 in
set_option maxHeartbeats 8000000 in
theorem ages_spec (rs : List Kl) (hf : ∀ i, i < rs.length → KlK.Is (at_ rs i)) (hl : rs.length ≤ 1048576) (woman : Bool) (a : Option Addr) (cap : Nat) (w : World) (hr : Row w a rs) :
    Calls Try.prog 12 #[.slice a rs.length cap, .bool woman] w (TPost w (agL rs woman) (goodB rs)) := by
  obtain ⟨t1, ri, rz0, rz1, rz2⟩ := info_parts rInfo
  have H := Lib.hid hr
  have hml : rs.length ≤ maxLen := by unfold maxLen; omega
  obtain ⟨g, hg⟩ : ∃ g, goodB rs = g := ⟨_, rfl⟩
  have c1 := Lib.hid (fun w hr => hg ▸ good_any a cap rs w hr hf hml)
  have HG := Lib.hid hg
  obtain ⟨l, hl2⟩ : ∃ l, agL rs woman = l := ⟨_, rfl⟩
  have HLL := Lib.hid hl2
  rw [hg, hl2]
  obtain ⟨m, hm⟩ : ∃ m, rs.length = m := ⟨_, rfl⟩
  have HMm := Lib.hid hm
  rw [hm] at hl c1 ⊢
  have HT0 := Lib.hid (Tg.start (Below.refl w.heap.size w))
  clear hr hg hl2 hf hml hm
  go_enter Try.func12, Try.ntmps12
  go_wp2_with fail
  refine (c1.out _ (H.out.later HT0.out.b)).mono ?_
  rintro e w1 ⟨rfl, hb⟩
  have HT1 := Lib.hid (HT0.out.below hb)
  clear hb HT0
  cases g with
  | false =>
    have h2 : l = [] := by rw [← HLL.out]; unfold agL; rw [HG.out]; rfl
    subst h2
    go_wp2
    go_ret2
    exact ⟨_, _, rfl, HT1.out.own, HT1.out.b⟩
  | true =>
    have hm8 := good_len HG.out
    rw [HMm.out] at hm8
    have h2 := Lib.hid (show sp (frF (sexL rs woman)) 121 = l from by rw [← HLL.out]; unfold agL; rw [HG.out]; rfl)
    clear c1
    obtain ⟨F, hF⟩ : ∃ F, frF (sexL rs woman) = F := ⟨_, rfl⟩
    have HFq := Lib.hid hF
    rw [hF] at h2
    clear hF
    go_wp2_with fail
    go_loopg [7, 6, 8, 9, 10] 121 (fun gk i v _ _ _ wr => ∃ (k : Nat) (rr : Nat → Value), k ≤ 121 ∧ gk = 121 - k ∧ i = .int .i64 k ∧ Tg w v (sp F k) rr wr)
    case atStart => exact ⟨0, _, by omega, rfl, rfl, HT1.out⟩
    case round =>
      clear HT1
      obtain ⟨k, rr, hk, hgk, rfl, hT⟩ := hrel
      have HT := Lib.hid hT
      clear hT
      by_cases hlt : k < 121
      · have hk120 : (k : Int) ≤ 120 := by omega
        obtain ⟨WA, rfl⟩ : ∃ WA, WA = wr := ⟨wr, rfl⟩
        go_wp2_with fail
        go_loopw [9, 8] (fun j d wq => ∃ q : Nat, q ≤ m ∧ j = .int .i64 q ∧ d = .bool (anyB (rs.take q) woman k) ∧ Below WA.heap.size WA wq) (fun j _ _ => m - (intOf j).toNat)
        case atStart => exact ⟨0, Nat.zero_le _, rfl, rfl, Below.refl _ _⟩
        case round =>
          obtain ⟨q, hq, rfl, rfl, hB⟩ := hrel
          have HB := Lib.hid hB
          clear hB
          obtain ⟨an, han⟩ : ∃ x, anyB (rs.take q) woman k = x := ⟨_, rfl⟩
          rw [han]
          by_cases hlt2 : q < m
          · have HNx := Lib.hid (any_take (rs := rs) (woman := woman) (x := k) (k := q) (by rw [HMm.out]; exact hlt2))
            rw [han] at HNx
            obtain ⟨b, off, rfl, c0, c1, c2, c3, c4, c5, c6, c7⟩ := (H.out.later (HT.out.b.trans (HB.out.mono HT.out.b.size))).cells (i := q) (by rw [HMm.out]; exact hlt2)
            obtain ⟨y, hy⟩ : ∃ y, at_ rs q = y := ⟨_, rfl⟩
            rw [hy] at c0 c1 c2 c3 c4 c5 c6 c7 HNx
            obtain ⟨ad, had⟩ : ∃ o, admB y (k : Int) woman = o := ⟨_, rfl⟩
            rw [had] at HNx
            have CP := Lib.hid (fun w => had ▸ adm_spec y (k : Int) woman w)
            have hq0 : (0 : Int) ≤ (q : Int) := by omega
            have hq1 : (q : Int) < (m : Int) := by omega
            clear hy had han
            cases an with
            | true =>
              go_wp2
              go_roundw
              case rel => exact ⟨q + 1, by omega, by go_num, by rw [HNx.out]; rfl, HB.out⟩
              case measure => simp [intOf]; omega
            | false =>
              go_wp2_with fail
              refine (CP.out _).mono ?_
              rintro e w4 ⟨rfl, hb⟩
              have HB4 := Lib.hid (HB.out.trans (hb.mono HB.out.size))
              clear hb
              go_wp2
              go_roundw
              case rel => exact ⟨q + 1, by omega, by go_num, by rw [HNx.out]; rfl, HB4.out⟩
              case measure => simp [intOf]; omega
          · obtain rfl : q = m := by omega
            have HA := Lib.hid (show an = !(F k) from by
              rw [← HFq.out, ← any_free, ← han, List.take_of_length_le (by rw [HMm.out]; exact Nat.le_refl _)])
            have HTn := Lib.hid (HT.out.below HB.out)
            clear han HT HB
            cases an with
            | true =>
              have HE := Lib.hid (show sp F (k + 1) = sp F k from by
                have h := HA.out
                rw [sp]
                cases hF : F k with
                | false => rfl
                | true => rw [hF] at h; cases h)
              go_wp2
              go_roundg (121 - (k + 1))
              case measure => omega
              case rel => exact ⟨k + 1, _, by omega, rfl, by go_num, by rw [HE.out]; exact HTn.out⟩
            | false =>
              have HE := Lib.hid (show sp F (k + 1) = ext (sp F k) k from by
                have h := HA.out
                rw [sp]
                cases hF : F k with
                | true => rfl
                | false => rw [hF] at h; cases h)
              have hspl := sp_len F k
              obtain ⟨L, hL⟩ : ∃ L, sp F k = L := ⟨_, rfl⟩
              rw [hL] at HTn HE hspl
              clear hL HA
              have HT := HTn
              rcases List.eq_nil_or_concat L with hnil | ⟨L', p, hcc⟩
              · subst hnil
                have HE2 := Lib.hid (show sp F (k + 1) = [] ++ [(k, k)] from by rw [HE.out]; rfl)
                have HM := Lib.hid (show ([] : List (Nat × Nat)).length = 0 from rfl)
                obtain ⟨oa, oc, rfl⟩ := HT.out.own.slice
                rw [HM.out] at *
                go_upto_region 16 with (fail)
                have HTa := Lib.hid ((HT.out.alloc (.cells #[.int .i64 (k : Nat), .int .i64 (k : Nat)] 3)).alloc (.cells #[.slice (some ⟨wr.heap.size, 0, none⟩) 2 2] 28))
                have HQa := Lib.hid ((own_two wr wr.heap.size (k : Nat) (k : Nat) (Nat.le_refl _)).alloc (.cells #[.slice (some ⟨wr.heap.size, 0, none⟩) 2 2] 28))
                have HLo := Lib.hid HT.out.low
                have hcn := cell_one_new (wr.alloc (.cells #[.int .i64 (k : Nat), .int .i64 (k : Nat)] 3)) (.slice (some ⟨wr.heap.size, 0, none⟩) 2 2) 28
                rw [World.size_alloc] at hcn
                have hown := HTa.out.own.tbl
                rw [HM.out] at hown
                have hsz := HT.out.b.size
                go_wp2_with (at_builtin; (refine wpList_append_own _ rfl (.tmp 66) (.tmp 70) 40 rfl w.heap.size 28 t1 (.slice none 0 0) 1 24 Try.underlying40 ri rz0 rz1 rz2 rfl (by decide) _ 0 _ rfl hown ⟨_, 0, none⟩ 1 1 [.slice (some ⟨wr.heap.size, 0, none⟩) 2 2] rfl rfl hcn (by simp [Value.oneCell']) (by unfold maxLen; omega) (by omega) (by simp; omega) ?_; intro v' w3 hown3 hgr3 _;  have HP3 := Lib.hid (HTa.out.push HQa.out (by omega) HLo.out (by rw [HM.out]; exact hown3) hgr3); clear hown3 hgr3))
                go_roundg (121 - (k + 1))
                case measure => omega
                case rel => exact ⟨k + 1, _, by omega, rfl, by go_num, by rw [HE2.out]; exact HP3.out⟩
              · rw [List.concat_eq_append] at hcc
                subst hcc
                obtain ⟨n', hn'⟩ : ∃ x, L'.length = x := ⟨_, rfl⟩
                have HN' := Lib.hid hn'
                have hspl2 : n' + 1 ≤ k := by rw [← hn']; simpa using hspl
                obtain ⟨tg, tc, tb, tbc, rfl, d0, d1, d2, d3⟩ := HT.out.last
                have HM := Lib.hid (show (L' ++ [p]).length = n' + 1 from by rw [← hn']; simp)
                have HTl := HT.out
                rw [hn'] at HTl d0 d3 ⊢
                replace HT := Lib.hid HTl
                clear HTl
                have hw1 : IntKind.i64.wrap ((k : Int) - 1) = (k : Int) - 1 := IntWalk.i64_in _ (by omega)
                have hn1 : (((n' + 1 : Nat) : Int) - 1) = (n' : Int) := by omega
                have hn0 : (0 : Int) ≤ (n' : Int) := by omega
                have hn2 : (n' : Int) < ((n' + 1 : Nat) : Int) := by omega
                have hpos : decide ((0 : Int) < ((n' + 1 : Nat) : Int)) = true := decide_eq_true (by omega)
                clear hspl hn'
                by_cases he : p.2 + 1 = k
                · have hd : (((p.2 : Nat) : Int) == (k : Int) - 1) = true := by simp; omega
                  have HE2 := Lib.hid (show sp F (k + 1) = L' ++ [(p.1, k)] from by rw [HE.out, ext_same he])
                  clear he
                  have hal := (Below.refl wr.heap.size wr).alloc (Nat.le_refl _) (.cells #[.int .i64 (p.1 : Nat), .int .i64 (k : Nat)] 3)
                  have hsz := HT.out.b.size
                  have HR := Lib.hid (Tg.repl (n := n' + 1) (HT.out.alloc (.cells #[.int .i64 (p.1 : Nat), .int .i64 (k : Nat)] 3)) (by rw [HN'.out]) (own_two wr wr.heap.size (p.1 : Nat) (k : Nat) (Nat.le_refl _)) hsz (fun i hi x hx => HT.out.low i (by rw [List.length_append]; exact hi) x hx))
                  rw [HN'.out] at HR
                  have htg := World.block_lt_of_cell? wr _ d0
                  rw [World.setCell_alloc_past _ _ _ _ htg] at HR
                  have f0 : (wr.alloc (.cells #[.int .i64 (p.1 : Nat), .int .i64 (k : Nat)] 3)).cell? ⟨tg, n', none⟩ = some (.slice (some ⟨tb, 0, none⟩) 2 tbc) := (hal.cell htg).trans d0
                  have f3 : (wr.alloc (.cells #[.int .i64 (p.1 : Nat), .int .i64 (k : Nat)] 3)).frozen? ⟨tg, n', none⟩ = false := (hal.frozen htg).trans d3
                  clear hal
                  go_wp2
                  go_roundg (121 - (k + 1))
                  case measure => omega
                  case rel => exact ⟨k + 1, _, by omega, rfl, by go_num, by rw [HE2.out]; exact HR.out⟩
                · have hd : (((p.2 : Nat) : Int) == (k : Int) - 1) = false := by simp; omega
                  have HE2 := Lib.hid (show sp F (k + 1) = (L' ++ [p]) ++ [(k, k)] from by rw [HE.out, ext_far he])
                  clear he
                  go_upto_region 16 with (fail)
                  have HTa := Lib.hid ((HT.out.alloc (.cells #[.int .i64 (k : Nat), .int .i64 (k : Nat)] 3)).alloc (.cells #[.slice (some ⟨wr.heap.size, 0, none⟩) 2 2] 28))
                  have HQa := Lib.hid ((own_two wr wr.heap.size (k : Nat) (k : Nat) (Nat.le_refl _)).alloc (.cells #[.slice (some ⟨wr.heap.size, 0, none⟩) 2 2] 28))
                  have HLo := Lib.hid HT.out.low
                  have hcn := cell_one_new (wr.alloc (.cells #[.int .i64 (k : Nat), .int .i64 (k : Nat)] 3)) (.slice (some ⟨wr.heap.size, 0, none⟩) 2 2) 28
                  rw [World.size_alloc] at hcn
                  have hown := HTa.out.own.tbl
                  rw [HM.out] at hown
                  have hsz := HT.out.b.size
                  go_wp2_with (at_builtin; (refine wpList_append_own _ rfl (.tmp 66) (.tmp 70) 40 rfl w.heap.size 28 t1 (.slice none 0 0) 1 24 Try.underlying40 ri rz0 rz1 rz2 rfl (by decide) _ (n' + 1) _ rfl hown ⟨_, 0, none⟩ 1 1 [.slice (some ⟨wr.heap.size, 0, none⟩) 2 2] rfl rfl hcn (by simp [Value.oneCell']) (by unfold maxLen; omega) (by omega) (by simp; omega) ?_; intro v' w3 hown3 hgr3 _;  have HP3 := Lib.hid (HTa.out.push HQa.out (by omega) HLo.out (by rw [HM.out]; exact hown3) hgr3); clear hown3 hgr3))
                  go_roundg (121 - (k + 1))
                  case measure => omega
                  case rel => exact ⟨k + 1, _, by omega, rfl, by go_num, by rw [HE2.out]; exact HP3.out⟩
      · obtain rfl : k = 121 := by omega
        go_wp2
        go_ret2
        exact ⟨_, _, rfl, by have h := HT.out.own; rw [h2.out] at h; exact h, HT.out.b⟩

/-- The table as the laws' helpers take it. -/
theorem both (rs : List Kl) (hf : ∀ i, i < rs.length → KlK.Is (at_ rs i)) (hl : rs.length ≤ 1048576) (woman : Bool) : ∃ (l : List (Nat × Nat)) (ok : Bool), l.length ≤ 121 ∧
    (∀ a cap w, rs.length ≤ cap → Row w a rs → Calls Try.prog 12 #[.slice a rs.length cap, .bool woman] w (TPost w l ok)) ∧
    (∀ a cap w, rs.length ≤ cap → Row w a rs → Calls Try.prog 11 #[.slice a rs.length cap, .bool woman] w (TPost w l ok)) :=
  ⟨agL rs woman, goodB rs, ag_len rs woman, fun a cap w _ hr => ages_spec rs hf hl woman a cap w hr, fun a cap w hc hr => ages_impl rs hf hl woman a cap w hc hr⟩
end Go.Proofs.Ytleoljnofdajfaa.KaY
