/- What the search for parts has in memory: the bits of what it has seen, the lists, the list that grows. -/
import Derived.Test.YtnenaponiahalaaTblS
import Derived.Test.YtnenaponiahalaaPrtM
import Derived.Test.YtnenaponiahalaaShelf
import Derived.Sort.OwnSortedInts
namespace Go.Proofs.Ytnenaponiahalaa.PrtB
open Go.RowKit Lb IntS MapS SpecB TblS
set_option linter.unusedSimpArgs false
set_option linter.unusedVariables false

/-- The bits. -/
def seenCs (sb : Nat → Bool) : Array Value := ((List.range 36).map fun i => Value.bool (sb i)).toArray
def setB (sb : Nat → Bool) (j : Nat) : Nat → Bool := fun i => sb i || i == j
theorem seenCs_set (sb : Nat → Bool) (j : Nat) : (seenCs sb).setIfInBounds j (.bool true) = seenCs (setB sb j) := by
  unfold seenCs setB
  apply Array.ext
  · simp
  · intro i h1 h2
    simp only [Array.size_setIfInBounds, List.size_toArray, List.length_map, List.length_range] at h1
    by_cases e : j = i
    · subst e; simp [Array.getElem_setIfInBounds]
    · simp [Array.getElem_setIfInBounds, e, show (i == j) = false by simp; omega]
theorem seen_cell {w : World} {g : Nat} {t : TypeId} {sb : Nat → Bool} (h : Blk w g t (seenCs sb)) {j : Nat} (hj : j < 36) : w.cell? ⟨g, j, none⟩ = some (.bool (sb j)) ∧ w.frozen? ⟨g, j, none⟩ = false := by
  unfold Blk at h
  constructor
  · simp [World.cell?, h, seenCs, hj]
  · simp [World.frozen?, h]

/-- The lists beside a growing row. -/
theorem beside {w w' : World} {base s n : Nat} {v vq : Value} {zs : Nat → List Int} {rs : Nat → Value} {z : List Int} (h : OwnP w base v n zs rs) (hq : OwnI w s vq z) (hlow : ∀ i, i < n → ∀ x, (rs i).ownBlock = some x → x < s) (hg : w.grownBy w' vq.ownBlock) : OwnP w' base v n zs rs :=
  ⟨own_grown h.tbl hg (own_own_ne h.tbl hq (by decide)), fun i hi => own_grown (h.row i hi) hg (fun x y hx hy => by have := hlow i hi x hx; have := (hq.lt y hy).1; omega), h.ne⟩
theorem far {w : World} {base n g i : Nat} {t : TypeId} {cs : Array Value} {v : Value} {zs : Nat → List Int} {rs : Nat → Value} (h : OwnP w base v n zs rs) (hb : Blk w g t cs) (h1 : (24 : TypeId) ≠ t) (h2 : (3 : TypeId) ≠ t) (u : Value) : OwnP (w.setCell ⟨g, i, none⟩ u) base v n zs rs :=
  ⟨own_far h.tbl hb h1 u, fun j hj => own_far (h.row j hj) hb h2 u, h.ne⟩
/-- One more list. -/
theorem push {w w' : World} {base s n : Nat} {v v' vq : Value} {zs zs' : Nat → List Int} {rs : Nat → Value} {z : List Int} (h : OwnP w base v n zs rs) (hq : OwnI w s vq z) (hs : base ≤ s) (hlow : ∀ i, i < n → ∀ x, (rs i).ownBlock = some x → x < s)
    (ho : w'.ownsRow base 24 1 v' (n + 1) ((List.range n).map rs ++ [vq])) (hg : w.grownBy w' v.ownBlock) (h1 : ∀ i, i < n → zs' i = zs i) (h2 : zs' n = z) : OwnP w' base v' (n + 1) zs' (fun i => if i = n then vq else rs i) := by
  have e : ∀ i, i < n → (if i = n then vq else rs i) = rs i := fun i hi => if_neg (by omega)
  refine ⟨?_, fun i hi => ?_, fun i j hij hj x hx => ?_⟩
  · rw [List.range_succ, List.map_append]
    have e2 : (List.range n).map (fun i => if i = n then vq else rs i) = (List.range n).map rs := List.map_congr_left fun i hi => e i (by simpa using hi)
    rw [e2]
    simpa using ho
  · by_cases hin : i = n
    · subst hin
      simp only [if_pos]
      rw [h2]
      exact IntS.rebase (own_grown hq hg (fun x y hx hy => fun e => own_own_ne h.tbl hq (by decide) y x hy hx e.symm)) hs
    · rw [e i (by omega), h1 i (by omega)]
      exact own_grown (h.row i (by omega)) hg (fun x y hx hy => fun e => own_own_ne h.tbl (h.row i (by omega)) (by decide) y x hy hx e.symm)
  · by_cases hjn : j = n
    · subst hjn
      simp only [if_pos]
      rw [e i hij] at hx
      intro hy
      have := hlow i hij x hx
      have := (hq.lt x hy).1
      omega
    · have hjn' : j < n := by omega
      simp only [e j hjn']
      rw [e i (by omega)] at hx
      exact h.ne i j hij hjn' x hx

/-- What stands while the parts are looked for. -/
structure Srch (w : World) (g : Nat) (box : Array Value) (n : Nat) (zs : Nat → List Int) (rs : Nat → Value) (vp : Value) (sb : Nat → Bool) (wr : World) : Prop where
  b : Below w.heap.size w wr
  box : Blk wr w.heap.size 26 box
  own : OwnP wr w.heap.size vp n zs rs
  seen : Blk wr g 100 (seenCs sb)
  hg : w.heap.size < g
theorem Srch.below {w : World} {g : Nat} {box : Array Value} {n : Nat} {zs : Nat → List Int} {rs : Nat → Value} {vp : Value} {sb : Nat → Bool} {wr w' : World} (h : Srch w g box n zs rs vp sb wr) (hb : Below wr.heap.size wr w') : Srch w g box n zs rs vp sb w' :=
  ⟨h.b.trans (hb.mono h.b.size), h.box.later hb, h.own.below hb, h.seen.later hb, h.hg⟩
theorem Srch.alloc {w : World} {g : Nat} {box : Array Value} {n : Nat} {zs : Nat → List Int} {rs : Nat → Value} {vp : Value} {sb : Nat → Bool} {wr : World} (h : Srch w g box n zs rs vp sb wr) (o : Obj) : Srch w g box n zs rs vp sb (wr.alloc o) :=
  h.below ((Below.refl _ _).alloc (Nat.le_refl _) _)
theorem Srch.set_ {w : World} {g : Nat} {box : Array Value} {n : Nat} {zs : Nat → List Int} {rs : Nat → Value} {vp : Value} {sb : Nat → Bool} {wr : World} (h : Srch w g box n zs rs vp sb wr) (j : Nat) : Srch w g box n zs rs vp (setB sb j) (wr.setCell ⟨g, j, none⟩ (.bool true)) :=
  ⟨h.b.setCell (Nat.le_of_lt h.hg) _, h.box.far (by have := h.hg; show w.heap.size ≠ g; omega) _, far h.own h.seen (by decide) (by decide) _, by have := h.seen.set_ j (.bool true); rwa [seenCs_set] at this, h.hg⟩
theorem Srch.grown {w : World} {g : Nat} {box : Array Value} {n s : Nat} {zs : Nat → List Int} {rs : Nat → Value} {vp vq : Value} {z : List Int} {sb : Nat → Bool} {wr w' : World} (h : Srch w g box n zs rs vp sb wr) (hs : w.heap.size ≤ s) (hq : OwnI wr s vq z) (hlow : ∀ i, i < n → ∀ x, (rs i).ownBlock = some x → x < s) (hgr : wr.grownBy w' vq.ownBlock) : Srch w g box n zs rs vp sb w' :=
  ⟨h.b.grown hgr h.b.size (fun k e => by have := (hq.lt k e).1; omega), blk_grown h.box hgr (own_ne hq h.box (by decide)), beside h.own hq hlow hgr, blk_grown h.seen hgr (own_ne hq h.seen (by decide)), h.hg⟩
theorem Srch.push {w : World} {g : Nat} {box : Array Value} {n s : Nat} {zs zs' : Nat → List Int} {rs : Nat → Value} {vp vp' vq : Value} {z : List Int} {sb : Nat → Bool} {wr w' : World} (h : Srch w g box n zs rs vp sb wr) (hs : w.heap.size ≤ s) (hq : OwnI wr s vq z) (hlow : ∀ i, i < n → ∀ x, (rs i).ownBlock = some x → x < s)
    (ho : w'.ownsRow w.heap.size 24 1 vp' (n + 1) ((List.range n).map rs ++ [vq])) (hgr : wr.grownBy w' vp.ownBlock) (h1 : ∀ i, i < n → zs' i = zs i) (h2 : zs' n = z) : Srch w g box (n + 1) zs' (fun i => if i = n then vq else rs i) vp' sb w' :=
  ⟨h.b.grown hgr h.b.size (fun k e => (h.own.tbl.lt k e).1), blk_grown h.box hgr (own_ne h.own.tbl h.box (by decide)), PrtB.push h.own hq hs hlow ho hgr h1 h2, blk_grown h.seen hgr (own_ne h.own.tbl h.seen (by decide)), h.hg⟩

/-- A list of one number, new. -/
theorem own_one (w : World) (base : Nat) (z : Int) (h : base ≤ w.heap.size) : OwnI (w.alloc (.cells #[.int .i64 z] 3)) base (.slice (some ⟨w.heap.size, 0, none⟩) 1 1) [z] :=
  ⟨by simp, .inr ⟨w.heap.size, 1, #[.int .i64 z], rfl, h, heap_alloc_new w _, Nat.le_refl _, by decide, rfl, by simp⟩⟩

theorem own_ints_slice {w : World} {base : Nat} {v : Value} {p : List Nat} (h : OwnI w base v (ints p)) (hp : 0 < p.length) : ∃ g cap, v = .slice (some ⟨g, 0, none⟩) p.length cap := by
  rcases h.2 with ⟨_, h0⟩ | ⟨g, cap, cur, rfl, _⟩
  · rw [ints_length] at h0; omega
  · exact ⟨g, cap, by rw [ints_length]⟩
theorem own_ints_cell {w : World} {base g n cap : Nat} {p : List Nat} (h : OwnI w base (.slice (some ⟨g, 0, none⟩) n cap) (ints p)) {j : Nat} (hj : j < p.length) : w.cell? ⟨g, j, none⟩ = some (.int .i64 ((p.getD j 0 : Nat) : Int)) := by
  unfold OwnI at h
  rcases h.2 with ⟨h1, h0⟩ | ⟨g', c', cur, hv, _⟩
  · cases h1
  · obtain ⟨-, rfl, -⟩ := Value.slice.inj hv
    rw [h.cellAt j (by rw [ints_length]; omega)]
    simp [ints, hj]
theorem own_ints_raw {w : World} {base : Nat} {v : Value} {p : List Nat} (h : OwnI w base v (ints p)) : w.ownsRow base 3 1 v p.length ((ints p).map (Value.int .i64)) := by
  unfold OwnI at h
  rwa [ints_length] at h
theorem own_ints_put {w : World} {base : Nat} {v : Value} {p : List Nat} {y : Nat} (h : w.ownsRow base 3 1 v (p.length + 1) ((ints p).map (Value.int .i64) ++ [.int .i64 y])) : OwnI w base v (ints (p ++ [y])) := by
  unfold OwnI
  have e1 : (ints (p ++ [y])).length = p.length + 1 := by simp [ints]
  have e2 : (ints (p ++ [y])).map (Value.int .i64) = (ints p).map (Value.int .i64) ++ [.int .i64 y] := by simp [ints]
  rw [e1, e2]; exact h

/-- The answer: lists of the call's own, and whether there are any. -/
def TPst (w : World) (n : Nat) (zs : Nat → List Int) (ok : Bool) (e : Ending) (w' : World) : Prop := ∃ v rs, e = .returned (.tuple #[v, .bool ok]) ∧ OwnP w' w.heap.size v n zs rs ∧ Below w.heap.size w w'
theorem ownP_nil (w w0 : World) (zs : Nat → List Int) (rs : Nat → Value) (h : w0.heap.size ≤ w.heap.size) : OwnP (w.alloc (.cells #[] 24)) w0.heap.size (.slice (some ⟨w.heap.size, 0, none⟩) 0 0) 0 zs rs :=
  ⟨World.ownsRow_made (e := 24) (size := 1) w #[] 0 h (Nat.zero_le _) rfl, fun i hi => by omega, fun i j _ hj => by omega⟩

end Go.Proofs.Ytnenaponiahalaa.PrtB
