/- Two rows that grow in a map of the call's own. -/
import Derived.Test.YtnenaponiahalaaMapV
import Derived.Test.YtnenaponiahalaaTurnM
import Derived.Deep.CutRange
import Derived.Deep.DeepCutAuto
import Derived.Deep.LoopGhost
import Derived.Deep.RegionLaw
import Derived.Deep.AppendLies
import Derived.IntWalk
namespace Go.Proofs.Ytnenaponiahalaa.SpecB
open Go.RowKit Lb IntS MapS MapV
set_option linter.unusedSimpArgs false
set_option linter.unusedVariables false

theorem mp_eq {m : Mp} {ww hh : Nat} (g : GoodM m ww hh) : m = ⟨ww, hh, m.R, m.C⟩ := by
  have h1 := g.W
  have h2 := g.H
  cases m
  simp only at h1 h2
  subst h1 h2
  rfl
theorem below_drewN {B : Nat} {a w : World} (h : Below B a w) (n : Nat) : Below B a (w.drewN n) := ⟨h.os, h.tape, h.output, h.size, h.block⟩
/-- A row stands beside a store into a block of another kind. -/
theorem own_far {w : World} {base : Nat} {e t : TypeId} {v : Value} {n g i : Nat} {xs : List Value} {cs : Array Value} (h : w.ownsRow base e 1 v n xs) (hb : Blk w g t cs) (hne : e ≠ t) (u : Value) : (w.setCell ⟨g, i, none⟩ u).ownsRow base e 1 v n xs := by
  refine ⟨h.1, ?_⟩
  rcases h.2 with h2 | ⟨g', cap, cur, hv, hg, hh, r⟩
  · exact .inl h2
  · refine .inr ⟨g', cap, cur, hv, hg, ?_, r⟩
    refine (Below.heap_setCell w _ u g' ?_).trans hh
    rintro rfl
    have h3 := hb
    unfold Blk at h3
    rw [hh] at h3
    injection h3 with h3
    injection h3 with _ h4
    exact hne h4
theorem own_ne {w : World} {base : Nat} {e t : TypeId} {v : Value} {n g : Nat} {xs : List Value} {cs : Array Value} (h : w.ownsRow base e 1 v n xs) (hb : Blk w g t cs) (hne : e ≠ t) : v.ownBlock ≠ some g := by
  rcases h.2 with ⟨rfl, _⟩ | ⟨g', cap, cur, rfl, hg, hh, r⟩
  · simp [Value.ownBlock]
  · intro e2
    obtain rfl : g' = g := by simpa [Value.ownBlock] using e2
    have h3 := hb
    unfold Blk at h3
    rw [hh] at h3
    injection h3 with h3
    injection h3 with _ h4
    exact hne h4
theorem own_grown {w w' : World} {base : Nat} {e : TypeId} {v : Value} {n : Nat} {xs : List Value} {r : Option Nat} (h : w.ownsRow base e 1 v n xs) (hg : w.grownBy w' r) (hr : ∀ p q, v.ownBlock = some p → r = some q → p ≠ q) : w'.ownsRow base e 1 v n xs := by
  refine h.kept hg ?_
  cases hv : v.ownBlock with
  | none => exact .inl rfl
  | some p => exact .inr (fun e => hr p p hv e.symm rfl)
theorem blk_grown {w w' : World} {g : Nat} {t : TypeId} {cs : Array Value} {r : Option Nat} (h : Blk w g t cs) (hg : w.grownBy w' r) (hr : r ≠ some g) : Blk w' g t cs := (hg.block g h.lt (fun e => hr e.symm)).trans h

/-- Two rows that grow, in the two fields of a map of the call's own. -/
structure Two (w : World) (s : Nat) (p q : Int) (R C : List Int) (box : Array Value) (kr kc : Nat) (vr vc : Value) (wr : World) : Prop where
  r : wr.ownsRow s 3 1 vr kr ((R.take kr).map (Value.int .i64))
  c : wr.ownsRow s 3 1 vc kc ((C.take kc).map (Value.int .i64))
  ne : ∀ x y, vr.ownBlock = some x → vc.ownBlock = some y → x ≠ y
  out : Blk wr (s + 1 + 1) 26 #[.int .i64 p, .int .i64 q, vr, vc]
  box : Blk wr w.heap.size 26 box
  res : Blk wr (w.heap.size + 1) 26 #[.int .i64 0, .int .i64 0, .slice none 0 0, .slice none 0 0]
  b : Below w.heap.size w wr
theorem Two.below {w : World} {s : Nat} {p q : Int} {R C : List Int} {box : Array Value} {kr kc : Nat} {vr vc : Value} {wr w' : World} (h : Two w s p q R C box kr kc vr vc wr) (hb : Below wr.heap.size wr w') : Two w s p q R C box kr kc vr vc w' :=
  ⟨owns_below h.r hb, owns_below h.c hb, h.ne, h.out.later hb, h.box.later hb, h.res.later hb, h.b.trans (hb.mono h.b.size)⟩
/-- One more in the first row: the append and the store. -/
theorem Two.putR {w : World} {s : Nat} {p q : Int} {R C : List Int} {box : Array Value} {kr kc : Nat} {vr vc : Value} {wr w' : World} (h : Two w s p q R C box kr kc vr vc wr) (hs : w.heap.size + 1 < s) {x : Int} (hx : R.take (kr + 1) = R.take kr ++ [x]) {g cap : Nat}
    (ho : w'.ownsRow s 3 1 (.slice (some ⟨g, 0, none⟩) (kr + 1) cap) (kr + 1) ((R.take kr).map (Value.int .i64) ++ [.int .i64 x])) (hg : wr.grownBy w' vr.ownBlock) (hl : vr.ownBlock = some g ∨ g = wr.heap.size) :
    Two w s p q R C box (kr + 1) kc (.slice (some ⟨g, 0, none⟩) (kr + 1) cap) vc (w'.setCell ⟨s + 1 + 1, 2, none⟩ (.slice (some ⟨g, 0, none⟩) (kr + 1) cap)) := by
  have hlt := h.r.lt
  have hne : (3 : TypeId) ≠ 26 := by decide
  have o1 := blk_grown h.out hg (own_ne h.r h.out hne)
  have b1 := blk_grown h.box hg (own_ne h.r h.box hne)
  have r1 := blk_grown h.res hg (own_ne h.r h.res hne)
  have c1 := own_grown h.c hg (fun x y hx hy => (fun e => h.ne y x hy hx e.symm))
  refine ⟨?_, own_far c1 o1 hne _, ?_, ?_, b1.far (by show w.heap.size ≠ s + 1 + 1; omega) _, r1.far (by show w.heap.size + 1 ≠ s + 1 + 1; omega) _, (h.b.grown hg h.b.size (fun k e => by have := (hlt k e).1; omega)).setCell (by show w.heap.size ≤ s + 1 + 1; omega) _⟩
  · rw [hx, List.map_append]
    exact own_far ho o1 hne _
  · intro y z hy hz
    obtain rfl : g = y := by simpa [Value.ownBlock] using hy
    rcases hl with hl | hl
    · exact h.ne g z hl hz
    · have := (h.c.lt z hz).2
      omega
  · have := o1.set_ 2 (.slice (some ⟨g, 0, none⟩) (kr + 1) cap)
    simpa using this
theorem Two.putC {w : World} {s : Nat} {p q : Int} {R C : List Int} {box : Array Value} {kr kc : Nat} {vr vc : Value} {wr w' : World} (h : Two w s p q R C box kr kc vr vc wr) (hs : w.heap.size + 1 < s) {x : Int} (hx : C.take (kc + 1) = C.take kc ++ [x]) {g cap : Nat}
    (ho : w'.ownsRow s 3 1 (.slice (some ⟨g, 0, none⟩) (kc + 1) cap) (kc + 1) ((C.take kc).map (Value.int .i64) ++ [.int .i64 x])) (hg : wr.grownBy w' vc.ownBlock) (hl : vc.ownBlock = some g ∨ g = wr.heap.size) :
    Two w s p q R C box kr (kc + 1) vr (.slice (some ⟨g, 0, none⟩) (kc + 1) cap) (w'.setCell ⟨s + 1 + 1, 3, none⟩ (.slice (some ⟨g, 0, none⟩) (kc + 1) cap)) := by
  have hlt := h.c.lt
  have hne : (3 : TypeId) ≠ 26 := by decide
  have o1 := blk_grown h.out hg (own_ne h.c h.out hne)
  have b1 := blk_grown h.box hg (own_ne h.c h.box hne)
  have r1 := blk_grown h.res hg (own_ne h.c h.res hne)
  have c1 := own_grown h.r hg (fun x y hx hy => h.ne x y hx hy)
  refine ⟨own_far c1 o1 hne _, ?_, ?_, ?_, b1.far (by show w.heap.size ≠ s + 1 + 1; omega) _, r1.far (by show w.heap.size + 1 ≠ s + 1 + 1; omega) _, (h.b.grown hg h.b.size (fun k e => by have := (hlt k e).1; omega)).setCell (by show w.heap.size ≤ s + 1 + 1; omega) _⟩
  · rw [hx, List.map_append]
    exact own_far ho o1 hne _
  · intro y z hy hz
    obtain rfl : g = z := by simpa [Value.ownBlock] using hz
    rcases hl with hl | hl
    · exact h.ne y g hy hl
    · have := (h.r.lt y hy).2
      omega
  · have := o1.set_ 3 (.slice (some ⟨g, 0, none⟩) (kc + 1) cap)
    simpa using this

/-- Both rows whole. -/
theorem Two.done {w : World} {s : Nat} {p q : Int} {R C : List Int} {box : Array Value} {n : Nat} {vr vc : Value} {wr : World} (h : Two w s p q R C box n n vr vc wr) (hR : R.length = n) (hC : C.length = n) :
    ∃ ar cr ac cc, vr = .slice ar R.length cr ∧ vc = .slice ac C.length cc ∧ OwnI wr s (.slice ar R.length cr) R ∧ OwnI wr s (.slice ac C.length cc) C ∧ ∀ x y, ar = some x → ac = some y → x.block ≠ y.block := by
  have h1 : OwnI wr s vr R := by
    have := h.r
    rw [List.take_of_length_le (by omega)] at this
    unfold OwnI
    rw [hR]; exact this
  have h2 : OwnI wr s vc C := by
    have := h.c
    rw [List.take_of_length_le (by omega)] at this
    unfold OwnI
    rw [hC]; exact this
  obtain ⟨ar, cr, e1, _, _⟩ := OwnI.slice h1
  obtain ⟨ac, cc, e2, _, _⟩ := OwnI.slice h2
  have hne := h.ne
  subst e1 e2
  refine ⟨ar, cr, ac, cc, rfl, rfl, h1, h2, fun x y hx hy => ?_⟩
  subst hx hy
  exact hne x.block y.block (by simp [Value.ownBlock]) (by simp [Value.ownBlock])

/-- A map and whether there is one. -/
def MPost (w : World) (m : Mp) (ok : Bool) (e : Ending) (w' : World) : Prop := ∃ v, e = .returned (.tuple #[v, .bool ok]) ∧ OwnM w' w.heap.size v m ∧ Below w.heap.size w w'


end Go.Proofs.Ytnenaponiahalaa.SpecB
