/- The pairs that a test holds of: what they are; the program's loops with any function value. -/
import Derived.Test.YtdfmfmndmldggaaCoM
import Derived.Test.YtdfmfmndmldggaaPrN
import Derived.Deep.LoopGhost
import Derived.Maps.AppendAt
import Derived.Shelf.Abstract
import Derived.OwnWalk
import Derived.Deep.AppendLies
import Derived.Deep.CutRange
import Derived.Deep.DeepCutAuto
namespace Go.Proofs.Ytdfmfmndmldggaa.PrP
open Go.RowKit Lb Bk CtK
set_option linter.unusedSimpArgs false
set_option linter.unusedVariables false

/-- The pairs of the element at 'i' with those behind it, up to 'k'; of all up to 'i'. -/
def rowP (p : Ct → Ct → Bool) (cs : List Ct) (i : Nat) : Nat → List Pr
  | 0 => []
  | k + 1 => if i < k ∧ p (at_ cs i) (at_ cs k) = true then rowP p cs i k ++ [⟨(at_ cs i).co, (at_ cs k).co⟩] else rowP p cs i k
def allP (p : Ct → Ct → Bool) (cs : List Ct) : Nat → List Pr
  | 0 => []
  | i + 1 => allP p cs i ++ rowP p cs i cs.length
theorem row_none (p : Ct → Ct → Bool) (cs : List Ct) (i : Nat) : ∀ k, k ≤ i + 1 → rowP p cs i k = []
  | 0, _ => rfl
  | k + 1, h => by rw [rowP, if_neg (by rintro ⟨h1, _⟩; omega), row_none p cs i k (by omega)]
theorem row_yes {p : Ct → Ct → Bool} {cs : List Ct} {i k : Nat} (h : i < k) (hp : p (at_ cs i) (at_ cs k) = true) : rowP p cs i (k + 1) = rowP p cs i k ++ [⟨(at_ cs i).co, (at_ cs k).co⟩] := by
  rw [rowP, if_pos ⟨h, hp⟩]
theorem row_no {p : Ct → Ct → Bool} {cs : List Ct} {i k : Nat} (hp : p (at_ cs i) (at_ cs k) = false) : rowP p cs i (k + 1) = rowP p cs i k := by
  rw [rowP, if_neg (by rintro ⟨_, h⟩; rw [hp] at h; cases h)]
theorem row_len (p : Ct → Ct → Bool) (cs : List Ct) (i : Nat) : ∀ k, (rowP p cs i k).length ≤ k
  | 0 => Nat.le_refl _
  | k + 1 => by
    have := row_len p cs i k
    rw [rowP]
    split
    · simp only [List.length_append, List.length_cons, List.length_nil]; omega
    · omega
theorem all_len (p : Ct → Ct → Bool) (cs : List Ct) : ∀ i, (allP p cs i).length ≤ i * cs.length
  | 0 => by simp [allP]
  | i + 1 => by
    have h1 := all_len p cs i
    have h2 := row_len p cs i cs.length
    rw [allP, List.length_append, Nat.succ_mul]
    omega
/-- A list that grows, of the call's own. -/
structure Gr (w : World) (v : Value) (zs : List Pr) (wr : World) : Prop where
  b : Below w.heap.size w wr
  own : PrK.Own wr w.heap.size v zs
theorem Gr.below {w : World} {v : Value} {zs : List Pr} {wr w' : World} (h : Gr w v zs wr) (hb : Below wr.heap.size wr w') : Gr w v zs w' := ⟨h.b.trans (hb.mono h.b.size), h.own.below hb⟩
theorem Gr.alloc {w : World} {v : Value} {zs : List Pr} {wr : World} (h : Gr w v zs wr) (o : Obj) : Gr w v zs (wr.alloc o) := h.below ((Below.refl _ _).alloc (Nat.le_refl _) _)
theorem Gr.put {w : World} {v v' : Value} {zs : List Pr} {x y : Int} {n : Nat} {wr w' : World} (h : Gr w v zs wr) (hn : zs.length = n) (hg : wr.grownBy w' v.ownBlock) (ho : w'.ownsRow w.heap.size 88 2 v' (n + 1) (PrK.cells zs ++ [.int .i64 x, .int .i64 y])) : Gr w v' (zs ++ [⟨x, y⟩]) w' :=
  ⟨h.b.grown hg h.b.size (fun k e => (World.ownsRow.lt h.own k e).1), by unfold PrK.Own; rw [PrK.cells_app, List.length_append]; subst hn; exact ho⟩
theorem Gr.start (w : World) : Gr w (.slice (some ⟨w.heap.size, 0, none⟩) 0 0) [] (w.alloc (.cells #[] 88)) :=
  ⟨(Below.refl _ _).alloc (Nat.le_refl _) _, PrK.Own.empty w⟩
theorem own_ne {w : World} {base : Nat} {v : Value} {zs : List Pr} {A : Nat} {cs : Array Value} (h : PrK.Own w base v zs) (hb : Blk w A 70 cs) : v.ownBlock ≠ some A := by
  intro e
  rcases h.2 with ⟨rfl, _⟩ | ⟨g, cap, cur, rfl, _, hg, _⟩
  · cases e
  · have h1 : g = A := by simpa [Value.ownBlock] using e
    subst h1
    unfold Blk at hb
    rw [hg] at hb
    simp at hb
theorem blk_put {w w' : World} {base : Nat} {v : Value} {zs : List Pr} {A : Nat} {cs : Array Value} (h : PrK.Own w base v zs) (hb : Blk w A 70 cs) (hg : w.grownBy w' v.ownBlock) : Blk w' A 70 cs :=
  (hg.block A hb.lt (fun e => own_ne h hb e.symm)).trans hb

end Go.Proofs.Ytdfmfmndmldggaa.PrP
