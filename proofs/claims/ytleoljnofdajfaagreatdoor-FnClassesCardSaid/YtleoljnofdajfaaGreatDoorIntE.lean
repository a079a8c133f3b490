/- Lists of numbers: what they are; the laws' own comparison and marks: contracts. -/
import Derived.Test.YtleoljnofdajfaaGreatDoorProg
import Derived.Test.YtleoljnofdajfaaGreatDoorMapM
import Derived.WalkLawsBesides
import Derived.WalkSpells
import Derived.Deep.RegionWith
namespace Go.Proofs.YtleoljnofdajfaaGreatDoor.IntS
open Go.RowKit Lb
set_option linter.unusedSimpArgs false
set_option linter.unusedVariables false

theorem iInfo : (Tryz.prog.info? 3).map (fun i => (i.zero, i.size, i.bytes)) = some (some (.int .i64 0), 1, 8) := by kernel_rfl

/-- 'n' cells that hold the numbers of a list. -/
def IRow (w : World) (a : Option Addr) (zs : List Int) : Prop := RowAt w a zs.length (fun k => .int .i64 (zAt zs k))
def OwnI (w : World) (base : Nat) (v : Value) (zs : List Int) : Prop := w.ownsRow base 3 1 v zs.length (zs.map (Value.int .i64))

theorem OwnI.slice {w : World} {base : Nat} {v : Value} {zs : List Int} (h : OwnI w base v zs) :
    ∃ a cap, v = .slice a zs.length cap ∧ IRow w a zs ∧ ∀ x, a = some x → base ≤ x.block ∧ x.block < w.heap.size := by
  have h' := h
  unfold OwnI at h
  rcases h.2 with ⟨rfl, h0⟩ | ⟨g, cap, cur, rfl, hb, _⟩
  · exact ⟨none, 0, by rw [h0], .inl h0, fun x e => by cases e⟩
  · refine ⟨some ⟨g, 0, none⟩, cap, rfl, (RowAt.of_owns h).congr fun k hk => ?_, fun x e => ?_⟩
    · simp [zAt, hk]
    · cases e; exact h.lt g rfl
theorem grownBy_of_below {a b : World} (h : Below a.heap.size a b) (r : Option Nat) : a.grownBy b r := ⟨h.os, h.tape, h.output, h.size, fun k hk _ => h.block k hk⟩
theorem grownBy_trans {a b c : World} {r : Option Nat} (h : a.grownBy b r) (k : b.grownBy c r) : a.grownBy c r :=
  ⟨k.os.trans h.os, k.tape.trans h.tape, k.output.trans h.output, Nat.le_trans h.size k.size, fun i hi hr => (k.block i (Nat.lt_of_lt_of_le hi h.size) hr).trans (h.block i hi hr)⟩
theorem owns_below {w w' : World} {base : Nat} {e : TypeId} {size : Nat} {v : Value} {n : Nat} {xs : List Value} (h : w.ownsRow base e size v n xs) (hb : Below w.heap.size w w') : w'.ownsRow base e size v n xs :=
  h.kept (grownBy_of_below hb none) (by cases hv : v.ownBlock <;> simp)
theorem OwnI.below {w w' : World} {base : Nat} {v : Value} {zs : List Int} (h : OwnI w base v zs) (hb : Below w.heap.size w w') : OwnI w' base v zs := owns_below h hb
theorem OwnI.belowB {B : Nat} {w w' : World} {base : Nat} {v : Value} {zs : List Int} (h : OwnI w base v zs) (hb : Below B w w') (hB : w.heap.size ≤ B) : OwnI w' base v zs := owns_below h (hb.mono hB)
/-- A row stands in whatever grows beside it. -/
theorem row_beside {w w' : World} {a : Option Addr} {n : Nat} {f : Nat → Value} (h : RowAt w a n f) {r : Option Nat} (hb : w.grownBy w' r) (hr : ∀ x, a = some x → r ≠ some x.block) : RowAt w' a n f := by
  rcases h with h | ⟨b, o, rfl, hc⟩
  · exact .inl h
  · exact RowAt.grown (.inr ⟨b, o, rfl, hc⟩) hb (hr _ rfl)
theorem still_below {w w' : World} (h : Still w w') : Below w.heap.size w w' := h.below _
theorem rebase {w : World} {b b' : Nat} {e : TypeId} {size : Nat} {v : Value} {n : Nat} {xs : List Value} (h : w.ownsRow b e size v n xs) (hb : b' ≤ b) : w.ownsRow b' e size v n xs := by
  refine ⟨h.1, ?_⟩
  rcases h.2 with h2 | ⟨g, cap, cur, hv, hg, r⟩
  · exact .inl h2
  · exact .inr ⟨g, cap, cur, hv, Nat.le_trans hb hg, r⟩

/-- The marks from a number on. -/
def markZ (k : Int) (n : Nat) : List Int := (List.range n).map fun (j : Nat) => k + (j : Int)
theorem markZ_length (k : Int) (n : Nat) : (markZ k n).length = n := by simp [markZ]
theorem markZ_at (k : Int) (n j : Nat) (h : j < n) : zAt (markZ k n) j = k + j := by simp [markZ, zAt, h]
def marks (k : Int) (zs : List Int) (i : Nat) : List Value := (markZ k i).map (Value.int .i64) ++ (zs.drop i).map (Value.int .i64)
theorem marks_zero (k : Int) (zs : List Int) : marks k zs 0 = zs.map (Value.int .i64) := by simp [marks, markZ]
theorem marks_at (k : Int) (zs : List Int) (i : Nat) (h : i < zs.length) : (marks k zs i)[i]? = some (.int .i64 (zAt zs i)) := by
  unfold marks
  rw [List.getElem?_append_right (by simp [markZ])]
  simp [markZ_length, h, zAt]
theorem marks_set (k : Int) (zs : List Int) (i : Nat) (h : i < zs.length) : (marks k zs i).set i (.int .i64 (k + i)) = marks k zs (i + 1) := by
  unfold marks
  rw [List.set_append_right _ _ (by simp [markZ_length])]
  simp only [List.length_map, markZ_length, Nat.sub_self]
  rw [List.drop_eq_getElem_cons h, List.map_cons, List.set_cons_zero]
  unfold markZ
  rw [List.range_succ]
  simp
theorem marks_all (k : Int) (zs : List Int) : marks k zs zs.length = (markZ k zs.length).map (Value.int .i64) := by simp [marks]

end Go.Proofs.YtleoljnofdajfaaGreatDoor.IntS
