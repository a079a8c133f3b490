/- The laws' marks in strings: contracts. -/
import Derived.Test.YtleoljnofdajfaaGreatDoorStrE
import Derived.WalkLawsBesides
import Derived.WalkSpells
import Derived.Deep.RegionWith
namespace Go.Proofs.YtleoljnofdajfaaGreatDoor.Mrk
open Go.RowKit Lb
set_option linter.unusedSimpArgs false
set_option linter.unusedVariables false

def digit (n : Nat) : ByteArray := strOfNums [48 + (n : Int) % 10]
/-- The digits, as the text builds them. -/
def digits : Nat → Nat → ByteArray → ByteArray
  | 0, _, out => out
  | f + 1, n, out => if n = 0 then out else digits f (n / 10) (digit n ++ out)
def markOf (k : Nat) : ByteArray := ⟨#[109]⟩ ++ digits k k ⟨#[]⟩

theorem digits_zero (f : Nat) (out : ByteArray) : digits f 0 out = out := by cases f <;> simp [digits]
theorem digit_size (n : Nat) : (digit n).size = 1 := strOfNums_size _

theorem grownBy_trans {a b c : World} {r : Option Nat} (h : a.grownBy b r) (k : b.grownBy c r) : a.grownBy c r :=
  ⟨k.os.trans h.os, k.tape.trans h.tape, k.output.trans h.output, Nat.le_trans h.size k.size, fun i hi hr => (k.block i (Nat.lt_of_lt_of_le hi h.size) hr).trans (h.block i hi hr)⟩
theorem grownBy_of_below {a b : World} (h : Below a.heap.size a b) (r : Option Nat) : a.grownBy b r := ⟨h.os, h.tape, h.output, h.size, fun k hk _ => h.block k hk⟩
theorem ownsRow_below {w w' : World} {base : Nat} {e : TypeId} {size : Nat} {v : Value} {n : Nat} {xs : List Value} (h : w.ownsRow base e size v n xs) (hb : Below w.heap.size w w') : w'.ownsRow base e size v n xs :=
  h.kept (grownBy_of_below hb none) (by cases hv : v.ownBlock <;> simp)

/-- The first 'i' elements are marked from 'k' on. -/
def marks (k : Nat) (xs : List Value) (i : Nat) : List Value := (List.range i).map (fun j => Value.string (markOf (k + j))) ++ xs.drop i
theorem marks_zero (k : Nat) (xs : List Value) : marks k xs 0 = xs := by simp [marks]
theorem marks_set (k : Nat) (xs : List Value) (i : Nat) (h : i < xs.length) : (marks k xs i).set i (.string (markOf (k + i))) = marks k xs (i + 1) := by
  unfold marks
  rw [List.set_append_right _ _ (by simp), List.range_succ, List.map_append, List.length_map, List.length_range, Nat.sub_self, List.drop_eq_getElem_cons h, List.set_cons_zero, List.append_assoc]
  rfl
theorem marks_at (k : Nat) (xs : List Value) (i : Nat) (h : i < xs.length) : ∃ v, (marks k xs i)[i]? = some v := by
  unfold marks
  rw [List.getElem?_append_right (by simp)]
  simp [h]
theorem marks_all (k : Nat) (xs : List Value) : marks k xs xs.length = (List.range xs.length).map (fun j => Value.string (markOf (k + j))) := by simp [marks]

/-- What is said of the marked list: its own cells hold the marks, all else is as it was. -/
def Marked (base : Nat) (a : Option Addr) (cap n : Nat) (w w' : World) : Prop :=
  w'.ownsRow base 9 1 (.slice a n cap) n ((List.range n).map (fun j => Value.string (markOf (1 + j)))) ∧ w.grownBy w' (Value.slice a n cap).ownBlock

theorem rowAt_owns {w : World} {base : Nat} {e : TypeId} {a : Option Addr} {n cap : Nat} {xs : List Value} (h : w.ownsRow base e 1 (.slice a n cap) n xs) : RowAt w a n (fun k => xs.getD k undef) := by
  rcases h.2 with ⟨_, h0⟩ | ⟨g, c, cur, hv, _⟩
  · exact .inl h0
  · obtain ⟨rfl, _, rfl⟩ := Value.slice.inj hv
    exact RowAt.of_owns h

theorem Marked.row {base : Nat} {a : Option Addr} {cap n : Nat} {w w' : World} (h : Marked base a cap n w w') : RowAt w' a n (fun j => .string (markOf (1 + j))) :=
  (rowAt_owns h.1).congr fun k hk => by simp [List.getD, hk]

end Go.Proofs.YtleoljnofdajfaaGreatDoor.Mrk
