/- The laws' marks in lists of Runner: contracts. -/
import Derived.Test.YtleoljnofdajfaaGreatDoorRuL
import Derived.Test.YtleoljnofdajfaaGreatDoorMark
namespace Go.Proofs.YtleoljnofdajfaaGreatDoor.RuK
open Mrk (markOf grownBy_trans)
open Go.RowKit Lb Bk
set_option linter.unusedSimpArgs false
set_option linter.unusedVariables false

def mkOne (k : Nat) : Ru := ⟨((k : Nat) : Int), markOf (k + 1), markOf (k + 2), ((k + 3 : Nat) : Int), (((k + 4 : Nat) : Int) % 3 == 0), ((k + 5 : Nat) : Int)⟩
def mkL (k n : Nat) : List Ru := (List.range n).map fun i => mkOne (k + 6 * i)
theorem mkL_len (k n : Nat) : (mkL k n).length = n := by simp [mkL]
theorem mkL_at {k n i : Nat} (h : i < n) : at_ (mkL k n) i = mkOne (k + 6 * i) := by rw [at_lt (by rw [mkL_len]; exact h)]; simp [mkL]
theorem mk_set (k : Nat) (rs : List Ru) (i : Nat) (h : i < rs.length) : (mkL k i ++ rs.drop i).set i (mkOne (k + 6 * i)) = mkL k (i + 1) ++ rs.drop (i + 1) := by
  rw [List.set_append_right _ _ (by rw [mkL_len]; exact Nat.le_refl _), mkL_len, Nat.sub_self, List.drop_eq_getElem_cons h, List.set_cons_zero]
  unfold mkL
  rw [List.range_succ, List.map_append, List.append_assoc]
  rfl
theorem mk_part_len (k : Nat) (rs : List Ru) (i : Nat) (h : i ≤ rs.length) : (mkL k i ++ rs.drop i).length = rs.length := by rw [List.length_append, mkL_len, List.length_drop]; omega


end Go.Proofs.YtleoljnofdajfaaGreatDoor.RuK
