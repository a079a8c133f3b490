/- The laws' own helpers over lists of Runner: contracts. -/
import Derived.Test.YtleoljnofdajfaaGreatDoorRuS
import Derived.RegionTactic
import Derived.Deep.RegionHeld3
namespace Go.Proofs.YtleoljnofdajfaaGreatDoor.RuK
open Go.RowKit Lb Bk
set_option linter.unusedSimpArgs false
set_option linter.unusedVariables false

theorem part_set (rs : List Ru) (k : Nat) (h : k < rs.length) : (rs.take k ++ List.replicate (rs.length - k) no).set k (at_ rs k) = rs.take (k + 1) ++ List.replicate (rs.length - (k + 1)) no := by
  rw [List.set_append_right _ _ (by rw [List.length_take]; omega), List.length_take, show k - min k rs.length = 0 by omega, show rs.length - k = (rs.length - (k + 1)) + 1 by omega, List.replicate_succ, List.set_cons_zero, List.take_succ_eq_append_getElem h, at_lt h, List.append_assoc]
  rfl

/-- The lengths of the first 'k' elements' texts. -/
def tot (rs : List Ru) : Nat → Int
  | 0 => 0
  | k + 1 => tot rs k + sz (at_ rs k)
theorem tot_nn (rs : List Ru) : ∀ k, 0 ≤ tot rs k
  | 0 => Int.le_refl _
  | k + 1 => by have := tot_nn rs k; have := sz_nn (at_ rs k); rw [tot]; omega
/-- What is left, if it is not negative, says that the list is short, and all texts together. -/
def SzPost (rs : List Ru) (left : Int) (e : Ending) : Prop := ∃ r : Int, e = .returned (.int .i64 r) ∧ (r = -1 ∨ (0 ≤ r ∧ r = left - rs.length - tot rs rs.length))


end Go.Proofs.YtleoljnofdajfaaGreatDoor.RuK
