/- The model's test of a range: one contract. -/
import Derived.Test.YtleoljnofdajfaaGreatDoorBk
namespace Go.Proofs.YtleoljnofdajfaaGreatDoor.InA
open Go.RowKit Lb Bk
set_option linter.unusedSimpArgs false
set_option linter.unusedVariables false

theorem in_any (x a b : Int) (w : World) : Calls Tryz.prog 56 #[.int .i64 x, .int .i64 a, .int .i64 b] w fun e w' => e = .returned (.bool (decide (a ≤ x ∧ x ≤ b))) ∧ w' = w := by
  by_cases h1 : a ≤ x
  · by_cases h2 : x ≤ b
    · have H := Lib.hid (decide_eq_true (And.intro h1 h2))
      go_enter Tryz.func56, Tryz.ntmps56
      go_wp2
      go_ret
      exact ⟨ret_bool H.out.symm, rfl⟩
    · have H := Lib.hid (show decide (a ≤ x ∧ x ≤ b) = false from decide_eq_false (fun h => h2 h.2))
      have h2' : decide (x ≤ b) = false := decide_eq_false h2
      clear h2
      go_enter Tryz.func56, Tryz.ntmps56
      go_wp2
      go_ret
      exact ⟨ret_bool H.out.symm, rfl⟩
  · have H := Lib.hid (show decide (a ≤ x ∧ x ≤ b) = false from decide_eq_false (fun h => h1 h.1))
    have h1' : decide (a ≤ x) = false := decide_eq_false h1
    clear h1
    go_enter Tryz.func56, Tryz.ntmps56
    go_wp2
    go_ret
    exact ⟨ret_bool H.out.symm, rfl⟩

end Go.Proofs.YtleoljnofdajfaaGreatDoor.InA
