/- Whether a list of Runners is valid: the model's texts. -/
import Derived.Test.YtleoljnofdajfaaGreatDoorRuA
namespace Go.Proofs.YtleoljnofdajfaaGreatDoor.RuG
open Go.RowKit Lb Bk InA Wd RuK RuI RuU RuA
set_option linter.unusedSimpArgs false
set_option linter.unusedVariables false

theorem fit_of {rs : List Ru} {k : Nat} {y : Ru} (hy : at_ rs k = y) (hk : k ≤ rs.length) (h1 : okR y = true) (h2 : 0 < k → (at_ rs (k - 1)).id < y.id) (h3 : ∀ j, j < k → ¬ (0 < y.ca ∧ (at_ rs j).ca = y.ca)) : FitP rs k := by
  unfold FitP
  rw [hy]
  refine ⟨h1, h2, ?_⟩
  by_cases hc : y.ca = 0
  · rw [hc]; exact us_zero _
  · rw [us_none hc hk]
    intro j hj e
    have := ok_ca h1
    exact h3 j hj ⟨by omega, e⟩
theorem fit_no {rs : List Ru} {k j : Nat} {y : Ru} (hy : at_ rs k = y) (hk : k ≤ rs.length) (hj : j < k) (h : 0 < y.ca ∧ (at_ rs j).ca = y.ca) : ¬ FitP rs k := by
  rintro ⟨_, _, h3⟩
  rw [hy, us_none (by omega) hk] at h3
  exact h3 j hj h.2

end Go.Proofs.YtleoljnofdajfaaGreatDoor.RuG
