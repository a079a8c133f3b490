/- Valid lists and who uses a card: one answer, a contract for each text. -/
import Derived.Test.YtleoljnofdajfaaGreatDoorRuG
namespace Go.Proofs.YtleoljnofdajfaaGreatDoor.RuC
open Go.RowKit Lb Bk InA Wd RuK RuI RuU RuA RuG
set_option linter.unusedSimpArgs false
set_option linter.unusedVariables false

/-- Who uses a card. -/
def wcB (rs : List Ru) (c : Int) : Bool := goodB rs && usB rs c
def wcR (rs : List Ru) (c : Int) : Ru := if goodB rs then usR rs c else no

/-- The model's search stops at the same one: cards of a valid list are not negative. -/
theorem wc_at {rs : List Ru} {c : Int} {k : Nat} (hg : goodB rs = true) (hc : 1 ≤ c) (hk : k < rs.length) (h : ∀ j, j < k → (at_ rs j).ca ≠ c) (h1 : (at_ rs k).ca = c) : wcB rs c = true ∧ wcR rs c = at_ rs k := by
  have := us_at (rs := rs) (c := c) hk (fun j hj => by unfold usP; simp [h j hj]) (by unfold usP; simp [h1]; omega)
  unfold wcB wcR
  rw [hg, this.1, this.2]
  exact ⟨rfl, rfl⟩
theorem wc_no {rs : List Ru} {c : Int} (h : ∀ j, j < rs.length → (at_ rs j).ca ≠ c) : wcB rs c = false ∧ wcR rs c = no := by
  have := us_no (rs := rs) (c := c) (fun j hj => by unfold usP; simp [h j hj])
  unfold wcB wcR
  rw [this.1, this.2]
  exact ⟨by simp, by simp⟩
theorem wc_bad {rs : List Ru} {c : Int} (h : goodB rs = false) : wcB rs c = false ∧ wcR rs c = no := by
  unfold wcB wcR
  rw [h]
  exact ⟨rfl, rfl⟩
theorem good_ca {rs : List Ru} (h : goodB rs = true) {j : Nat} (hj : j < rs.length) : 0 ≤ (at_ rs j).ca ∧ (at_ rs j).ca ≤ 9999 := by
  have := ((of_decide_eq_true h : GoodP rs).2 j hj).1
  unfold okR at this
  simp at this
  omega
/-- A card out of range is nobody's. -/
theorem wc_out {rs : List Ru} {c : Int} (hg : goodB rs = true) (hc : ¬ (1 ≤ c ∧ c ≤ 9999)) : wcB rs c = false ∧ wcR rs c = no := by
  have : ∀ j, j < rs.length → usP c (at_ rs j) = false := fun j hj => by
    have hb := good_ca hg hj
    unfold usP
    by_cases h0 : c = 0
    · simp [h0]
    · have : (at_ rs j).ca ≠ c := by omega
      simp [this]
  have := us_no this
  unfold wcB wcR
  rw [hg, this.1, this.2]
  exact ⟨rfl, rfl⟩

end Go.Proofs.YtleoljnofdajfaaGreatDoor.RuC
