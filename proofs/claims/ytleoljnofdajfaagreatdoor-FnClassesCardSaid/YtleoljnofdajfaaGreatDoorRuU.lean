/- Who uses a card: the program's search. -/
import Derived.Test.YtleoljnofdajfaaGreatDoorRuI
import Derived.Test.YtleoljnofdajfaaGreatDoorRuL
import Derived.Deep.CutRange
import Derived.Deep.DeepCutAuto
namespace Go.Proofs.YtleoljnofdajfaaGreatDoor.RuU
open Go.RowKit Lb Bk InA Wd RuK RuI
set_option linter.unusedSimpArgs false
set_option linter.unusedVariables false

def usP (c : Int) (r : Ru) : Bool := r.ca == c && c != 0
def usB (rs : List Ru) (c : Int) : Bool := (rs.find? (usP c)).isSome
def usR (rs : List Ru) (c : Int) : Ru := (rs.find? (usP c)).getD no

theorem us_no {rs : List Ru} {c : Int} (h : ∀ j, j < rs.length → usP c (at_ rs j) = false) : usB rs c = false ∧ usR rs c = no := by
  unfold usB usR
  rw [find_no h]
  exact ⟨rfl, rfl⟩
theorem us_at {rs : List Ru} {c : Int} {k : Nat} (hk : k < rs.length) (h : ∀ j, j < k → usP c (at_ rs j) = false) (h1 : usP c (at_ rs k) = true) : usB rs c = true ∧ usR rs c = at_ rs k := by
  unfold usB usR
  rw [find_at hk h h1]
  exact ⟨rfl, rfl⟩
theorem us_iff {rs : List Ru} {c : Int} : usB rs c = true ↔ ∃ j, j < rs.length ∧ usP c (at_ rs j) = true := by
  constructor
  · intro h
    rcases Classical.em (∃ j, j < rs.length ∧ usP c (at_ rs j) = true) with h1 | h1
    · exact h1
    · rw [(us_no (fun j hj => by
        cases hp : usP c (at_ rs j) with
        | false => rfl
        | true => exact absurd ⟨j, hj, hp⟩ h1)).1] at h
      cases h
  · rintro ⟨j, hj, hp⟩
    unfold usB
    rw [List.find?_isSome]
    exact ⟨at_ rs j, by rw [at_lt hj]; exact List.getElem_mem hj, hp⟩

end Go.Proofs.YtleoljnofdajfaaGreatDoor.RuU
