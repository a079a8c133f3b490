/- Whether a list of Runners is valid: both texts. -/
import Derived.Test.YtleoljnofdajfaaGreatDoorRuU
import Derived.Deep.MidRow
namespace Go.Proofs.YtleoljnofdajfaaGreatDoor.RuA
open Go.RowKit Lb Bk InA Wd RuK RuI RuU
set_option linter.unusedSimpArgs false
set_option linter.unusedVariables false

/-- Whether the element at 'i' fits behind those ahead of it. -/
def FitP (rs : List Ru) (i : Nat) : Prop := okR (at_ rs i) = true ∧ (0 < i → (at_ rs (i - 1)).id < (at_ rs i).id) ∧ usB (rs.take i) (at_ rs i).ca = false
instance (rs : List Ru) (i : Nat) : Decidable (FitP rs i) := by unfold FitP; infer_instance
def GoodP (rs : List Ru) : Prop := rs.length ≤ 10 ∧ ∀ i, i < rs.length → FitP rs i
instance (rs : List Ru) : Decidable (GoodP rs) := by unfold GoodP; infer_instance
def goodB (rs : List Ru) : Bool := decide (GoodP rs)
theorem good_no {rs : List Ru} {k : Nat} (hk : k < rs.length) (h : ¬ FitP rs k) : goodB rs = false := decide_eq_false fun g => h (g.2 k hk)
theorem good_long {rs : List Ru} (h : ¬ rs.length ≤ 10) : goodB rs = false := decide_eq_false fun g => h g.1
theorem good_all {rs : List Ru} (hl : rs.length ≤ 10) (h : ∀ i, i < rs.length → FitP rs i) : goodB rs = true := decide_eq_true ⟨hl, h⟩
theorem ok_ca {r : Ru} (h : okR r = true) : 0 ≤ r.ca := by
  unfold okR at h
  simp at h
  omega

theorem take_len {rs : List Ru} {k : Nat} (h : k ≤ rs.length) : (rs.take k).length = k := by rw [List.length_take]; omega

/-- What of the spec's inner loop is known: no card is used twice among the first ones. -/
theorem us_none {rs : List Ru} {i : Nat} {c : Int} (hc : c ≠ 0) (hi : i ≤ rs.length) : usB (rs.take i) c = false ↔ ∀ j, j < i → (at_ rs j).ca ≠ c := by
  constructor
  · intro h j hj e
    have : usB (rs.take i) c = true := us_iff.2 ⟨j, by rw [take_len hi]; exact hj, by rw [take_at rs hj]; unfold usP; simp [e, hc]⟩
    rw [h] at this; cases this
  · intro h
    cases hu : usB (rs.take i) c with
    | false => rfl
    | true =>
      obtain ⟨j, hj, hp⟩ := us_iff.1 hu
      rw [take_len hi] at hj
      rw [take_at rs hj] at hp
      unfold usP at hp
      simp at hp
      exact absurd hp.1 (h j hj)
theorem us_zero (rs : List Ru) : usB rs 0 = false := by
  cases hu : usB rs 0 with
  | false => rfl
  | true =>
    obtain ⟨j, hj, hp⟩ := us_iff.1 hu
    unfold usP at hp
    simp at hp

end Go.Proofs.YtleoljnofdajfaaGreatDoor.RuA
