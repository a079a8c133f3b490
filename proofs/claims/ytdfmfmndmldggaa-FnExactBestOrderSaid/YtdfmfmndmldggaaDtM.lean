/- Detours: what is answered. -/
import Derived.Test.YtdfmfmndmldggaaLtI
namespace Go.Proofs.Ytdfmfmndmldggaa.LtI
open Go.RowKit Lb IntS MapS MapV High Cells StepT StpF SpecB DjkB OpnI TmsI
set_option linter.unusedSimpArgs false
set_option linter.unusedVariables false

theorem tt_trans {m : Mp} {T : Nat → Nat → Int} {ww hh : Nat} (g : GoodM m ww hh) (hT : TT m T) {i r j : Nat} (hr : Opn m (ww * hh) r) (hj : Opn m (ww * hh) j) (h1 : 0 ≤ T r i) (h2 : 0 ≤ T j r) : 0 ≤ T j i ∧ T j i ≤ T r i + T j r := by
  rcases hT ww hh g r hr i with ⟨e, _⟩ | ⟨_, l1⟩
  · omega
  rcases hT ww hh g j hj r with ⟨e, _⟩ | ⟨_, l2⟩
  · omega
  have hw := l2.1.trans l1.1
  rcases hT ww hh g j hj i with ⟨_, n⟩ | ⟨p, l3⟩
  · exact absurd hw (n _)
  · have := l3.2 _ hw
    exact ⟨p, by omega⟩
theorem tt_bd {m : Mp} {T : Nat → Nat → Int} {ww hh : Nat} (g : GoodM m ww hh) (hT : TT m T) {j : Nat} (hj : Opn m (ww * hh) j) (i : Nat) : -1 ≤ T j i ∧ T j i ≤ 972 := by
  refine ⟨?_, (hT ww hh g j hj).bd g hj (wts_to g) i⟩
  rcases hT ww hh g j hj i with ⟨e, _⟩ | ⟨p, _⟩ <;> omega
theorem ask_split {m : Mp} {ww hh : Nat} (g : GoodM m ww hh) {i j : Nat} (hi : Opn m (ww * hh) i) (hj : Opn m (ww * hh) j) : askB m (i : Nat) (j : Nat) = true := by
  unfold askB
  rw [okB_yes (ok_of g), opB_yes g hi, opB_yes g hj]
  rfl
theorem ltN_bd (m : Mp) (T : Nat → Nat → Int) (hT : TT m T) (p q : Int) : 0 ≤ ltN m T p q ∧ ltN m T p q ≤ 972 := by
  cases ha : askB m p q with
  | false => rw [(lt_no ha).2]; omega
  | true =>
    obtain ⟨hok, h1, h2⟩ := askB_of ha
    obtain ⟨ww, hh, g⟩ := good_of hok
    obtain ⟨i, rfl, hi⟩ := opB_of g h1
    obtain ⟨j, rfl, hj⟩ := opB_of g h2
    by_cases h : T j i < 0
    · rw [(lt_far h).2]; omega
    · rw [(lt_yes ha (by omega)).2]
      have := tt_bd g hT hj i
      omega

def dtB (m : Mp) (T : Nat → Nat → Int) (p r q : Int) : Bool := ltB m T p r && (ltB m T r q && ltB m T p q)
def dtN (m : Mp) (T : Nat → Nat → Int) (p r q : Int) : Int := if dtB m T p r q then ltN m T p r + ltN m T r q - ltN m T p q else 0
theorem dt_false {m : Mp} {T : Nat → Nat → Int} {p r q : Int} (h : dtB m T p r q = false) : dtN m T p r q = 0 := by unfold dtN; rw [h]; rfl
theorem dt_no {m : Mp} {T : Nat → Nat → Int} {p r q : Int} (h : askB m p q = false ∨ opB m r = false) : dtB m T p r q = false ∧ dtN m T p r q = 0 := by
  have h1 : dtB m T p r q = false := by
    unfold dtB
    rcases h with h | h
    · rw [(lt_no h).1]; simp
    · have : askB m p r = false := by unfold askB; rw [h]; simp
      rw [(lt_no this).1]; rfl
  exact ⟨h1, dt_false h1⟩
theorem dt_far {m : Mp} {T : Nat → Nat → Int} {i r j : Nat} (h : T r i < 0 ∨ T j r < 0) : dtB m T (i : Nat) (r : Nat) (j : Nat) = false ∧ dtN m T (i : Nat) (r : Nat) (j : Nat) = 0 := by
  have h1 : dtB m T (i : Nat) (r : Nat) (j : Nat) = false := by
    unfold dtB
    rcases h with h | h
    · rw [(lt_far h).1]; rfl
    · rw [(lt_far h).1]; simp
  exact ⟨h1, dt_false h1⟩
theorem dt_yes {m : Mp} {T : Nat → Nat → Int} {ww hh : Nat} (g : GoodM m ww hh) (hT : TT m T) {i r j : Nat} (hi : Opn m (ww * hh) i) (hr : Opn m (ww * hh) r) (hj : Opn m (ww * hh) j) (h1 : 0 ≤ T r i) (h2 : 0 ≤ T j r) :
    dtB m T (i : Nat) (r : Nat) (j : Nat) = true ∧ dtN m T (i : Nat) (r : Nat) (j : Nat) = T r i + T j r - T j i := by
  have h3 := (tt_trans g hT hr hj h1 h2).1
  have e1 := lt_yes (ask_split g hi hr) h1
  have e2 := lt_yes (ask_split g hr hj) h2
  have e3 := lt_yes (ask_split g hi hj) h3
  have h : dtB m T (i : Nat) (r : Nat) (j : Nat) = true := by unfold dtB; rw [e1.1, e2.1, e3.1]; rfl
  exact ⟨h, by unfold dtN; rw [h, if_pos rfl, e1.2, e2.2, e3.2]⟩
end Go.Proofs.Ytdfmfmndmldggaa.LtI
