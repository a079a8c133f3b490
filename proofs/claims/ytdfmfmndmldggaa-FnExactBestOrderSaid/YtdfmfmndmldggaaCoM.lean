/- Valid lists of controls: mathematics. -/
import Derived.Test.YtdfmfmndmldggaaBaC
import Derived.Test.YtdfmfmndmldggaaOpnI
namespace Go.Proofs.Ytdfmfmndmldggaa.CoM
open Go.RowKit Lb CtK
open OpnI (opB opB_iff opB_of)
set_option linter.unusedSimpArgs false
set_option linter.unusedVariables false

/-- Whether the element at 'i' fits behind those ahead of it. -/
def FitP (m : Mp) (cs : List Ct) (i : Nat) : Prop := ((31 ≤ (at_ cs i).co ∧ (at_ cs i).co ≤ 99) ∧ opB m (at_ cs i).ce = true ∧ (0 < i → (at_ cs (i - 1)).co < (at_ cs i).co)) ∧ ∀ j, j < i → (at_ cs j).ce ≠ (at_ cs i).ce
instance (m : Mp) (cs : List Ct) (i : Nat) : Decidable (FitP m cs i) := by unfold FitP; infer_instance
def GoodP (m : Mp) (cs : List Ct) : Prop := okB m = true ∧ cs.length ≤ 10 ∧ ∀ i, i < cs.length → FitP m cs i
instance (m : Mp) (cs : List Ct) : Decidable (GoodP m cs) := by unfold GoodP; infer_instance
def goodB (m : Mp) (cs : List Ct) : Bool := decide (GoodP m cs)
theorem good_iff {m : Mp} {cs : List Ct} : goodB m cs = true ↔ GoodP m cs := by unfold goodB; simp
theorem good_no {m : Mp} {cs : List Ct} {k : Nat} (hk : k < cs.length) (h : ¬ FitP m cs k) : goodB m cs = false := decide_eq_false fun g => h (g.2.2 k hk)
theorem good_long {m : Mp} {cs : List Ct} (h : ¬ cs.length ≤ 10) : goodB m cs = false := decide_eq_false fun g => h g.2.1
theorem good_map {m : Mp} {cs : List Ct} (h : okB m = false) : goodB m cs = false := decide_eq_false fun g => by have g1 := g.1; rw [h] at g1; cases g1
theorem good_all {m : Mp} {cs : List Ct} (hm : okB m = true) (hl : cs.length ≤ 10) (h : ∀ i, i < cs.length → FitP m cs i) : goodB m cs = true := decide_eq_true ⟨hm, hl, h⟩
theorem good_len {m : Mp} {cs : List Ct} (h : goodB m cs = true) : cs.length ≤ 10 := (good_iff.1 h).2.1
theorem good_ok {m : Mp} {cs : List Ct} (h : goodB m cs = true) : m.ok := okB_iff.1 (good_iff.1 h).1
theorem good_code {m : Mp} {cs : List Ct} (h : goodB m cs = true) {i : Nat} (hi : i < cs.length) : 31 ≤ (at_ cs i).co ∧ (at_ cs i).co ≤ 99 := ((good_iff.1 h).2.2 i hi).1.1
theorem good_open {m : Mp} {cs : List Ct} (h : goodB m cs = true) {i : Nat} (hi : i < cs.length) : opB m (at_ cs i).ce = true := ((good_iff.1 h).2.2 i hi).1.2.1
theorem good_ne {m : Mp} {cs : List Ct} (h : goodB m cs = true) {i j : Nat} (hi : i < cs.length) (hj : j < i) : (at_ cs j).ce ≠ (at_ cs i).ce := ((good_iff.1 h).2.2 i hi).2 j hj
/-- Codes ascend strictly. -/
def Asc (rs : List Ct) : Prop := ∀ i, i + 1 < rs.length → (at_ rs i).co < (at_ rs (i + 1)).co
theorem good_asc {m : Mp} {rs : List Ct} (h : goodB m rs = true) : Asc rs := fun i hi => by
  have := ((good_iff.1 h).2.2 (i + 1) hi).1.2.2 (Nat.succ_pos _)
  simpa using this
theorem Asc.lt {rs : List Ct} (h : Asc rs) : ∀ {j i : Nat}, i < j → j < rs.length → (at_ rs i).co < (at_ rs j).co
  | 0, i, hij, _ => absurd hij (Nat.not_lt_zero _)
  | j + 1, i, hij, hj => by
    rcases Nat.lt_or_ge i j with h1 | h1
    · exact Int.lt_trans (h.lt h1 (by omega)) (h j hj)
    · obtain rfl : i = j := by omega
      exact h i hj
/-- The bits of the cells taken by the first 'k'. -/
def tkB (cs : List Ct) (k : Nat) : Nat → Bool := fun c => decide (∃ j, j < k ∧ (at_ cs j).ce = (c : Int))
theorem tk_zero (cs : List Ct) : tkB cs 0 = fun _ => false := by
  funext c
  exact decide_eq_false (by rintro ⟨j, h, _⟩; omega)
theorem tk_succ (cs : List Ct) (k q : Nat) (h : (at_ cs k).ce = (q : Int)) (c : Nat) : tkB cs (k + 1) c = (tkB cs k c || (c == q)) := by
  unfold tkB
  by_cases e : c = q
  · subst e
    rw [decide_eq_true (⟨k, Nat.lt_succ_self k, h⟩ : ∃ j, j < k + 1 ∧ (at_ cs j).ce = (c : Int))]
    simp
  · have e2 : (c == q) = false := by simpa using e
    rw [e2, Bool.or_false]
    congr 1
    apply propext
    constructor
    · rintro ⟨j, hj, hc⟩
      rcases Nat.lt_or_ge j k with h1 | h1
      · exact ⟨j, h1, hc⟩
      · obtain rfl : j = k := by omega
        rw [h] at hc
        omega
    · rintro ⟨j, hj, hc⟩
      exact ⟨j, by omega, hc⟩
theorem tk_of {cs : List Ct} {k q : Nat} : tkB cs k q = false ↔ ∀ j, j < k → (at_ cs j).ce ≠ (q : Int) := by
  unfold tkB
  rw [decide_eq_false_iff_not]
  constructor
  · intro h j hj e
    exact h ⟨j, hj, e⟩
  · rintro h ⟨j, hj, e⟩
    exact h j hj e
end Go.Proofs.Ytdfmfmndmldggaa.CoM
