/- Best routes: plain lemmas. -/
import Derived.Test.YtdfmfmndmldggaaBaN
namespace Go.Proofs.Ytdfmfmndmldggaa.Lb
open Go.RowKit
set_option linter.unusedVariables false

/-- Whether a step loses no time; the first cell of which that is so; the way that they make. -/
def stB (m : Mp) (D : Nat → Int) (c x : Nat) : Bool := decide (stp m c x + D x = D c)
def nxt (m : Mp) (D : Nat → Int) (c : Nat) : Nat := ((nx m c).find? (stB m D c)).getD c
def tr (m : Mp) (D : Nat → Int) (i : Nat) : Nat → Nat
  | 0 => i
  | k + 1 => nxt m D (tr m D i k)
def rt (m : Mp) (D : Nat → Int) (i k : Nat) : List Nat := (List.range (k + 1)).map (tr m D i)
theorem rt_zero (m : Mp) (D : Nat → Int) (i : Nat) : rt m D i 0 = [i] := rfl
theorem rt_succ (m : Mp) (D : Nat → Int) (i k : Nat) : rt m D i (k + 1) = rt m D i k ++ [tr m D i (k + 1)] := by
  unfold rt
  rw [List.range_succ (n := k + 1), List.map_append]
  rfl
theorem rt_len (m : Mp) (D : Nat → Int) (i k : Nat) : (rt m D i k).length = k + 1 := by simp [rt]

theorem find_first {p : Nat → Bool} : ∀ {l : List Nat} {r : Nat}, (∀ q, q < r → q < l.length → p (l.getD q 0) = false) → r < l.length → p (l.getD r 0) = true → l.find? p = some (l.getD r 0)
  | [], r, _, h, _ => by simp at h
  | x :: l, 0, _, _, h => by
    simp only [List.getD_cons_zero] at h ⊢
    rw [List.find?_cons_of_pos h]
  | x :: l, r + 1, h0, h1, h => by
    have hx := h0 0 (by omega) (by simp)
    simp only [List.getD_cons_zero] at hx
    simp only [List.getD_cons_succ] at h ⊢
    rw [List.find?_cons_of_neg (by rw [hx]; simp)]
    exact find_first (fun q hq hl => by
      have := h0 (q + 1) (by omega) (by simpa using hl)
      simpa only [List.getD_cons_succ] using this) (by simpa using h1) h
theorem find_none {p : Nat → Bool} {l : List Nat} (h : ∀ q, q < l.length → p (l.getD q 0) = false) : l.find? p = none := by
  rw [List.find?_eq_none]
  intro x hx
  obtain ⟨q, hq, e⟩ := List.mem_iff_getElem.1 hx
  have := h q hq
  rw [show l.getD q 0 = x by simp [hq, e]] at this
  rw [this]
  simp

/-- What is known of the cells on the way. -/
structure Tgt (m : Mp) (w h : Nat) (j : Nat) (D : Nat → Int) : Prop where
  g : GoodM m w h
  ho : Opn m (w * h) j
  D : IsD m (fun x y => stp m y x) j D
theorem Tgt.next {m : Mp} {w h j : Nat} {D : Nat → Int} (t : Tgt m w h j D) {c : Nat} (hc : 0 ≤ D c) (hne : c ≠ j) : ∃ x, (nx m c).find? (stB m D c) = some x ∧ nxt m D c = x ∧ x ∈ nx m c ∧ stp m c x + D x = D c ∧ 0 ≤ D x ∧ D x < D c := by
  obtain ⟨y, hy, hcy, he⟩ := t.D.last hc hne
  have hyo := t.D.opn t.g t.ho hy
  have hco := t.D.opn t.g t.ho hc
  have hyc := nx_sym t.g hyo.1 hyo.2 hcy
  cases hf : (nx m c).find? (stB m D c) with
  | none =>
    have := List.find?_eq_none.1 hf y hyc
    unfold stB at this
    simp at this
    omega
  | some x =>
    have h1 := List.mem_of_find?_eq_some hf
    have h2 := List.find?_some hf
    have h3 : stp m c x + D x = D c := by unfold stB at h2; exact of_decide_eq_true h2
    have h4 := (t.D.step hc h1).1
    have h5 := stp_bd t.g hco.1 (nx_lt t.g hco.1 h1)
    exact ⟨x, rfl, by unfold nxt; rw [hf]; rfl, h1, h3, h4, by omega⟩
theorem Tgt.zero {m : Mp} {w h j : Nat} {D : Nat → Int} (t : Tgt m w h j D) {c : Nat} (hc : D c = 0) : c = j := by
  by_cases e : c = j
  · exact e
  · obtain ⟨x, _, _, _, _, h4, h5⟩ := t.next (c := c) (by omega) e
    omega
/-- On the way. -/
structure OnWay (m : Mp) (D : Nat → Int) (i j k : Nat) : Prop where
  pos : 0 ≤ D (tr m D i k)
  sum : D (tr m D i k) + k ≤ D i
  ne : ∀ q, q < k → tr m D i q ≠ j
theorem OnWay.start {m : Mp} {D : Nat → Int} {i j : Nat} (h : 0 ≤ D i) : OnWay m D i j 0 := ⟨h, by show D i + 0 ≤ D i; omega, fun q hq => by omega⟩
theorem OnWay.next {m : Mp} {w h j : Nat} {D : Nat → Int} (t : Tgt m w h j D) {i k : Nat} (hw : OnWay m D i j k) (hne : tr m D i k ≠ j) : OnWay m D i j (k + 1) ∧ (D (tr m D i (k + 1))).toNat < (D (tr m D i k)).toNat := by
  obtain ⟨x, hf, hx, hm, hs, hp, hl⟩ := t.next hw.pos hne
  have e : tr m D i (k + 1) = x := hx
  have := hw.sum
  refine ⟨⟨by rw [e]; exact hp, by rw [e]; omega, fun q hq => ?_⟩, by rw [e]; omega⟩
  by_cases hqk : q = k
  · subst hqk; exact hne
  · exact hw.ne q (by omega)
/-- The whole way. -/
def Best (m : Mp) (D : Nat → Int) (i j k : Nat) : Prop := OnWay m D i j k ∧ tr m D i k = j
theorem Best.unique {m : Mp} {D : Nat → Int} {i j k l : Nat} (h1 : Best m D i j k) (h2 : Best m D i j l) : k = l := by
  rcases Nat.lt_trichotomy k l with h | h | h
  · exact absurd h1.2 (h2.1.ne k h)
  · exact h
  · exact absurd h2.2 (h1.1.ne l h)
theorem best_ex {m : Mp} {w h j : Nat} {D : Nat → Int} (t : Tgt m w h j D) {i : Nat} (hi : 0 ≤ D i) : ∃ k, Best m D i j k := by
  have key : ∀ (n k : Nat), (D (tr m D i k)).toNat ≤ n → OnWay m D i j k → ∃ k, Best m D i j k := by
    intro n
    induction n with
    | zero =>
      intro k hn hw
      exact ⟨k, hw, t.zero (by have := hw.pos; omega)⟩
    | succ n ih =>
      intro k hn hw
      by_cases e : tr m D i k = j
      · exact ⟨k, hw, e⟩
      · obtain ⟨h1, h2⟩ := hw.next t e
        exact ih (k + 1) (by omega) h1
  exact key _ 0 (Nat.le_refl _) (.start hi)

/-! The properties of the way. -/
theorem Best.step {m : Mp} {w h i j k : Nat} {D : Nat → Int} (t : Tgt m w h j D) (b : Best m D i j k) (hi : 0 ≤ D i) : ∀ q, q ≤ k → OnWay m D i j q := by
  intro q
  induction q with
  | zero => intro _; exact .start hi
  | succ q ih =>
    intro hq
    exact ((ih (by omega)).next t (b.1.ne q (by omega))).1
theorem Best.edge {m : Mp} {w h i j k : Nat} {D : Nat → Int} (t : Tgt m w h j D) (b : Best m D i j k) (hi : 0 ≤ D i) {q : Nat} (hq : q < k) : tr m D i (q + 1) ∈ nx m (tr m D i q) ∧ stp m (tr m D i q) (tr m D i (q + 1)) + D (tr m D i (q + 1)) = D (tr m D i q) ∧ D (tr m D i (q + 1)) < D (tr m D i q) := by
  obtain ⟨x, hf, hx, hm, hs, hp, hl⟩ := t.next (b.step t hi q (by omega)).pos (b.1.ne q hq)
  have e : tr m D i (q + 1) = x := hx
  rw [e]
  exact ⟨hm, hs, hl⟩
theorem Best.mono {m : Mp} {w h i j k : Nat} {D : Nat → Int} (t : Tgt m w h j D) (b : Best m D i j k) (hi : 0 ≤ D i) {p : Nat} : ∀ {q : Nat}, p < q → q ≤ k → D (tr m D i q) < D (tr m D i p)
  | 0, h, _ => by omega
  | q + 1, hp, hq => by
    have h1 := (b.edge t hi (q := q) (by omega)).2.2
    by_cases e : p = q
    · subst e; exact h1
    · have := b.mono t hi (p := p) (q := q) (by omega) (by omega)
      omega
end Go.Proofs.Ytdfmfmndmldggaa.Lb
