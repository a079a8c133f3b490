/- Spans of ages: mathematics. -/
import Derived.Test.YtnenaponiahalaaKaG
namespace Go.Proofs.Ytnenaponiahalaa.KaM
open Lb KlI KaA
open KlK (at_ at_lt)
set_option linter.unusedVariables false

/-- One more number for the spans. -/
def ext (l : List (Nat × Nat)) (k : Nat) : List (Nat × Nat) := match l.getLast? with
  | some p => if p.2 + 1 = k then l.dropLast ++ [(p.1, k)] else l ++ [(k, k)]
  | none => [(k, k)]
/-- The spans of those below a number of which a test holds. -/
def sp (F : Nat → Bool) : Nat → List (Nat × Nat)
  | 0 => []
  | k + 1 => if F k then ext (sp F k) k else sp F k
theorem ext_nil (k : Nat) : ext [] k = [(k, k)] := rfl
theorem ext_new {l : List (Nat × Nat)} {k : Nat} (h : ∀ p ∈ l.getLast?, p.2 + 1 ≠ k) : ext l k = l ++ [(k, k)] := by
  unfold ext
  cases hl : l.getLast? with
  | none => rw [List.getLast?_eq_none_iff.1 hl]; rfl
  | some p => rw [hl] at h; simp only []; rw [if_neg (h p rfl)]
theorem ext_on (l : List (Nat × Nat)) (s k : Nat) : ext (l ++ [(s, k)]) (k + 1) = l ++ [(s, k + 1)] := by
  unfold ext
  rw [List.getLast?_concat, List.dropLast_concat]
  simp
theorem sp_end {F : Nat → Bool} : ∀ {k : Nat} {p : Nat × Nat}, p ∈ sp F k → F p.2 = true ∧ p.2 < k ∧ p.1 ≤ p.2
  | 0, p, h => by simp [sp] at h
  | k + 1, p, h => by
    rw [sp] at h
    by_cases hF : F k = true
    · rw [if_pos hF] at h
      unfold ext at h
      cases hl : (sp F k).getLast? with
      | none =>
        rw [hl] at h
        simp only [List.mem_singleton] at h
        subst h
        exact ⟨hF, Nat.lt_succ_self _, Nat.le_refl _⟩
      | some q =>
        rw [hl] at h
        simp only [] at h
        have hq := List.mem_of_getLast? hl
        split at h
        · rcases List.mem_append.1 h with h1 | h1
          · have := sp_end (List.dropLast_subset _ h1)
            exact ⟨this.1, by omega, this.2.2⟩
          · simp only [List.mem_singleton] at h1
            subst h1
            have := sp_end hq
            exact ⟨hF, Nat.lt_succ_self _, by show q.1 ≤ k; omega⟩
        · rcases List.mem_append.1 h with h1 | h1
          · have := sp_end h1
            exact ⟨this.1, by omega, this.2.2⟩
          · simp only [List.mem_singleton] at h1
            subst h1
            exact ⟨hF, Nat.lt_succ_self _, Nat.le_refl _⟩
    · rw [if_neg hF] at h
      have := sp_end h
      exact ⟨this.1, by omega, this.2.2⟩
theorem sp_covered {F : Nat → Bool} {a : Nat} : ∀ {b : Nat}, a ≤ b → (∀ x, a ≤ x → x < b → F x = false) → sp F b = sp F a
  | 0, h, _ => by obtain rfl : a = 0 := (by omega); rfl
  | b + 1, h, hF => by
    rcases Nat.lt_or_ge a (b + 1) with h1 | h1
    · rw [sp, hF b (by omega) (by omega), if_neg (by simp)]
      exact sp_covered (by omega) fun x h2 h3 => hF x h2 (by omega)
    · obtain rfl : a = b + 1 := by omega
      rfl
theorem sp_free {F : Nat → Bool} {a : Nat} (hb : a = 0 ∨ F (a - 1) = false) : ∀ {b : Nat}, a < b → (∀ x, a ≤ x → x < b → F x = true) → sp F b = sp F a ++ [(a, b - 1)]
  | 0, h, _ => by omega
  | b + 1, h, hF => by
    rw [sp, hF b (by omega) (by omega), if_pos rfl, Nat.add_sub_cancel]
    rcases Nat.lt_or_ge a b with h1 | h1
    · rw [sp_free hb h1 (fun x h2 h3 => hF x h2 (by omega))]
      obtain ⟨c, rfl⟩ : ∃ c, b = c + 1 := ⟨b - 1, by omega⟩
      rw [Nat.add_sub_cancel]
      exact ext_on _ _ _
    · obtain rfl : a = b := by omega
      refine ext_new fun p hp e => ?_
      have h2 := sp_end (List.mem_of_getLast? hp)
      rcases hb with h3 | h3
      · omega
      · rw [show a - 1 = p.2 by omega, h2.1] at h3
        cases h3
theorem sp_len (F : Nat → Bool) : ∀ k, (sp F k).length ≤ k
  | 0 => Nat.le_refl _
  | k + 1 => by
    have ih := sp_len F k
    rw [sp]
    split
    · unfold ext
      split
      · rename_i p hp
        have : (sp F k) ≠ [] := by intro e; rw [e] at hp; cases hp
        have := List.length_pos_iff.2 this
        split
        · rw [List.length_append, List.length_dropLast]; simp; omega
        · rw [List.length_append]; simp; omega
      · simp
    · omega

/-! The sweep over sorted ranges. -/
/-- Which numbers lie in no range. -/
def frF (fs : List Kl) (x : Nat) : Bool := !(fs.any (fun c => decide (c.lo ≤ (x : Int) ∧ (x : Int) ≤ c.hi)))
theorem fr_no {fs : List Kl} {c : Kl} {x : Nat} (hc : c ∈ fs) (h1 : c.lo ≤ (x : Int)) (h2 : (x : Int) ≤ c.hi) : frF fs x = false := by
  unfold frF
  rw [Bool.not_eq_false', List.any_eq_true]
  exact ⟨c, hc, decide_eq_true ⟨h1, h2⟩⟩
theorem fr_yes {fs : List Kl} {x : Nat} (h : ∀ c, c ∈ fs → ¬ (c.lo ≤ (x : Int) ∧ (x : Int) ≤ c.hi)) : frF fs x = true := by
  unfold frF
  rw [Bool.not_eq_true', List.any_eq_false]
  intro c hc
  simpa using h c hc
theorem fr_same {fs gs : List Kl} (h : ∀ x, x ∈ gs ↔ x ∈ fs) : frF gs = frF fs := by
  funext x
  cases hf : frF fs x with
  | true =>
    refine fr_yes fun c hc e => ?_
    rw [fr_no ((h c).1 hc) e.1 e.2] at hf
    cases hf
  | false =>
    cases hg : frF gs x with
    | false => rfl
    | true =>
      unfold frF at hf
      rw [Bool.not_eq_false', List.any_eq_true] at hf
      obtain ⟨c, hc, hp⟩ := hf
      have := of_decide_eq_true hp
      rw [fr_no ((h c).2 hc) this.1 this.2] at hg
      cases hg
/-- What holds behind the first ones: they end below the next number, and the number before it lies in one of them. -/
structure Sw (fs : List Kl) (j N : Nat) : Prop where
  le : N ≤ 121
  hi : ∀ i, i < j → (at_ fs i).hi < (N : Int)
  last : N = 0 ∨ frF fs (N - 1) = false
theorem Sw.start (fs : List Kl) : Sw fs 0 0 := ⟨by omega, fun i h => by omega, .inl rfl⟩
theorem Sw.step {fs : List Kl} {j N l h : Nat} (s : Sw fs j N) (hj : j < fs.length) (hl : (at_ fs j).lo = (l : Int)) (hh : (at_ fs j).hi = (h : Int)) (hlh : l ≤ h) (h120 : h ≤ 120) (hs : ∀ i, j ≤ i → i < fs.length → (at_ fs j).lo ≤ (at_ fs i).lo) :
    Sw fs (j + 1) (max N (h + 1)) ∧ (N < l → sp (frF fs) (max N (h + 1)) = sp (frF fs) N ++ [(N, l - 1)]) ∧ (¬ N < l → sp (frF fs) (max N (h + 1)) = sp (frF fs) N) := by
  have hmem : at_ fs j ∈ fs := by rw [at_lt hj]; exact List.getElem_mem hj
  have hcov : ∀ x, l ≤ x → x < h + 1 → frF fs x = false := fun x h1 h2 => fr_no hmem (by omega) (by omega)
  refine ⟨⟨by have := s.le; omega, fun i hi => ?_, ?_⟩, fun hNl => ?_, fun hNl => ?_⟩
  · rcases Nat.lt_or_ge i j with h1 | h1
    · have := s.hi i h1; omega
    · obtain rfl : i = j := by omega
      omega
  · rcases Nat.lt_or_ge N (h + 1) with h1 | h1
    · rw [Nat.max_eq_right (by omega)]
      exact .inr (hcov _ (by omega) (by omega))
    · rw [Nat.max_eq_left h1]
      exact s.last
  · rw [Nat.max_eq_right (by omega)]
    have e1 : sp (frF fs) (h + 1) = sp (frF fs) l := sp_covered (by omega) hcov
    rw [e1]
    refine sp_free s.last hNl fun x h1 h2 => fr_yes fun c hc e => ?_
    obtain ⟨i, hi, rfl⟩ := List.mem_iff_getElem.1 hc
    rcases Nat.lt_or_ge i j with h3 | h3
    · have := s.hi i h3
      rw [at_lt hi] at this
      omega
    · have := hs i h3 hi
      rw [at_lt hi] at this
      omega
  · exact sp_covered (by omega) fun x h1 h2 => hcov x (by omega) (by omega)
theorem Sw.done {fs : List Kl} {N : Nat} (s : Sw fs fs.length N) : (N ≤ 120 → sp (frF fs) 121 = sp (frF fs) N ++ [(N, 120)]) ∧ (¬ N ≤ 120 → sp (frF fs) 121 = sp (frF fs) N) := by
  refine ⟨fun h => sp_free s.last (by omega) fun x h1 h2 => fr_yes fun c hc e => ?_, fun h => by rw [show N = 121 by have := s.le; omega]⟩
  obtain ⟨i, hi, rfl⟩ := List.mem_iff_getElem.1 hc
  have := s.hi i hi
  rw [at_lt hi] at this
  omega
end Go.Proofs.Ytnenaponiahalaa.KaM
