/- What BestOrder answers; the sorted codes: mathematics. -/
import Derived.Test.YtdfmfmndmldggaaKrD
import Derived.Test.YtdfmfmndmldggaaKrF
import Derived.Test.YtdfmfmndmldggaaBaN
namespace Go.Proofs.Ytdfmfmndmldggaa.KrE
open Go.RowKit Lb IntS CtK CoM CoP CoF LtI KrM KrD KrF
set_option linter.unusedSimpArgs false
set_option linter.unusedVariables false

/-- The codes behind the first one, in ascending order. -/
def pa (zs : List Int) : Nat → List Nat
  | 0 => []
  | k + 1 => put (pa zs k) (zAt zs (k + 1)).toNat
theorem pa_mem (zs : List Int) : ∀ (k x : Nat), x ∈ pa zs k ↔ ∃ i, 1 ≤ i ∧ i ≤ k ∧ (zAt zs i).toNat = x
  | 0, x => by
    constructor
    · intro h; cases h
    · rintro ⟨i, h1, h2, _⟩; omega
  | k + 1, x => by
    rw [pa, mem_put, pa_mem zs k x]
    constructor
    · rintro (h | ⟨⟨i, h1, h2, h3⟩, _⟩)
      · exact ⟨k + 1, by omega, by omega, h.symm⟩
      · exact ⟨i, h1, by omega, h3⟩
    · rintro ⟨i, h1, h2, h3⟩
      by_cases hx : x = (zAt zs (k + 1)).toNat
      · exact .inl hx
      · refine .inr ⟨⟨i, h1, ?_, h3⟩, hx⟩
        rcases Nat.lt_or_ge k i with h | h
        · obtain rfl : i = k + 1 := by omega
          exact absurd h3.symm hx
        · exact h
theorem pa_sorted (zs : List Int) : ∀ k, (pa zs k).Pairwise (· < ·)
  | 0 => List.Pairwise.nil
  | k + 1 => put_sorted (pa_sorted zs k)
theorem ints_asc {l : List Nat} (h : l.Pairwise (· < ·)) : (ints l).Pairwise (· < ·) := by
  unfold ints
  rw [List.pairwise_map]
  exact h.imp fun h => by simpa using h
theorem mem_intsE {l : List Nat} {z : Int} : z ∈ ints l ↔ ∃ c : Nat, c ∈ l ∧ z = (c : Int) := by
  unfold ints
  rw [List.mem_map]
  exact ⟨fun ⟨c, h, e⟩ => ⟨c, h, e.symm⟩, fun ⟨c, h, e⟩ => ⟨c, h, e.symm⟩⟩

/-- No code twice. -/
theorem tw_ne {zs : List Int} : ∀ {n : Nat}, twB zs n = false → ∀ {i j : Nat}, i < j → j < n → n ≤ zs.length → zAt zs i ≠ zAt zs j
  | 0, _, i, j, _, hj, _ => by omega
  | n + 1, h, i, j, hij, hj, hn => by
    rw [twB, Bool.or_eq_false_iff] at h
    rcases Nat.lt_or_ge j n with h1 | h1
    · exact tw_ne h.1 hij h1 (by omega)
    · obtain rfl : j = n := by omega
      intro e
      refine of_decide_eq_false h.2 ?_
      rw [← e]
      unfold zAt
      rw [List.getD_eq_getElem?_getD, List.getElem?_eq_getElem (by omega)]
      exact List.mem_take_iff_getElem.2 ⟨i, by omega, rfl⟩
theorem tw_of {zs : List Int} : ∀ {n : Nat}, n ≤ zs.length → (∀ i j, i < j → j < n → zAt zs i ≠ zAt zs j) → twB zs n = false
  | 0, _, _ => rfl
  | n + 1, hn, h => by
    rw [twB, tw_of (by omega) fun i j hij hj => h i j hij (by omega)]
    refine decide_eq_false fun hm => ?_
    obtain ⟨i, hi, e⟩ := List.mem_take_iff_getElem.1 hm
    refine h i n (by omega) (by omega) ?_
    rw [← e]
    unfold zAt
    rw [List.getD_eq_getElem?_getD, List.getElem?_eq_getElem (by omega)]
    rfl
/-- Whether BestOrder answers, and what. -/
def boB (m : Mp) (T : Nat → Nat → Int) (cs : List Ct) (zs : List Int) : Bool := csB m T cs zs && (decide (zs.length ≤ 7) && !(twB zs zs.length))
def lfL (zs : List Int) : List Int := ints (pa zs (zs.length - 2))
def boW (T : Nat → Nat → Int) (cs : List Ct) (zs : List Int) : List Int × Int := bw (DD T cs) (zs.length - 2) (zAt zs 0) (lfL zs) (zAt zs (zs.length - 1))
def boL (m : Mp) (T : Nat → Nat → Int) (cs : List Ct) (zs : List Int) : List Int := if boB m T cs zs then zAt zs 0 :: (boW T cs zs).1 else []
def boT (m : Mp) (T : Nat → Nat → Int) (cs : List Ct) (zs : List Int) : Int := if boB m T cs zs then (boW T cs zs).2 else 0
theorem bo_no {m : Mp} {T : Nat → Nat → Int} {cs : List Ct} {zs : List Int} (h : boB m T cs zs = false) : boL m T cs zs = [] ∧ boT m T cs zs = 0 := by
  unfold boL boT
  rw [h]
  exact ⟨rfl, rfl⟩
theorem bo_yes {m : Mp} {T : Nat → Nat → Int} {cs : List Ct} {zs : List Int} (h : boB m T cs zs = true) : boL m T cs zs = zAt zs 0 :: (boW T cs zs).1 ∧ boT m T cs zs = (boW T cs zs).2 := by
  unfold boL boT
  rw [h]
  exact ⟨rfl, rfl⟩
theorem bo_iff {m : Mp} {T : Nat → Nat → Int} {cs : List Ct} {zs : List Int} : boB m T cs zs = true ↔ CsP m T cs zs ∧ zs.length ≤ 7 ∧ twB zs zs.length = false := by
  unfold boB
  rw [Bool.and_eq_true, Bool.and_eq_true, cs_iff, decide_eq_true_iff, Bool.not_eq_true']
theorem fnd_nn {m : Mp} {cs : List Ct} (hg : goodB m cs = true) {x : Int} (h : 0 ≤ fiZ cs x) : 31 ≤ x ∧ x ≤ 99 := by
  obtain ⟨h1, h2⟩ := fnd_at h
  have h3 := good_code hg h1
  unfold ctA at h2
  rw [h2] at h3
  exact h3
theorem lf_mem {m : Mp} {T : Nat → Nat → Int} {cs : List Ct} {zs : List Int} (h : CsP m T cs zs) {x : Int} : x ∈ lfL zs ↔ ∃ i, 1 ≤ i ∧ i ≤ zs.length - 2 ∧ zAt zs i = x := by
  unfold lfL
  rw [mem_intsE]
  have h2 := h.2.1
  constructor
  · rintro ⟨c, hc, rfl⟩
    obtain ⟨i, h3, h4, h5⟩ := (pa_mem zs _ c).1 hc
    have := fnd_nn h.1 (h.2.2.1 i (by omega))
    exact ⟨i, h3, h4, by omega⟩
  · rintro ⟨i, h3, h4, rfl⟩
    have := fnd_nn h.1 (h.2.2.1 i (by omega))
    exact ⟨(zAt zs i).toNat, (pa_mem zs _ _).2 ⟨i, h3, h4, rfl⟩, by omega⟩
theorem pa_new {zs : List Int} (h0 : ∀ i, i < zs.length → 0 ≤ zAt zs i) (ht : twB zs zs.length = false) {k : Nat} (hk : k + 1 < zs.length) : (zAt zs (k + 1)).toNat ∉ pa zs k := by
  intro hm
  obtain ⟨i, h1, h2, h3⟩ := (pa_mem zs k _).1 hm
  have h4 := tw_ne ht (i := i) (j := k + 1) (by omega) hk (Nat.le_refl _)
  have h5 := h0 i (by omega)
  have h6 := h0 (k + 1) hk
  omega
theorem pa_len {zs : List Int} (h0 : ∀ i, i < zs.length → 0 ≤ zAt zs i) (ht : twB zs zs.length = false) : ∀ k, k + 1 ≤ zs.length → (pa zs k).length = k
  | 0, _ => rfl
  | k + 1, hk => by rw [pa, put_length (pa_sorted zs k) (pa_new h0 ht (by omega)), pa_len h0 ht k (by omega)]
theorem lf_len {m : Mp} {T : Nat → Nat → Int} {cs : List Ct} {zs : List Int} (h : CsP m T cs zs) (ht : twB zs zs.length = false) : (lfL zs).length = zs.length - 2 := by
  unfold lfL
  rw [ints_length, pa_len (fun i hi => by have := fnd_nn h.1 (h.2.2.1 i hi); omega) ht _ (by have := h.2.1; omega)]
/-- A list of controls with ascending codes that are the ones between. -/
theorem lf_of {m : Mp} {T : Nat → Nat → Int} {cs : List Ct} {zs : List Int} (h : CsP m T cs zs) {gs : List Ct} (ha : ∀ i j, i < j → j < gs.length → (at_ gs i).co < (at_ gs j).co) (hm : ∀ x, (∃ c, c ∈ gs ∧ c.co = x) ↔ ∃ i, 1 ≤ i ∧ i ≤ zs.length - 2 ∧ zAt zs i = x) : gs.map (·.co) = lfL zs := by
  refine asc_same ?_ (ints_asc (pa_sorted zs _)) fun x => ?_
  · rw [List.pairwise_iff_getElem]
    intro i j hi hj hij
    simp only [List.length_map] at hi hj
    simp only [List.getElem_map]
    have := ha i j hij hj
    rwa [at_lt hi, at_lt hj] at this
  · rw [List.mem_map, hm, ← lf_mem h]
end Go.Proofs.Ytdfmfmndmldggaa.KrE
