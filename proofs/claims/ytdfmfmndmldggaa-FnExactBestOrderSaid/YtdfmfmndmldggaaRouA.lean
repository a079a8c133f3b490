/- What holds along best ways: mathematics. -/
import Derived.Test.YtdfmfmndmldggaaDtM
import Derived.Test.YtdfmfmndmldggaaBstM
import Derived.Test.YtdfmfmndmldggaaRtM
namespace Go.Proofs.Ytdfmfmndmldggaa.RouM
open Go.RowKit Lb IntS MapS MapV High Cells StepT StpF SpecB DjkB OpnI TmsI LtI RtI RtS
set_option linter.unusedSimpArgs false
set_option linter.unusedVariables false

theorem mem_intsA {l : List Nat} {z : Int} : z ∈ ints l ↔ ∃ c : Nat, c ∈ l ∧ z = (c : Int) := by
  unfold ints
  rw [List.mem_map]
  exact ⟨fun ⟨c, h, e⟩ => ⟨c, h, e.symm⟩, fun ⟨c, h, e⟩ => ⟨c, h, e.symm⟩⟩
/-- A neighbour is as far as the step. -/
theorem tt_self {m : Mp} {T : Nat → Nat → Int} {ww hh : Nat} (g : GoodM m ww hh) (hT : TT m T) {j : Nat} (hj : Opn m (ww * hh) j) : T j j = 0 := IsD.self g hj (wts_to g) (hT ww hh g j hj)
theorem tt_one {m : Mp} {T : Nat → Nat → Int} {ww hh : Nat} (g : GoodM m ww hh) (hT : TT m T) {c d : Nat} (hc : Opn m (ww * hh) c) (hd : d ∈ nx m c) : Opn m (ww * hh) d ∧ 0 ≤ T d c ∧ T d c ≤ stp m c d := by
  have ho := nx_lt g hc.1 hd
  have h0 := tt_self g hT ho
  have h := (hT ww hh g d ho).step (x := d) (y := c) (by omega) (nx_sym g hc.1 hc.2 hd)
  rw [h0] at h
  exact ⟨ho, h.1, by have := h.2; simpa using this⟩
theorem tt_next {m : Mp} {T : Nat → Nat → Int} {ww hh : Nat} (g : GoodM m ww hh) (hT : TT m T) {i c d : Nat} {s : Int} (hc : Opn m (ww * hh) c) (h0 : 0 ≤ T c i) (hs : T c i ≤ s) (hd : d ∈ nx m c) : Opn m (ww * hh) d ∧ 0 ≤ T d i ∧ T d i ≤ s + stp m c d := by
  obtain ⟨ho, h1, h2⟩ := tt_one g hT hc hd
  have h3 := tt_trans g hT (i := i) (r := c) (j := d) hc ho h0 h1
  exact ⟨ho, h3.1, by omega⟩

theorem zAt_rt (m : Mp) (D : Nat → Int) (i k q : Nat) (h : q ≤ k) : zAt (ints (rt m D i k)) q = ((tr m D i q : Nat) : Int) := by
  unfold zAt ints rt
  rw [List.getD_eq_getElem?_getD]
  simp [show q < k + 1 by omega]
theorem len_rt (m : Mp) (D : Nat → Int) (i k : Nat) : (ints (rt m D i k)).length = k + 1 := by rw [ints_length, rt_len]

/-- What holds along a best way. -/
structure Along (m : Mp) (T : Nat → Nat → Int) (ww hh i j k : Nat) : Prop where
  opn : ∀ q, q ≤ k → Opn m (ww * hh) (tr m (T j) i q)
  fst : ∀ q, q ≤ k → 0 ≤ T (tr m (T j) i q) i ∧ T (tr m (T j) i q) i = T j i - T j (tr m (T j) i q)
  snd : ∀ q, q ≤ k → 0 ≤ T j (tr m (T j) i q)
  nx : ∀ q, q < k → tr m (T j) i (q + 1) ∈ nx m (tr m (T j) i q)
  sum : ∀ q, q ≤ k → sm (stp m) (ints (rt m (T j) i k)) q = T j i - T j (tr m (T j) i q)
  ne : ∀ p q, p < q → q ≤ k → tr m (T j) i p ≠ tr m (T j) i q
  tot : sm (stp m) (ints (rt m (T j) i k)) k = T j i
theorem along {m : Mp} {T : Nat → Nat → Int} (hT : TT m T) {ww hh i j k : Nat} (t : Tgt m ww hh j (T j)) (hi : Opn m (ww * hh) i) (h0 : 0 ≤ T j i) (b : Best m (T j) i j k) : Along m T ww hh i j k := by
  have hD : ∀ q, q ≤ k → 0 ≤ T j (tr m (T j) i q) := fun q hq => (b.step t h0 q hq).pos
  have ho : ∀ q, q ≤ k → Opn m (ww * hh) (tr m (T j) i q) := fun q hq => t.D.opn t.g t.ho (hD q hq)
  have hf : ∀ q, q ≤ k → 0 ≤ T (tr m (T j) i q) i ∧ T (tr m (T j) i q) i ≤ T j i - T j (tr m (T j) i q) := by
    intro q
    induction q with
    | zero =>
      intro _
      show 0 ≤ T i i ∧ T i i ≤ T j i - T j i
      rw [tt_self t.g hT hi]
      omega
    | succ q ih =>
      intro hq
      have h1 := ih (by omega)
      obtain ⟨e1, e2, e3⟩ := b.edge t h0 (q := q) (by omega)
      have h2 := tt_next t.g hT (ho q (by omega)) h1.1 h1.2 e1
      exact ⟨h2.2.1, by omega⟩
  have hs : ∀ q, q ≤ k → sm (stp m) (ints (rt m (T j) i k)) q = T j i - T j (tr m (T j) i q) := by
    intro q
    induction q with
    | zero =>
      intro _
      show 0 = T j i - T j i
      omega
    | succ q ih =>
      intro hq
      have h1 := ih (by omega)
      obtain ⟨e1, e2, e3⟩ := b.edge t h0 (q := q) (by omega)
      rw [sm, zAt_rt _ _ _ _ _ (by omega), zAt_rt _ _ _ _ _ hq, Int.toNat_natCast, Int.toNat_natCast, h1]
      omega
  refine ⟨ho, fun q hq => ⟨(hf q hq).1, ?_⟩, hD, fun q hq => (b.edge t h0 hq).1, hs, fun p q hp hq e => ?_, ?_⟩
  · have h1 := hf q hq
    have h2 := tt_trans t.g hT (i := i) (ho q hq) t.ho h1.1 (hD q hq)
    omega
  · have := b.mono t h0 hp hq
    rw [e] at this
    omega
  · have := hs k (Nat.le_refl _)
    rw [b.2, tt_self t.g hT t.ho] at this
    omega
theorem Along.route {m : Mp} {T : Nat → Nat → Int} {ww hh i j k : Nat} (g : GoodM m ww hh) (a : Along m T ww hh i j k) : rtB m (ints (rt m (T j) i k)) = true := by
  have : ∀ q, q < (ints (rt m (T j) i k)).length → okAt m (ints (rt m (T j) i k)) q = true := by
    intro q hq
    rw [len_rt] at hq
    refine ok_yes ?_ ?_ ?_
    · rw [zAt_rt _ _ _ _ _ (by omega)]
      exact opB_yes g (a.opn q (by omega))
    · intro hmem
      obtain ⟨p, hp, e⟩ := List.mem_take_iff_getElem.1 hmem
      rw [len_rt] at hp
      have e1 : zAt (ints (rt m (T j) i k)) p = (ints (rt m (T j) i k))[p]'(by rw [len_rt]; omega) := by
        unfold zAt
        rw [List.getD_eq_getElem?_getD, List.getElem?_eq_getElem (by rw [len_rt]; omega)]
        rfl
      rw [← e1, zAt_rt _ _ _ _ _ (by omega), zAt_rt _ _ _ _ _ (by omega)] at e
      exact a.ne p q (by omega) (by omega) (Int.ofNat.inj e)
    · rcases Nat.eq_zero_or_pos q with h | h
      · exact .inl h
      · refine .inr ?_
        have := a.nx (q - 1) (by omega)
        rw [show q - 1 + 1 = q by omega] at this
        rw [zAt_rt _ _ _ _ _ (by omega), zAt_rt _ _ _ _ _ (by omega), Int.toNat_natCast]
        exact mem_intsA.2 ⟨_, this, rfl⟩
  rw [rt_all this]
  exact decide_eq_true (by rw [len_rt]; omega)

end Go.Proofs.Ytdfmfmndmldggaa.RouM
