/- Routes: plain lemmas. -/
import Derived.Test.YtdfmfmndmldggaaRtS
namespace Go.Proofs.Ytdfmfmndmldggaa.RtS
open Go.RowKit Lb OpnI RtI
set_option linter.unusedVariables false

theorem rt_at {m : Mp} {zs : List Int} (h : rtB m zs = true) {i : Nat} (hi : i < zs.length) : okAt m zs i = true := by
  unfold rtB at h
  rw [Bool.and_eq_true, List.all_eq_true] at h
  exact h.1 i (by simpa using hi)
theorem rt_pos {m : Mp} {zs : List Int} (h : rtB m zs = true) : 0 < zs.length := by
  unfold rtB at h
  rw [Bool.and_eq_true] at h
  exact of_decide_eq_true h.2
theorem ok_new {m : Mp} {zs : List Int} {i : Nat} (h : okAt m zs i = true) : zAt zs i ∉ zs.take i := by
  unfold okAt at h
  rw [Bool.and_eq_true, Bool.and_eq_true] at h
  simpa using h.2.1
theorem ok_edge {m : Mp} {zs : List Int} {i : Nat} (h : okAt m zs (i + 1) = true) : zAt zs (i + 1) ∈ ints (nx m (zAt zs i).toNat) := by
  unfold okAt at h
  rw [Bool.and_eq_true, Bool.and_eq_true, Bool.or_eq_true] at h
  rcases h.2.2 with h | h
  · have := of_decide_eq_true h
    omega
  · exact of_decide_eq_true h
/-- The cell at a place of a route. -/
theorem rt_cell {m : Mp} {ww hh : Nat} (g : GoodM m ww hh) {zs : List Int} (h : rtB m zs = true) {i : Nat} (hi : i < zs.length) : ∃ c : Nat, zAt zs i = (c : Int) ∧ Opn m (ww * hh) c := opB_of g (ok_opn (rt_at h hi))
theorem rt_next {m : Mp} {ww hh : Nat} (g : GoodM m ww hh) {zs : List Int} (h : rtB m zs = true) {i c d : Nat} (hi : i + 1 < zs.length) (hc : zAt zs i = (c : Int)) (hd : zAt zs (i + 1) = (d : Int)) : d ∈ nx m c := by
  have := ok_edge (rt_at h hi)
  rw [hc, hd, Int.toNat_natCast] at this
  unfold ints at this
  obtain ⟨a, ha, e⟩ := List.mem_map.1 this
  have : a = d := Int.ofNat.inj e
  rwa [← this]
theorem rt_le {m : Mp} {ww hh : Nat} (g : GoodM m ww hh) {zs : List Int} (h : rtB m zs = true) : zs.length ≤ ww * hh := by
  have hn : (zs.map Int.toNat).Nodup := by
    rw [List.Nodup, List.pairwise_iff_getElem]
    intro i j hi hj hij e
    simp only [List.length_map] at hi hj
    simp only [List.getElem_map] at e
    obtain ⟨c, hc, _⟩ := rt_cell g h hi
    obtain ⟨d, hd, _⟩ := rt_cell g h hj
    have e1 : zAt zs i = zs[i] := by simp [zAt, hi]
    have e2 : zAt zs j = zs[j] := by simp [zAt, hj]
    rw [← e1, ← e2, hc, hd] at e
    simp at e
    refine ok_new (rt_at h hj) ?_
    rw [hd, ← e, ← hc, e1]
    exact List.mem_take_iff_getElem.2 ⟨i, by omega, rfl⟩
  have := len_le_of_lt (zs.map Int.toNat) (ww * hh) hn (fun x hx => by
    obtain ⟨z, hz, rfl⟩ := List.mem_map.1 hx
    obtain ⟨i, hi, rfl⟩ := List.mem_iff_getElem.1 hz
    obtain ⟨c, hc, ho⟩ := rt_cell g h hi
    have e1 : zAt zs i = zs[i] := by simp [zAt, hi]
    rw [← e1, hc]
    simpa using ho.1)
  simpa using this

/-- The sum over the steps of a list. -/
def sm (f : Nat → Nat → Int) (zs : List Int) : Nat → Int
  | 0 => 0
  | k + 1 => sm f zs k + f (zAt zs k).toNat (zAt zs (k + 1)).toNat
theorem sm_bd {m : Mp} {ww hh : Nat} (g : GoodM m ww hh) {zs : List Int} (h : rtB m zs = true) {f : Nat → Nat → Int} (hf : ∀ c d, Opn m (ww * hh) c → d ∈ nx m c → 0 ≤ f c d ∧ f c d ≤ 27) : ∀ k, k + 1 ≤ zs.length → 0 ≤ sm f zs k ∧ sm f zs k ≤ 27 * k
  | 0, _ => by simp [sm]
  | k + 1, hk => by
    have ih := sm_bd g h hf k (by omega)
    obtain ⟨c, hc, ho⟩ := rt_cell g h (i := k) (by omega)
    obtain ⟨d, hd, _⟩ := rt_cell g h (i := k + 1) (by omega)
    have hn := rt_next g h (by omega) hc hd
    have := hf c d ho hn
    rw [sm, hc, hd, Int.toNat_natCast, Int.toNat_natCast]
    omega
/-- What a step climbs. -/
def clb (m : Mp) (a b : Nat) : Int := max 0 (zAt m.R b - zAt m.R a)
theorem clb_bd {m : Mp} {ww hh : Nat} (g : GoodM m ww hh) {c d : Nat} (hc : Opn m (ww * hh) c) (hd : d ∈ nx m c) : 0 ≤ clb m c d ∧ clb m c d ≤ 27 := by
  have h1 := g.cell c hc.1
  have h2 := g.cell d (nx_lt g hc.1 hd).1
  unfold CellOk at h1 h2
  unfold clb
  omega
theorem stp_bd0 {m : Mp} {ww hh : Nat} (g : GoodM m ww hh) {c d : Nat} (hc : Opn m (ww * hh) c) (hd : d ∈ nx m c) : 0 ≤ stp m c d ∧ stp m c d ≤ 27 := by
  have := stp_bd g hc.1 (nx_lt g hc.1 hd)
  omega
end Go.Proofs.Ytdfmfmndmldggaa.RtS
