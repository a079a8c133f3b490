/- A list of numbers that came in: what its reading says. -/
import Derived.Test.YtbcoacbablaagaaMapO
namespace Go.Proofs.Ytbcoacbablaagaa.LisO
open Go.ChangeShapes Go.WideShapes Go.ChangeAt Go.RowKit Go.Joins Go.Deep Lb IntS MapS
set_option linter.unusedVariables false

structure IsL (W : World) (zs : List Int) (a : Option Addr) : Prop where
  row : IRow W a zs
  len : zs.length ≤ maxLen
theorem open_list {P : Program} {H : Type} {enc : TypeId × Value → H} {W : World} {r : Reach} {b0 base : Nat} {spare : Nat → Bool} {held : Bool} {t e : TypeId} {v : Value} {d : DataW H} {p : List MemPlace} (ht : P.underlying t = some (.slice e)) (he : P.underlying e = some (.int .i64)) (hc : P.cellsOf e = 1)
    (hv : Value.okWide P W r b0 t v) (h : DataW.Trod enc P W base spare held t v d p) : ∃ (zs : List Int) (a : Option Addr) (cap : Nat), v = .slice a zs.length cap ∧ IsL W zs a := by
  obtain ⟨a0, len, cap0, rfl⟩ := Go.WideShapes.okWide_slice ht hv
  obtain ⟨fuel, hf⟩ := h
  rcases open_ints ht he hc hf with ⟨hcs, _⟩ | ⟨x, l, c, zs, hcs, _, hl, hm, hz, _, hcell, hwf⟩
  · simp [Value.cells] at hcs
    obtain ⟨rfl, rfl, rfl⟩ := hcs
    exact ⟨[], none, 0, rfl, .inl rfl, by simp⟩
  · simp [Value.cells] at hcs
    obtain ⟨rfl, rfl, rfl⟩ := hcs
    have hlz : len ≤ zs.length := by rw [hz]; split <;> omega
    have e1 : (zs.take len).length = len := by simp; omega
    refine ⟨zs.take len, some x, cap0, by rw [e1], RowAt.of_add fun k hk => ?_, by omega⟩
    have hkl : k < len := by omega
    rw [hcell k (by omega)]
    simp [zAt, List.getD, hkl]
end Go.Proofs.Ytbcoacbablaagaa.LisO
