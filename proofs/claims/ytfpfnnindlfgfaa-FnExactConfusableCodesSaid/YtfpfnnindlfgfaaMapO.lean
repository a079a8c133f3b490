/- A map that came in: what its reading says. -/
import Derived.Test.YtfpfnnindlfgfaaMapE
import Derived.ProofKit
import Derived.OpenShut
import Derived.ChangeSlices
import Derived.WideShapes
import Derived.Lib.SmallJoins
namespace Go.Proofs.Ytfpfnnindlfgfaa.MapO
open Go.ChangeShapes Go.WideShapes Go.ChangeAt Go.RowKit Go.Joins Go.Deep Lb IntS MapS

/-- A map that came in: both lists can be read, and all numbers are int's. -/
structure IsMp (W : World) (m : Mp) (a b : Option Addr) : Prop where
  R : IRow W a m.R
  C : IRow W b m.C
  lR : m.R.length ≤ maxLen
  lC : m.C.length ≤ maxLen
  w : Joins.In64 m.W
  h : Joins.In64 m.H

theorem open_is {P : Program} {H : Type} {enc : TypeId × Value → H} {W : World} {base : Nat} {spare : Nat → Bool} {held : Bool} {t e : TypeId} {n : Nat} {v : Value} {y : DataW H × List MemPlace} (ht : P.underlying t = some (.slice e)) (he : P.underlying e = some (.int .i64)) (hc : P.cellsOf e = 1)
    (h : DataW.trod enc P W base spare held n t [v] = some y) : ∃ (a : Option Addr) (cap : Nat) (zs : List Int), v = .slice a zs.length cap ∧ IRow W a zs ∧ zs.length ≤ maxLen := by
  rcases open_ints ht he hc h with ⟨hcs, _⟩ | ⟨x, l, c, zs, hcs, _, hl, hm, hz, _, hcell, hwf⟩
  · simp at hcs
    subst hcs
    exact ⟨none, 0, [], rfl, .inl rfl, by simp⟩
  · simp at hcs
    subst hcs
    have hlz : l ≤ zs.length := by rw [hz]; split <;> omega
    have e1 : (zs.take l).length = l := by simp; omega
    refine ⟨some x, c, zs.take l, by rw [e1], RowAt.of_add fun k hk => ?_, by omega⟩
    have hkl : k < l := by omega
    rw [hcell k (by omega)]
    simp [zAt, List.getD, hkl]

theorem open_map {P : Program} {H : Type} {enc : TypeId × Value → H} {W : World} {r : Reach} {b0 base : Nat} {spare : Nat → Bool} {held : Bool} {t e : TypeId} {f0 f1 f2 f3 : Field} {v : Value} {d : DataW H} {p : List MemPlace}
    (hs : P.underlying t = some (.struct #[f0, f1, f2, f3])) (hone : oneCellFields P #[f0, f1, f2, f3] = true) (hC : P.cellsOf t = 4)
    (h0 : P.underlying f0.type = some (.int .i64)) (h1 : P.underlying f1.type = some (.int .i64)) (h2 : P.underlying f2.type = some (.slice e)) (h3 : P.underlying f3.type = some (.slice e)) (he : P.underlying e = some (.int .i64)) (hc : P.cellsOf e = 1)
    (hv : Value.okWide P W r b0 t v) (h : DataW.Trod enc P W base spare held t v d p) :
    ∃ (m : Mp) (a : Option Addr) (ca : Nat) (b : Option Addr) (cb : Nat), v = .agg #[.int .i64 m.W, .int .i64 m.H, .slice a m.R.length ca, .slice b m.C.length cb] ∧ IsMp W m a b := by
  obtain ⟨v0, v1, v2, v3, y0, y1, y2, y3, n, rfl, _, _, t0, t1, t2, t3⟩ := Joins.open_agg4 hs hone hC hv h
  obtain ⟨z0, e0, _, w0⟩ := DataW.trod_int h0 t0
  obtain ⟨z1, e1, _, w1⟩ := DataW.trod_int h1 t1
  obtain ⟨a, ca, R, rfl, hR, lR⟩ := open_is h2 he hc t2
  obtain ⟨b, cb, C, rfl, hC', lC⟩ := open_is h3 he hc t3
  simp at e0 e1
  subst e0 e1
  exact ⟨⟨z0, z1, R, C⟩, a, ca, b, cb, rfl, hR, hC', lR, lC, bounds_i64 w0, bounds_i64 w1⟩

end Go.Proofs.Ytfpfnnindlfgfaa.MapO
