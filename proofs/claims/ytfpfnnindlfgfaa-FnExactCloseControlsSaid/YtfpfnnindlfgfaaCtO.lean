/- Control that came in: what their reading says. -/
import Derived.Test.YtfpfnnindlfgfaaCtS
import Derived.ProofKit
import Derived.OpenShut
import Derived.ShutString
import Derived.ChangeSlices
import Derived.WideShapes
import Derived.Lib.SmallJoins
import Derived.Deep.Slices
namespace Go.Proofs.Ytfpfnnindlfgfaa.CtK
open Go.ChangeShapes Go.WideShapes Go.ChangeAt Go.RowKit Go.Joins Go.Deep Lb Bk
open Go.ChangeMaps (open_string shut_string)
set_option linter.unusedVariables false

theorem array2 {cs : Array Value} (h : cs.size = 2) : ∃ x0 x1, cs = #[x0, x1] := by
  obtain ⟨l⟩ := cs
  match l, h with
  | [x0, x1], _ => exact ⟨x0, x1, rfl⟩

/-- One that came in. -/
theorem open_one {P : Program} {H : Type} {enc : TypeId × Value → H} {W : World} {r : Reach} {b0 base : Nat} {spare : Nat → Bool} {held : Bool} {t : TypeId} {f0 f1 : Field} {v : Value} {d : DataW H} {p : List MemPlace}
    (hs : P.underlying t = some (.struct #[f0, f1])) (hone : oneCellFields P #[f0, f1] = true) (hC : P.cellsOf t = 2)
    (h0 : P.underlying f0.type = some (.int .i64)) (h1 : P.underlying f1.type = some (.int .i64))
    (hv : Value.okWide P W r b0 t v) (h : DataW.Trod enc P W base spare held t v d p) : ∃ (f : Ct), v = .agg #[.int .i64 f.co, .int .i64 f.ce] ∧ Is f := by
  obtain ⟨cs, rfl, hsz⟩ := okWide_struct hs hv
  obtain ⟨c0, c1, rfl⟩ := array2 (hsz.trans hC)
  obtain ⟨fuel, hf⟩ := h
  obtain ⟨xs, n, _, _, hl, hlen, hf⟩ := DataW.trod_struct hs hf
  match xs, hlen with
  | [y0, y1], _ =>

    have t0 := hf 0 f0 rfl
    have t1 := hf 1 f1 rfl
    obtain ⟨o0, k0⟩ := hone_of hone 0 f0 rfl
    obtain ⟨o1, k1⟩ := hone_of hone 1 f1 rfl
    simp [Value.cells, o0, k0] at t0
    simp [Value.cells, o1, k1] at t1
    obtain ⟨z0, e0, _, w0⟩ := DataW.trod_int h0 t0
    obtain ⟨z1, e1, _, w1⟩ := DataW.trod_int h1 t1
    simp at e0 e1
    subst e0 e1
    exact ⟨⟨z0, z1⟩, rfl, ⟨trivial⟩⟩

/-- A list that came in. -/
structure IsS (W : World) (a : Option Addr) (rs : List Ct) : Prop where
  R : Row W a rs
  f : ∀ i, i < rs.length → Is (at_ rs i)
  l : rs.length ≤ maxLen

theorem open_list {P : Program} {H : Type} {enc : TypeId × Value → H} {W : World} {r : Reach} {b0 base : Nat} {spare : Nat → Bool} {held : Bool} {t e : TypeId} {f0 f1 : Field} {v : Value} {d : DataW H} {p : List MemPlace}
    (ht : P.underlying t = some (.slice e)) (he : P.underlying e = some (.struct #[f0, f1])) (hone : oneCellFields P #[f0, f1] = true) (hC : P.cellsOf e = 2)
    (h0 : P.underlying f0.type = some (.int .i64)) (h1 : P.underlying f1.type = some (.int .i64))
    (hv : Value.okWide P W r b0 t v) (h : DataW.Trod enc P W base spare held t v d p) : ∃ (a : Option Addr) (cap : Nat) (rs : List Ct), v = .slice a rs.length cap ∧ IsS W a rs := by
  have inh : Inhabited Ct := ⟨no⟩
  obtain ⟨a, len, cap, rfl⟩ := Go.WideShapes.okWide_slice ht hv
  obtain ⟨fuel, hf⟩ := h
  rcases open_slice ht hf with ⟨hcs, _⟩ | ⟨x, l, c, m, k, D, Pl, hcs, _, hl, hm, hmm, _, hx⟩
  · simp [Value.cells] at hcs
    obtain ⟨rfl, rfl, rfl⟩ := hcs
    exact ⟨none, 0, [], rfl, .inl rfl, fun i hi => absurd hi (Nat.not_lt_zero _), by unfold maxLen; exact Nat.zero_le _⟩
  · simp [Value.cells] at hcs
    obtain ⟨rfl, rfl, rfl⟩ := hcs
    have hlm : len ≤ m := by rw [hmm]; split <;> omega
    have each : ∀ i, i < len → ∃ f : Ct, (W.cell? (x.add (i * 2)) = some (cV f 0) ∧ W.cell? (x.add (i * 2 + 1)) = some (cV f 1)) ∧ Is f := by
      intro i hi
      obtain ⟨cs', hc1, hc2⟩ := hx i (by omega)
      rw [hC] at hc1
      obtain ⟨_, hlen, hcell⟩ := World.cells?_some hc1
      obtain ⟨xs, n, _, _, _, hxl, hfs⟩ := DataW.trod_struct he hc2

      obtain ⟨o0, k0⟩ := hone_of hone 0 f0 rfl
      obtain ⟨o1, k1⟩ := hone_of hone 1 f1 rfl
      match xs, hxl, cs', hlen with
      | [y0, y1], _, [v0, v1], _ =>
        have t0 := hfs 0 f0 rfl
        have t1 := hfs 1 f1 rfl
        simp [o0, k0] at t0
        simp [o1, k1] at t1
        obtain ⟨z0, e0, _, w0⟩ := DataW.trod_int h0 t0
        obtain ⟨z1, e1, _, w1⟩ := DataW.trod_int h1 t1
        simp at e0 e1
        subst e0 e1
        have g0 := hcell 0 (by omega)
        have g1 := hcell 1 (by omega)
        rw [add_add] at g0 g1
        exact ⟨⟨z0, z1⟩, ⟨by simpa [cV] using g0, by simpa [cV] using g1⟩, ⟨trivial⟩⟩
    obtain ⟨q, hq⟩ := choose_lt each
    have hlen : ((List.range len).map q).length = len := by simp
    have hat : ∀ i, i < len → at_ ((List.range len).map q) i = q i := fun i hi => by rw [at_lt (by rw [hlen]; exact hi)]; simp
    refine ⟨some x, cap, (List.range len).map q, by rw [hlen], ?_, fun i hi => ?_, by rw [hlen]; omega⟩
    · by_cases h00 : len = 0
      · exact .inl (by rw [hlen]; exact h00)
      · have hs : x.spot = none := by
          have := (hq 0 (by omega)).1.1
          exact spot_none (a := x) (by simpa [Addr.add] using this)
        refine .inr ⟨x.block, x.off, by cases x; simp_all, fun i hi j hj => ?_⟩
        rw [hlen] at hi
        rw [hat i hi, show x.off + i * 2 + j = x.off + (i * 2 + j) by omega, ← add_of_spot hs]
        obtain ⟨a0, a1⟩ := (hq i hi).1
        obtain rfl | rfl : j = 0 ∨ j = 1 := by omega
        · exact a0
        · exact a1
    · rw [hlen] at hi
      rw [hat i hi]
      exact (hq i hi).2

end Go.Proofs.Ytfpfnnindlfgfaa.CtK
