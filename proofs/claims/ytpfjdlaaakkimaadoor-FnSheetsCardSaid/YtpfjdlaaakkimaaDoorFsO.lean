/- A list of features that came in: what its reading says. -/
import Derived.Test.YtpfjdlaaakkimaaDoorFtL
import Derived.Deep.Slices
namespace Go.Proofs.YtpfjdlaaakkimaaDoor.FsO
open Go.ChangeShapes Go.WideShapes Go.ChangeAt Go.RowKit Go.Joins Go.Deep Lb Bk FtS FtL
set_option linter.unusedVariables false

/-- A list of features that came in. -/
structure IsFs (W : World) (a : Option Addr) (n : Nat) (h : Nat → Ft) : Prop where
  R : FRow W a n h
  f : ∀ i, i < n → IsFt (h i)
  l : n ≤ maxLen

instance : Inhabited Ft := ⟨noF⟩

theorem open_fs {P : Program} {H : Type} {enc : TypeId × Value → H} {W : World} {r : Reach} {b0 base : Nat} {spare : Nat → Bool} {held : Bool} {t e : TypeId} {f0 f1 f2 f3 f4 : Field} {v : Value} {d : DataW H} {p : List MemPlace}
    (ht : P.underlying t = some (.slice e)) (he : P.underlying e = some (.struct #[f0, f1, f2, f3, f4])) (hone : oneCellFields P #[f0, f1, f2, f3, f4] = true) (hC : P.cellsOf e = 5)
    (h0 : P.underlying f0.type = some (.int .i64)) (h1 : P.underlying f1.type = some .string) (h2 : P.underlying f2.type = some .string) (h3 : P.underlying f3.type = some .string) (h4 : P.underlying f4.type = some .string)
    (hv : Value.okWide P W r b0 t v) (h : DataW.Trod enc P W base spare held t v d p) : ∃ (a : Option Addr) (n cap : Nat) (hs : Nat → Ft), v = .slice a n cap ∧ IsFs W a n hs := by
  obtain ⟨a, len, cap, rfl⟩ := Go.WideShapes.okWide_slice ht hv
  obtain ⟨fuel, hf⟩ := h
  rcases open_slice ht hf with ⟨hcs, _⟩ | ⟨x, l, c, m, k, D, Pl, hcs, _, hl, hm, hmm, _, hx⟩
  · simp [Value.cells] at hcs
    obtain ⟨rfl, rfl, rfl⟩ := hcs
    exact ⟨none, 0, 0, fun _ => noF, rfl, .inl rfl, fun i hi => by omega, by unfold maxLen; omega⟩
  · simp [Value.cells] at hcs
    obtain ⟨rfl, rfl, rfl⟩ := hcs
    have hlm : len ≤ m := by rw [hmm]; split <;> omega
    have each : ∀ i, i < len → ∃ f : Ft, (W.cell? (x.add (i * 5)) = some (cF f 0) ∧ W.cell? (x.add (i * 5 + 1)) = some (cF f 1) ∧ W.cell? (x.add (i * 5 + 2)) = some (cF f 2) ∧ W.cell? (x.add (i * 5 + 3)) = some (cF f 3) ∧ W.cell? (x.add (i * 5 + 4)) = some (cF f 4)) ∧ IsFt f := by
      intro i hi
      obtain ⟨cs', hc1, hc2⟩ := hx i (by omega)
      rw [hC] at hc1
      obtain ⟨_, hlen, hcell⟩ := World.cells?_some hc1
      obtain ⟨xs, n, _, _, _, hxl, hfs⟩ := DataW.trod_struct he hc2
      obtain ⟨o0, k0⟩ := hone_of hone 0 f0 rfl
      obtain ⟨o1, k1⟩ := hone_of hone 1 f1 rfl
      obtain ⟨o2, k2⟩ := hone_of hone 2 f2 rfl
      obtain ⟨o3, k3⟩ := hone_of hone 3 f3 rfl
      obtain ⟨o4, k4⟩ := hone_of hone 4 f4 rfl
      match xs, hxl, cs', hlen with
      | [y0, y1, y2, y3, y4], _, [v0, v1, v2, v3, v4], _ =>
        have t0 := hfs 0 f0 rfl
        have t1 := hfs 1 f1 rfl
        have t2 := hfs 2 f2 rfl
        have t3 := hfs 3 f3 rfl
        have t4 := hfs 4 f4 rfl
        simp [o0, k0] at t0
        simp [o1, k1] at t1
        simp [o2, k2] at t2
        simp [o3, k3] at t3
        simp [o4, k4] at t4
        obtain ⟨z0, e0, _, w0⟩ := DataW.trod_int h0 t0
        obtain ⟨s1, e1, _, w1⟩ := DataW.trod_string h1 t1
        obtain ⟨s2, e2, _, w2⟩ := DataW.trod_string h2 t2
        obtain ⟨s3, e3, _, w3⟩ := DataW.trod_string h3 t3
        obtain ⟨s4, e4, _, w4⟩ := DataW.trod_string h4 t4
        simp at e0 e1 e2 e3 e4
        subst e0 e1 e2 e3 e4
        have g0 := hcell 0 (by omega)
        have g1 := hcell 1 (by omega)
        have g2 := hcell 2 (by omega)
        have g3 := hcell 3 (by omega)
        have g4 := hcell 4 (by omega)
        rw [add_add] at g0 g1 g2 g3 g4
        exact ⟨⟨z0, s1, s2, s3, s4⟩, ⟨by simpa [cF] using g0, by simpa [cF] using g1, by simpa [cF] using g2, by simpa [cF] using g3, by simpa [cF] using g4⟩, w1, w2, w3, w4⟩
    obtain ⟨q, hq⟩ := choose_lt each
    refine ⟨some x, len, cap, q, rfl, ?_, fun i hi => (hq i hi).2, by omega⟩
    by_cases h00 : len = 0
    · exact .inl h00
    · have hs : x.spot = none := by
        have := (hq 0 (by omega)).1.1
        exact spot_none (a := x) (by simpa [Addr.add] using this)
      refine .inr ⟨x.block, x.off, by cases x; simp_all, fun i hi j hj => ?_⟩
      rw [show x.off + i * 5 + j = x.off + (i * 5 + j) by omega, ← add_of_spot hs]
      obtain ⟨a0, a1, a2, a3, a4⟩ := (hq i hi).1
      obtain rfl | rfl | rfl | rfl | rfl : j = 0 ∨ j = 1 ∨ j = 2 ∨ j = 3 ∨ j = 4 := by omega
      · exact a0
      · exact a1
      · exact a2
      · exact a3
      · exact a4

end Go.Proofs.YtpfjdlaaakkimaaDoor.FsO
