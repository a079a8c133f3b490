/- Class that came in: what their reading says. -/
import Derived.Test.YtnenaponiahalaaDoorKlS
import Derived.ProofKit
import Derived.OpenShut
import Derived.ShutString
import Derived.ChangeSlices
import Derived.WideShapes
import Derived.Lib.SmallJoins
import Derived.Deep.Slices
namespace Go.Proofs.YtnenaponiahalaaDoor.KlK
open Go.ChangeShapes Go.WideShapes Go.ChangeAt Go.RowKit Go.Joins Go.Deep Lb Bk
open Go.ChangeMaps (open_string shut_string)
set_option linter.unusedVariables false

theorem array8 {cs : Array Value} (h : cs.size = 8) : ∃ x0 x1 x2 x3 x4 x5 x6 x7, cs = #[x0, x1, x2, x3, x4, x5, x6, x7] := by
  obtain ⟨l⟩ := cs
  match l, h with
  | [x0, x1, x2, x3, x4, x5, x6, x7], _ => exact ⟨x0, x1, x2, x3, x4, x5, x6, x7, rfl⟩

/-- One that came in. -/
theorem open_one {P : Program} {H : Type} {enc : TypeId × Value → H} {W : World} {r : Reach} {b0 base : Nat} {spare : Nat → Bool} {held : Bool} {t : TypeId} {f0 f1 f2 f3 f4 f5 f6 f7 : Field} {v : Value} {d : DataW H} {p : List MemPlace}
    (hs : P.underlying t = some (.struct #[f0, f1, f2, f3, f4, f5, f6, f7])) (hone : oneCellFields P #[f0, f1, f2, f3, f4, f5, f6, f7] = true) (hC : P.cellsOf t = 8)
    (h0 : P.underlying f0.type = some (.int .i64)) (h1 : P.underlying f1.type = some (.string)) (h2 : P.underlying f2.type = some (.int .i64)) (h3 : P.underlying f3.type = some (.int .i64)) (h4 : P.underlying f4.type = some (.bool)) (h5 : P.underlying f5.type = some (.bool)) (h6 : P.underlying f6.type = some (.int .i64)) (h7 : P.underlying f7.type = some (.int .i64))
    (hv : Value.okWide P W r b0 t v) (h : DataW.Trod enc P W base spare held t v d p) : ∃ (f : Kl), v = .agg #[.int .i64 f.id, .string f.nm, .int .i64 f.lo, .int .i64 f.hi, .bool f.wo, .bool f.me, .int .i64 f.co, .int .i64 f.mo] ∧ Is f := by
  obtain ⟨cs, rfl, hsz⟩ := okWide_struct hs hv
  obtain ⟨c0, c1, c2, c3, c4, c5, c6, c7, rfl⟩ := array8 (hsz.trans hC)
  obtain ⟨fuel, hf⟩ := h
  obtain ⟨xs, n, _, _, hl, hlen, hf⟩ := DataW.trod_struct hs hf
  match xs, hlen with
  | [y0, y1, y2, y3, y4, y5, y6, y7], _ =>

    have t0 := hf 0 f0 rfl
    have t1 := hf 1 f1 rfl
    have t2 := hf 2 f2 rfl
    have t3 := hf 3 f3 rfl
    have t4 := hf 4 f4 rfl
    have t5 := hf 5 f5 rfl
    have t6 := hf 6 f6 rfl
    have t7 := hf 7 f7 rfl
    obtain ⟨o0, k0⟩ := hone_of hone 0 f0 rfl
    obtain ⟨o1, k1⟩ := hone_of hone 1 f1 rfl
    obtain ⟨o2, k2⟩ := hone_of hone 2 f2 rfl
    obtain ⟨o3, k3⟩ := hone_of hone 3 f3 rfl
    obtain ⟨o4, k4⟩ := hone_of hone 4 f4 rfl
    obtain ⟨o5, k5⟩ := hone_of hone 5 f5 rfl
    obtain ⟨o6, k6⟩ := hone_of hone 6 f6 rfl
    obtain ⟨o7, k7⟩ := hone_of hone 7 f7 rfl
    simp [Value.cells, o0, k0] at t0
    simp [Value.cells, o1, k1] at t1
    simp [Value.cells, o2, k2] at t2
    simp [Value.cells, o3, k3] at t3
    simp [Value.cells, o4, k4] at t4
    simp [Value.cells, o5, k5] at t5
    simp [Value.cells, o6, k6] at t6
    simp [Value.cells, o7, k7] at t7
    obtain ⟨z0, e0, _, w0⟩ := DataW.trod_int h0 t0
    obtain ⟨z1, e1, _, w1⟩ := DataW.trod_string h1 t1
    obtain ⟨z2, e2, _, w2⟩ := DataW.trod_int h2 t2
    obtain ⟨z3, e3, _, w3⟩ := DataW.trod_int h3 t3
    obtain ⟨z4, e4, _⟩ := DataW.trod_bool h4 t4
    obtain ⟨z5, e5, _⟩ := DataW.trod_bool h5 t5
    obtain ⟨z6, e6, _, w6⟩ := DataW.trod_int h6 t6
    obtain ⟨z7, e7, _, w7⟩ := DataW.trod_int h7 t7
    simp at e0 e1 e2 e3 e4 e5 e6 e7
    subst e0 e1 e2 e3 e4 e5 e6 e7
    exact ⟨⟨z0, z1, z2, z3, z4, z5, z6, z7⟩, rfl, ⟨w1⟩⟩

/-- A list that came in. -/
structure IsS (W : World) (a : Option Addr) (rs : List Kl) : Prop where
  R : Row W a rs
  f : ∀ i, i < rs.length → Is (at_ rs i)
  l : rs.length ≤ maxLen

theorem open_list {P : Program} {H : Type} {enc : TypeId × Value → H} {W : World} {r : Reach} {b0 base : Nat} {spare : Nat → Bool} {held : Bool} {t e : TypeId} {f0 f1 f2 f3 f4 f5 f6 f7 : Field} {v : Value} {d : DataW H} {p : List MemPlace}
    (ht : P.underlying t = some (.slice e)) (he : P.underlying e = some (.struct #[f0, f1, f2, f3, f4, f5, f6, f7])) (hone : oneCellFields P #[f0, f1, f2, f3, f4, f5, f6, f7] = true) (hC : P.cellsOf e = 8)
    (h0 : P.underlying f0.type = some (.int .i64)) (h1 : P.underlying f1.type = some (.string)) (h2 : P.underlying f2.type = some (.int .i64)) (h3 : P.underlying f3.type = some (.int .i64)) (h4 : P.underlying f4.type = some (.bool)) (h5 : P.underlying f5.type = some (.bool)) (h6 : P.underlying f6.type = some (.int .i64)) (h7 : P.underlying f7.type = some (.int .i64))
    (hv : Value.okWide P W r b0 t v) (h : DataW.Trod enc P W base spare held t v d p) : ∃ (a : Option Addr) (cap : Nat) (rs : List Kl), v = .slice a rs.length cap ∧ IsS W a rs := by
  have inh : Inhabited Kl := ⟨no⟩
  obtain ⟨a, len, cap, rfl⟩ := Go.WideShapes.okWide_slice ht hv
  obtain ⟨fuel, hf⟩ := h
  rcases open_slice ht hf with ⟨hcs, _⟩ | ⟨x, l, c, m, k, D, Pl, hcs, _, hl, hm, hmm, _, hx⟩
  · simp [Value.cells] at hcs
    obtain ⟨rfl, rfl, rfl⟩ := hcs
    exact ⟨none, 0, [], rfl, .inl rfl, fun i hi => absurd hi (Nat.not_lt_zero _), by unfold maxLen; exact Nat.zero_le _⟩
  · simp [Value.cells] at hcs
    obtain ⟨rfl, rfl, rfl⟩ := hcs
    have hlm : len ≤ m := by rw [hmm]; split <;> omega
    have each : ∀ i, i < len → ∃ f : Kl, (W.cell? (x.add (i * 8)) = some (cV f 0) ∧ W.cell? (x.add (i * 8 + 1)) = some (cV f 1) ∧ W.cell? (x.add (i * 8 + 2)) = some (cV f 2) ∧ W.cell? (x.add (i * 8 + 3)) = some (cV f 3) ∧ W.cell? (x.add (i * 8 + 4)) = some (cV f 4) ∧ W.cell? (x.add (i * 8 + 5)) = some (cV f 5) ∧ W.cell? (x.add (i * 8 + 6)) = some (cV f 6) ∧ W.cell? (x.add (i * 8 + 7)) = some (cV f 7)) ∧ Is f := by
      intro i hi
      obtain ⟨cs', hc1, hc2⟩ := hx i (by omega)
      rw [hC] at hc1
      obtain ⟨_, hlen, hcell⟩ := World.cells?_some hc1
      obtain ⟨xs, n, _, _, _, hxl, hfs⟩ := DataW.trod_struct he hc2

      obtain ⟨o0, k0⟩ := hone_of hone 0 f0 rfl
      obtain ⟨o1, k1⟩ := hone_of hone 1 f1 rfl
      obtain ⟨o2, k2⟩ := hone_of hone 2 f2 rfl
      obtain ⟨o3, k3⟩ := hone_of hone 3 f3 rfl
      obtain ⟨o4, k4⟩ := hone_of hone 4 f4 rfl
      obtain ⟨o5, k5⟩ := hone_of hone 5 f5 rfl
      obtain ⟨o6, k6⟩ := hone_of hone 6 f6 rfl
      obtain ⟨o7, k7⟩ := hone_of hone 7 f7 rfl
      match xs, hxl, cs', hlen with
      | [y0, y1, y2, y3, y4, y5, y6, y7], _, [v0, v1, v2, v3, v4, v5, v6, v7], _ =>
        have t0 := hfs 0 f0 rfl
        have t1 := hfs 1 f1 rfl
        have t2 := hfs 2 f2 rfl
        have t3 := hfs 3 f3 rfl
        have t4 := hfs 4 f4 rfl
        have t5 := hfs 5 f5 rfl
        have t6 := hfs 6 f6 rfl
        have t7 := hfs 7 f7 rfl
        simp [o0, k0] at t0
        simp [o1, k1] at t1
        simp [o2, k2] at t2
        simp [o3, k3] at t3
        simp [o4, k4] at t4
        simp [o5, k5] at t5
        simp [o6, k6] at t6
        simp [o7, k7] at t7
        obtain ⟨z0, e0, _, w0⟩ := DataW.trod_int h0 t0
        obtain ⟨z1, e1, _, w1⟩ := DataW.trod_string h1 t1
        obtain ⟨z2, e2, _, w2⟩ := DataW.trod_int h2 t2
        obtain ⟨z3, e3, _, w3⟩ := DataW.trod_int h3 t3
        obtain ⟨z4, e4, _⟩ := DataW.trod_bool h4 t4
        obtain ⟨z5, e5, _⟩ := DataW.trod_bool h5 t5
        obtain ⟨z6, e6, _, w6⟩ := DataW.trod_int h6 t6
        obtain ⟨z7, e7, _, w7⟩ := DataW.trod_int h7 t7
        simp at e0 e1 e2 e3 e4 e5 e6 e7
        subst e0 e1 e2 e3 e4 e5 e6 e7
        have g0 := hcell 0 (by omega)
        have g1 := hcell 1 (by omega)
        have g2 := hcell 2 (by omega)
        have g3 := hcell 3 (by omega)
        have g4 := hcell 4 (by omega)
        have g5 := hcell 5 (by omega)
        have g6 := hcell 6 (by omega)
        have g7 := hcell 7 (by omega)
        rw [add_add] at g0 g1 g2 g3 g4 g5 g6 g7
        exact ⟨⟨z0, z1, z2, z3, z4, z5, z6, z7⟩, ⟨by simpa [cV] using g0, by simpa [cV] using g1, by simpa [cV] using g2, by simpa [cV] using g3, by simpa [cV] using g4, by simpa [cV] using g5, by simpa [cV] using g6, by simpa [cV] using g7⟩, ⟨w1⟩⟩
    obtain ⟨q, hq⟩ := choose_lt each
    have hlen : ((List.range len).map q).length = len := by simp
    have hat : ∀ i, i < len → at_ ((List.range len).map q) i = q i := fun i hi => by rw [at_lt (by rw [hlen]; exact hi)]; simp
    refine ⟨some x, cap, (List.range len).map q, by rw [hlen], ?_, fun i hi => ?_, by rw [hlen]; omega⟩
    · by_cases h00 : len = 0
      · exact .inl (by rw [hlen]; exact h00)
      · have hs : x.spot = none := by
          have := (hq 0 (by omega)).1.1
          exact spot_none (a := x) (by simpa [Addr.add] using this)
        refine .inr ⟨x.block, x.off, by cases x; simp_all, fun i hi j hj => ?_⟩
        rw [hlen] at hi
        rw [hat i hi, show x.off + i * 8 + j = x.off + (i * 8 + j) by omega, ← add_of_spot hs]
        obtain ⟨a0, a1, a2, a3, a4, a5, a6, a7⟩ := (hq i hi).1
        obtain rfl | rfl | rfl | rfl | rfl | rfl | rfl | rfl : j = 0 ∨ j = 1 ∨ j = 2 ∨ j = 3 ∨ j = 4 ∨ j = 5 ∨ j = 6 ∨ j = 7 := by omega
        · exact a0
        · exact a1
        · exact a2
        · exact a3
        · exact a4
        · exact a5
        · exact a6
        · exact a7
    · rw [hlen] at hi
      rw [hat i hi]
      exact (hq i hi).2

end Go.Proofs.YtnenaponiahalaaDoor.KlK
