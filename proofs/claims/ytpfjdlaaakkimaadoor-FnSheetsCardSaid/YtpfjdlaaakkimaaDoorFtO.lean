/- A feature that came in: what its reading says; what stands in a law's walk. -/
import Derived.Test.YtpfjdlaaakkimaaDoorFtS
import Derived.ProofKit
import Derived.OpenShut
import Derived.ShutString
import Derived.ChangeSlices
import Derived.WideShapes
import Derived.Lib.SmallJoins
namespace Go.Proofs.YtpfjdlaaakkimaaDoor.FtO
open Go.ChangeShapes Go.WideShapes Go.ChangeAt Go.RowKit Go.Joins Go.Deep Lb Bk FtS
open Go.ChangeMaps (open_string shut_string)
set_option linter.unusedVariables false

/-- What stands in a law's walk over one feature: its box, and nothing else is touched. -/
structure LSt (W0 W : World) (f : Ft) : Prop where
  K : Blk W W0.heap.size 53 #[.int .i64 f.c, .string f.wh, .string f.wt, .string f.lk, .string f.sd]
  B : Below W0.heap.size W0 W
theorem LSt.start (W : World) (f : Ft) : LSt W (W.alloc (.cells #[.int .i64 f.c, .string f.wh, .string f.wt, .string f.lk, .string f.sd] 53)) f := ⟨Blk.new W _ _, (Below.refl _ _).alloc (Nat.le_refl _) _⟩
theorem LSt.later {W0 W W' : World} {f : Ft} (h : LSt W0 W f) (hb : Below W.heap.size W W') : LSt W0 W' f := ⟨h.K.later hb, h.B.trans (hb.mono h.B.size)⟩
theorem LSt.alloc {W0 W : World} {f : Ft} (h : LSt W0 W f) (o : Obj) : LSt W0 (W.alloc o) f := h.later ((Below.refl _ _).alloc (Nat.le_refl _) o)

theorem array5 {cs : Array Value} (h : cs.size = 5) : ∃ a b c d e, cs = #[a, b, c, d, e] := by
  obtain ⟨l⟩ := cs
  match l, h with
  | [a, b, c, d, e], _ => exact ⟨a, b, c, d, e, rfl⟩

/-- A struct of an int and four strings that came in. -/
theorem open_ft {P : Program} {H : Type} {enc : TypeId × Value → H} {W : World} {r : Reach} {b0 base : Nat} {spare : Nat → Bool} {held : Bool} {t : TypeId} {f0 f1 f2 f3 f4 : Field} {v : Value} {d : DataW H} {p : List MemPlace}
    (hs : P.underlying t = some (.struct #[f0, f1, f2, f3, f4])) (hone : oneCellFields P #[f0, f1, f2, f3, f4] = true) (hC : P.cellsOf t = 5)
    (h0 : P.underlying f0.type = some (.int .i64)) (h1 : P.underlying f1.type = some .string) (h2 : P.underlying f2.type = some .string) (h3 : P.underlying f3.type = some .string) (h4 : P.underlying f4.type = some .string)
    (hv : Value.okWide P W r b0 t v) (h : DataW.Trod enc P W base spare held t v d p) : ∃ (f : Ft), v = .agg #[.int .i64 f.c, .string f.wh, .string f.wt, .string f.lk, .string f.sd] ∧ IsFt f := by
  obtain ⟨cs, rfl, hsz⟩ := okWide_struct hs hv
  obtain ⟨c0, c1, c2, c3, c4, rfl⟩ := array5 (hsz.trans hC)
  obtain ⟨fuel, hf⟩ := h
  obtain ⟨xs, n, _, _, hl, hlen, hf⟩ := DataW.trod_struct hs hf
  match xs, hlen with
  | [y0, y1, y2, y3, y4], _ =>
    have t0 := hf 0 f0 rfl
    have t1 := hf 1 f1 rfl
    have t2 := hf 2 f2 rfl
    have t3 := hf 3 f3 rfl
    have t4 := hf 4 f4 rfl
    obtain ⟨o0, k0⟩ := hone_of hone 0 f0 rfl
    obtain ⟨o1, k1⟩ := hone_of hone 1 f1 rfl
    obtain ⟨o2, k2⟩ := hone_of hone 2 f2 rfl
    obtain ⟨o3, k3⟩ := hone_of hone 3 f3 rfl
    obtain ⟨o4, k4⟩ := hone_of hone 4 f4 rfl
    simp [Value.cells, o0, k0] at t0
    simp [Value.cells, o1, k1] at t1
    simp [Value.cells, o2, k2] at t2
    simp [Value.cells, o3, k3] at t3
    simp [Value.cells, o4, k4] at t4
    obtain ⟨z0, e0, _, w0⟩ := DataW.trod_int h0 t0
    obtain ⟨s1, e1, _, w1⟩ := DataW.trod_string h1 t1
    obtain ⟨s2, e2, _, w2⟩ := DataW.trod_string h2 t2
    obtain ⟨s3, e3, _, w3⟩ := DataW.trod_string h3 t3
    obtain ⟨s4, e4, _, w4⟩ := DataW.trod_string h4 t4
    simp at e0 e1 e2 e3 e4
    subst e0 e1 e2 e3 e4
    exact ⟨⟨z0, s1, s2, s3, s4⟩, rfl, w1, w2, w3, w4⟩

end Go.Proofs.YtpfjdlaaakkimaaDoor.FtO
