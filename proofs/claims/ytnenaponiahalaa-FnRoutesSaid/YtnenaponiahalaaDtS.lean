/- DetourTime: the model. -/
import Derived.Test.YtnenaponiahalaaDtI
import Derived.Deep.RegionHeld3
import Derived.Deep.Cut
import Derived.Deep.CutRange
import Derived.Deep.DeepCutAuto
namespace Go.Proofs.Ytnenaponiahalaa.DtS
open Go.RowKit Lb IntS MapS MapV High Cells StepT StpF SpecB DjkB OpnI TmsI LtI
open Go.Proofs.Ytnenaponiahalaa.BfoB (oL oL_len oL_at own_at own_cell)
set_option linter.unusedSimpArgs false
set_option linter.unusedVariables false

/-- Cells that are known. -/
def Kn (W : World) : List (Nat × Nat × Int) → Prop
  | [] => True
  | x :: l => W.cell? ⟨x.1, x.2.1, none⟩ = some (.int .i64 x.2.2) ∧ Kn W l
theorem Kn.later {W W' : World} (hb : Below W.heap.size W W') : ∀ {l : List (Nat × Nat × Int)}, Kn W l → Kn W' l
  | [], _ => trivial
  | x :: l, h => ⟨(hb.cell (World.block_lt_of_cell? _ _ h.1)).trans h.1, Kn.later hb h.2⟩
theorem kn_row {W : World} {l : List (Nat × Nat × Int)} (h : Kn W l) {base g n c i k : Nat} {cap : Nat} {D : Nat → Int} (ho : OwnI W base (.slice (some ⟨g, 0, none⟩) c cap) (oL n D)) (hi : i < n) (hk : k < n) : Kn W ((g, i, D i) :: (g, k, D k) :: l) := by
  have h1 := (own_cell ho (j := i) (by rw [oL_len]; exact hi)).1
  have h2 := (own_cell ho (j := k) (by rw [oL_len]; exact hk)).1
  rw [oL_at _ hi] at h1
  rw [oL_at _ hk] at h2
  exact ⟨h1, h2, h⟩
/-- What stands while the three searches are made. -/
structure Dr (w W : World) (box : Array Value) : Prop where
  b : Below w.heap.size w W
  box : Blk W w.heap.size 26 box
theorem Dr.later {w W W' : World} {box : Array Value} (h : Dr w W box) (hb : Below W.heap.size W W') : Dr w W' box := ⟨h.b.trans (hb.mono h.b.size), h.box.later hb⟩
theorem Dr.drew {w W : World} {box : Array Value} (h : Dr w W box) : Dr w W.drew box := h.later (Below.refl _ _).drew
theorem Dr.keep {w W : World} {x0 x1 x2 x3 : Value} (h : Dr w W #[x0, x1, x2, x3]) : W.cell? ⟨w.heap.size, 0, none⟩ = some x0 ∧ W.cell? ⟨w.heap.size, 1, none⟩ = some x1 ∧ W.cell? ⟨w.heap.size, 2, none⟩ = some x2 ∧ W.cell? ⟨w.heap.size, 3, none⟩ = some x3 := by
  obtain ⟨p0, p1, p2, p3, -⟩ := h.box.four
  exact ⟨p0, p1, p2, p3⟩

/-- What holds behind every operation: the map's box, and the cells that are known. -/
def Sd (B : Nat) (x0 x1 x2 x3 : Value) (l : List (Nat × Nat × Int)) (W : World) : Prop := (W.cell? ⟨B, 0, none⟩ = some x0 ∧ W.cell? ⟨B, 1, none⟩ = some x1 ∧ W.cell? ⟨B, 2, none⟩ = some x2 ∧ W.cell? ⟨B, 3, none⟩ = some x3) ∧ Kn W l
theorem wpAnyH_mono {P : Program} {md : Region.Mode} {ops : Array Oper} {Q : Exit → Act → World → Prop} {S S' : World → Prop} (hS : ∀ w, S' w → S w) :
    ∀ (fuel : Nat) (listed : Array Bool) (a : Act) (w : World), wpAnyH P md ops Q S' fuel listed a w → wpAnyH P md ops Q S fuel listed a w
  | 0, _, _, _, h => h
  | fuel + 1, _, _, _, h => ⟨h.1, fun i hi => wpOp_mono (fun a' w' h' => ⟨hS _ h'.1, wpAnyH_mono hS fuel _ a' w' h'.2⟩) (h.2 i hi)⟩

end Go.Proofs.Ytnenaponiahalaa.DtS
