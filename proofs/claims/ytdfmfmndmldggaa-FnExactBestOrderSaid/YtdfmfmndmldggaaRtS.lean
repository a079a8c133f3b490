/- IsRoute: the model. -/
import Derived.Test.YtdfmfmndmldggaaRtI
namespace Go.Proofs.Ytdfmfmndmldggaa.RtS
open Go.RowKit Lb IntS MapS MapV High Cells StepT StpF SpecB DjkB OpnI RtI
set_option linter.unusedSimpArgs false
set_option linter.unusedVariables false

/-- The map's box, and two cells that are known. -/
structure Sq (w : World) (box : Array Value) (b1 o p : Nat) (x y : Int) (W : World) : Prop where
  b : Below w.heap.size w W
  box : Blk W w.heap.size 26 box
  c1 : W.cell? ⟨b1, o, none⟩ = some (.int .i64 x)
  c2 : W.cell? ⟨b1, p, none⟩ = some (.int .i64 y)
theorem Sq.later {w : World} {box : Array Value} {b1 o p : Nat} {x y : Int} {W W' : World} (h : Sq w box b1 o p x y W) (hb : Below W.heap.size W W') : Sq w box b1 o p x y W' :=
  ⟨h.b.trans (hb.mono h.b.size), h.box.later hb, (hb.cell (World.block_lt_of_cell? _ _ h.c1)).trans h.c1, (hb.cell (World.block_lt_of_cell? _ _ h.c2)).trans h.c2⟩
theorem Sq.keep {w : World} {x0 x1 x2 x3 : Value} {b1 o p : Nat} {x y : Int} {W : World} (h : Sq w #[x0, x1, x2, x3] b1 o p x y W) :
    W.cell? ⟨b1, o, none⟩ = some (.int .i64 x) ∧ W.cell? ⟨b1, p, none⟩ = some (.int .i64 y) ∧ W.cell? ⟨w.heap.size, 0, none⟩ = some x0 ∧ W.cell? ⟨w.heap.size, 1, none⟩ = some x1 ∧ W.cell? ⟨w.heap.size, 2, none⟩ = some x2 ∧ W.cell? ⟨w.heap.size, 3, none⟩ = some x3 := by
  obtain ⟨p0, p1, p2, p3, -⟩ := h.box.four
  exact ⟨h.c1, h.c2, p0, p1, p2, p3⟩
theorem Sq.turn {w : World} {box : Array Value} {b1 o p p' : Nat} {x y d : Int} {W : World} (h : Sq w box b1 o p x y W) (hp : p = p') (hy : y = d) : Sq w box b1 o p' x d W.drew := by
  subst hp hy
  exact h.later (Below.refl _ _).drew
theorem has_take {a : Option Addr} {cap : Nat} {zs : List Int} {W : World} (hr : IRow W a zs) {k : Nat} (hk : k ≤ zs.length) (hl : zs.length ≤ 1048576) (x : Int) :
    Calls Try.prog 95 #[.slice a k cap, .int .i64 x] W fun e w' => e = .returned (.bool (decide (x ∈ zs.take k))) ∧ w' = W := by
  have hlen : (zs.take k).length = k := by rw [List.length_take]; omega
  have hr' : IRow W a (zs.take k) := by
    rcases hr with h0 | ⟨b, off, rfl, hc⟩
    · left; rw [hlen]; omega
    · refine .inr ⟨b, off, rfl, fun j hj => ?_⟩
      rw [hlen] at hj
      rw [hc j (by omega)]
      show some (Value.int .i64 (zAt zs j)) = some (Value.int .i64 (zAt (zs.take k) j))
      unfold zAt
      rw [List.getD_eq_getElem?_getD, List.getD_eq_getElem?_getD, List.getElem?_take, if_pos hj]
  have := has_any a cap (zs.take k) x W hr' (by rw [hlen]; unfold maxLen; omega)
  rwa [hlen] at this

end Go.Proofs.Ytdfmfmndmldggaa.RtS
