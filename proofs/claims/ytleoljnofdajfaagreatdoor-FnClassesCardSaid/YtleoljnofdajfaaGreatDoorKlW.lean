/- Lists of Class that grow. -/
import Derived.Test.YtleoljnofdajfaaGreatDoorKlN
namespace Go.Proofs.YtleoljnofdajfaaGreatDoor.KlK
open Go.RowKit Lb Bk
set_option linter.unusedVariables false

/-- A list that grows, of the call's own. -/
structure Gr (w : World) (v : Value) (zs : List Kl) (wr : World) : Prop where
  b : Below w.heap.size w wr
  own : KlK.Own wr w.heap.size v zs
theorem Gr.below {w : World} {v : Value} {zs : List Kl} {wr w' : World} (h : Gr w v zs wr) (hb : Below wr.heap.size wr w') : Gr w v zs w' := ⟨h.b.trans (hb.mono h.b.size), h.own.below hb⟩
theorem Gr.alloc {w : World} {v : Value} {zs : List Kl} {wr : World} (h : Gr w v zs wr) (o : Obj) : Gr w v zs (wr.alloc o) := h.below ((Below.refl _ _).alloc (Nat.le_refl _) _)
theorem Gr.drew {w : World} {v : Value} {zs : List Kl} {wr : World} (h : Gr w v zs wr) : Gr w v zs wr.drew := h.below (Below.refl _ _).drew
theorem Gr.put {w : World} {v v' : Value} {zs : List Kl} {x : Kl} {n : Nat} {wr w' : World} (h : Gr w v zs wr) (hn : zs.length = n) (hg : wr.grownBy w' v.ownBlock) (ho : w'.ownsRow w.heap.size 25 8 v' (n + 1) (KlK.cells zs ++ KlK.cells [x])) : Gr w v' (zs ++ [x]) w' :=
  ⟨h.b.grown hg h.b.size (fun k e => (World.ownsRow.lt h.own k e).1), by unfold KlK.Own; rw [List.length_append, KlK.cells_cat]; subst hn; exact ho⟩
theorem Gr.start (w : World) : Gr w (.slice (some ⟨w.heap.size, 0, none⟩) 0 0) [] (w.alloc (.cells #[] 25)) :=
  ⟨(Below.refl _ _).alloc (Nat.le_refl _) _, KlK.Own.empty w⟩
end Go.Proofs.YtleoljnofdajfaaGreatDoor.KlK
