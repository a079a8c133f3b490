/- Lists of numbers, in the words of the struct kits. -/
import Derived.Test.YtleoljnofdajfaaGreatDoorIntE
import Derived.Test.YtleoljnofdajfaaGreatDoorBk
namespace Go.Proofs.YtleoljnofdajfaaGreatDoor.IntK
open Go.RowKit Lb IntS
set_option linter.unusedVariables false

def Row (w : World) (a : Option Addr) (rs : List Int) : Prop := IRow w a rs
def Own (w : World) (base : Nat) (v : Value) (rs : List Int) : Prop := OwnI w base v rs
theorem Row.later {w w' : World} {a : Option Addr} {rs : List Int} (H : Row w a rs) (hb : Below w.heap.size w w') : Row w' a rs := RowAt.below H hb
theorem Row.drew {w : World} {a : Option Addr} {rs : List Int} (H : Row w a rs) : Row w.drew a rs := H
theorem Row.beside {w w' : World} {a : Option Addr} {rs : List Int} (H : Row w a rs) {r : Option Nat} (hg : w.grownBy w' r) (hr : ∀ x, a = some x → r ≠ some x.block) : Row w' a rs := row_beside H hg hr
theorem Own.slice {w : World} {base : Nat} {v : Value} {rs : List Int} (h : Own w base v rs) :
    ∃ a cap, v = .slice a rs.length cap ∧ Row w a rs ∧ ∀ x, a = some x → base ≤ x.block ∧ x.block < w.heap.size := OwnI.slice h
theorem Own.row {w : World} {base cap : Nat} {a : Option Addr} {rs : List Int} (h : Own w base (.slice a rs.length cap) rs) : Row w a rs := by
  obtain ⟨a', c', e, hr, _⟩ := h.slice
  cases e; exact hr
theorem Own.le {w : World} {base n cap : Nat} {a : Option Addr} {rs : List Int} (h : Own w base (.slice a n cap) rs) : rs.length ≤ cap := by
  unfold Own at h
  unfold OwnI at h
  rcases h.2 with ⟨h1, h0⟩ | ⟨g', c', cur, hv, _, _, h3, _⟩
  · omega
  · obtain ⟨-, -, rfl⟩ := Value.slice.inj hv
    omega
theorem Own.below {w w' : World} {base : Nat} {v : Value} {rs : List Int} (h : Own w base v rs) (hb : Below w.heap.size w w') : Own w' base v rs := OwnI.below h hb
theorem Own.drew {w : World} {base : Nat} {v : Value} {rs : List Int} (h : Own w base v rs) : Own w.drew base v rs := h.below (Below.refl _ _).drew
def mkL (k n : Nat) : List Int := markZ k n
theorem mkL_len (k n : Nat) : (mkL k n).length = n := markZ_length _ _
/-- A list that grows, of the call's own. -/
structure Gr (w : World) (v : Value) (zs : List Int) (wr : World) : Prop where
  b : Below w.heap.size w wr
  own : OwnI wr w.heap.size v zs
theorem Gr.below {w : World} {v : Value} {zs : List Int} {wr w' : World} (h : Gr w v zs wr) (hb : Below wr.heap.size wr w') : Gr w v zs w' := ⟨h.b.trans (hb.mono h.b.size), h.own.below hb⟩
theorem Gr.alloc {w : World} {v : Value} {zs : List Int} {wr : World} (h : Gr w v zs wr) (o : Obj) : Gr w v zs (wr.alloc o) := h.below ((Below.refl _ _).alloc (Nat.le_refl _) _)
theorem Gr.put {w : World} {v v' : Value} {zs : List Int} {z : Int} {n : Nat} {wr w' : World} (h : Gr w v zs wr) (hn : zs.length = n) (hg : wr.grownBy w' v.ownBlock) (ho : w'.ownsRow w.heap.size 3 1 v' (n + 1) (zs.map (Value.int .i64) ++ [.int .i64 z])) : Gr w v' (zs ++ [z]) w' :=
  ⟨h.b.grown hg h.b.size (fun k e => (h.own.lt k e).1), by unfold OwnI; subst hn; simpa using ho⟩
theorem Gr.start (w : World) : Gr w (.slice (some ⟨w.heap.size, 0, none⟩) 0 0) [] (w.alloc (.cells #[] 3)) :=
  ⟨(Below.refl _ _).alloc (Nat.le_refl _) _, World.ownsRow_made w #[] 0 (Nat.le_refl _) (Nat.zero_le _) rfl⟩
end Go.Proofs.YtleoljnofdajfaaGreatDoor.IntK
