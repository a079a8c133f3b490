/- Lists of numbers, in the words of the struct kits. -/
import Derived.Test.YtnenaponiahalaaIntE
import Derived.Test.YtnenaponiahalaaBk
namespace Go.Proofs.Ytnenaponiahalaa.IntK
open Go.RowKit Lb IntS
set_option linter.unusedVariables false

def Row (w : World) (a : Option Addr) (rs : List Int) : Prop := IRow w a rs
def Own (w : World) (base : Nat) (v : Value) (rs : List Int) : Prop := OwnI w base v rs
theorem Row.later {w w' : World} {a : Option Addr} {rs : List Int} (H : Row w a rs) (hb : Below w.heap.size w w') : Row w' a rs := RowAt.below H hb
theorem Row.drew {w : World} {a : Option Addr} {rs : List Int} (H : Row w a rs) : Row w.drew a rs := H
theorem Row.beside {w w' : World} {a : Option Addr} {rs : List Int} (H : Row w a rs) {r : Option Nat} (hg : w.grownBy w' r) (hr : ∀ x, a = some x → r ≠ some x.block) : Row w' a rs := row_beside H hg hr
theorem Own.slice {w : World} {base : Nat} {v : Value} {rs : List Int} (h : Own w base v rs) :
    ∃ a cap, v = .slice a rs.length cap ∧ Row w a rs ∧ ∀ x, a = some x → base ≤ x.block ∧ x.block < w.heap.size := OwnI.slice h
theorem Own.row {w : World} {base cap : Nat} {a : Option Addr} {rs : List Int} (h : Own w base (.slice a rs.length cap) rs) : Row w a rs := by
  obtain ⟨a', c', e, hr, _⟩ := h.slice
  cases e; exact hr
theorem Own.le {w : World} {base n cap : Nat} {a : Option Addr} {rs : List Int} (h : Own w base (.slice a n cap) rs) : rs.length ≤ cap := by
  unfold Own at h
  unfold OwnI at h
  rcases h.2 with ⟨h1, h0⟩ | ⟨g', c', cur, hv, _, _, h3, _⟩
  · omega
  · obtain ⟨-, -, rfl⟩ := Value.slice.inj hv
    omega
theorem Own.below {w w' : World} {base : Nat} {v : Value} {rs : List Int} (h : Own w base v rs) (hb : Below w.heap.size w w') : Own w' base v rs := OwnI.below h hb
theorem Own.drew {w : World} {base : Nat} {v : Value} {rs : List Int} (h : Own w base v rs) : Own w.drew base v rs := h.below (Below.refl _ _).drew
def mkL (k n : Nat) : List Int := markZ k n
theorem mkL_len (k n : Nat) : (mkL k n).length = n := markZ_length _ _
theorem eqS_same (a b : Option Addr) (cap cap' : Nat) (rs : List Int) (w : World) (hr : Row w a rs) (hr' : Row w b rs) (hl : rs.length ≤ maxLen) :
    Calls Try.prog 61 #[.slice a rs.length cap, .slice b rs.length cap'] w fun e w' => e = .returned (.bool true) ∧ Below w.heap.size w w' := eq_same a b cap cap' rs w hr hr' hl
theorem markS_any (base : Nat) (a : Option Addr) (cap : Nat) (rs : List Int) (k : Nat) (w : World) (hown : Own w base (.slice a rs.length cap) rs) (h0 : 1 ≤ k) (h1 : k + 1 * rs.length ≤ 8000000) :
    Calls Try.prog 63 #[.slice a rs.length cap, .int .i64 k] w fun e w' => e = .returned (.int .i64 (k + 1 * rs.length : Nat)) ∧ Own w' base (.slice a rs.length cap) (mkL k rs.length) ∧ w.grownBy w' (Value.slice a rs.length cap).ownBlock :=
  (mark_any base a cap rs k w hown (by omega) (by omega)).mono fun e w' ⟨h1, h2, h3⟩ => ⟨by rw [h1]; exact congrArg (fun z => Ending.returned (Value.int .i64 z)) (by omega), h2, h3⟩
theorem heldS_any (a : Option Addr) (cap n k : Nat) (w : World) (hr : Row w a (mkL k n)) (h0 : 1 ≤ k) (h1 : k + 1 * n ≤ 8000000) :
    Calls Try.prog 64 #[.slice a n cap, .int .i64 k] w fun e w' => e = .returned (.int .i64 (k + 1 * n : Nat)) ∧ Below w.heap.size w w' := by
  have h : RowAt w a n (fun j => .int .i64 ((k : Int) + j)) := by
    have := hr
    unfold Row IRow mkL at this
    rw [markZ_length] at this
    exact this.congr fun j hj => by rw [markZ_at _ _ _ hj]
  exact (held_any a cap n k w h (by omega) (by omega)).mono fun e w' ⟨h1, h2⟩ => ⟨by rw [h1]; exact congrArg (fun z => Ending.returned (Value.int .i64 z)) (by omega), by rw [h2]; exact Below.refl _ _⟩
/-- A list that grows, of the call's own. -/
structure Gr (w : World) (v : Value) (zs : List Int) (wr : World) : Prop where
  b : Below w.heap.size w wr
  own : OwnI wr w.heap.size v zs
theorem Gr.below {w : World} {v : Value} {zs : List Int} {wr w' : World} (h : Gr w v zs wr) (hb : Below wr.heap.size wr w') : Gr w v zs w' := ⟨h.b.trans (hb.mono h.b.size), h.own.below hb⟩
theorem Gr.alloc {w : World} {v : Value} {zs : List Int} {wr : World} (h : Gr w v zs wr) (o : Obj) : Gr w v zs (wr.alloc o) := h.below ((Below.refl _ _).alloc (Nat.le_refl _) _)
theorem Gr.put {w : World} {v v' : Value} {zs : List Int} {z : Int} {n : Nat} {wr w' : World} (h : Gr w v zs wr) (hn : zs.length = n) (hg : wr.grownBy w' v.ownBlock) (ho : w'.ownsRow w.heap.size 3 1 v' (n + 1) (zs.map (Value.int .i64) ++ [.int .i64 z])) : Gr w v' (zs ++ [z]) w' :=
  ⟨h.b.grown hg h.b.size (fun k e => (h.own.lt k e).1), by unfold OwnI; subst hn; simpa using ho⟩
theorem Gr.start (w : World) : Gr w (.slice (some ⟨w.heap.size, 0, none⟩) 0 0) [] (w.alloc (.cells #[] 3)) :=
  ⟨(Below.refl _ _).alloc (Nat.le_refl _) _, World.ownsRow_made w #[] 0 (Nat.le_refl _) (Nat.zero_le _) rfl⟩
end Go.Proofs.Ytnenaponiahalaa.IntK
