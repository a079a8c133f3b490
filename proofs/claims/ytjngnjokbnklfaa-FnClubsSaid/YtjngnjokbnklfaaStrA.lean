/- Lists of texts, in the words of the struct kits. -/
import Derived.Test.YtjngnjokbnklfaaMark
import Derived.Test.YtjngnjokbnklfaaBk
namespace Go.Proofs.Ytjngnjokbnklfaa.StrK
open Go.RowKit Lb Mrk Bk
set_option linter.unusedVariables false

def Row (w : World) (a : Option Addr) (rs : List ByteArray) : Prop := StrRow w a rs
def Own (w : World) (base : Nat) (v : Value) (rs : List ByteArray) : Prop := w.ownsRow base 9 1 v rs.length (rs.map Value.string)
theorem Row.later {w w' : World} {a : Option Addr} {rs : List ByteArray} (H : Row w a rs) (hb : Below w.heap.size w w') : Row w' a rs := RowAt.below H hb
theorem Row.drew {w : World} {a : Option Addr} {rs : List ByteArray} (H : Row w a rs) : Row w.drew a rs := H
theorem Row.beside {w w' : World} {a : Option Addr} {rs : List ByteArray} (H : Row w a rs) {r : Option Nat} (hg : w.grownBy w' r) (hr : ∀ x, a = some x → r ≠ some x.block) : Row w' a rs := by
  rcases H with h | ⟨b, o, rfl, hc⟩
  · exact .inl h
  · exact RowAt.grown (.inr ⟨b, o, rfl, hc⟩) hg (hr _ rfl)
theorem Own.slice {w : World} {base : Nat} {v : Value} {rs : List ByteArray} (h : Own w base v rs) :
    ∃ a cap, v = .slice a rs.length cap ∧ Row w a rs ∧ ∀ x, a = some x → base ≤ x.block ∧ x.block < w.heap.size := by
  have h' := h
  unfold Own at h
  rcases h.2 with ⟨rfl, h0⟩ | ⟨g, cap, cur, rfl, hb, _⟩
  · exact ⟨none, 0, by rw [h0], .inl h0, fun x e => by cases e⟩
  · refine ⟨some ⟨g, 0, none⟩, cap, rfl, (RowAt.of_owns h).congr fun k hk => ?_, fun x e => ?_⟩
    · simp [sAt, hk]
    · cases e; exact h.lt g rfl
theorem Own.row {w : World} {base cap : Nat} {a : Option Addr} {rs : List ByteArray} (h : Own w base (.slice a rs.length cap) rs) : Row w a rs := by
  obtain ⟨a', c', e, hr, _⟩ := h.slice
  cases e; exact hr
theorem Own.le {w : World} {base n cap : Nat} {a : Option Addr} {rs : List ByteArray} (h : Own w base (.slice a n cap) rs) : rs.length ≤ cap := by
  unfold Own at h
  rcases h.2 with ⟨h1, h0⟩ | ⟨g', c', cur, hv, _, _, h3, _⟩
  · omega
  · obtain ⟨-, -, rfl⟩ := Value.slice.inj hv
    omega
theorem Own.below {w w' : World} {base : Nat} {v : Value} {rs : List ByteArray} (h : Own w base v rs) (hb : Below w.heap.size w w') : Own w' base v rs := Bk.owns_below h hb
theorem Own.drew {w : World} {base : Nat} {v : Value} {rs : List ByteArray} (h : Own w base v rs) : Own w.drew base v rs := h.below (Below.refl _ _).drew
def mkL (k n : Nat) : List ByteArray := (List.range n).map fun j => markOf (k + j)
theorem mkL_len (k n : Nat) : (mkL k n).length = n := by simp [mkL]
theorem eqS_same (a b : Option Addr) (cap cap' : Nat) (rs : List ByteArray) (w : World) (hr : Row w a rs) (hr' : Row w b rs) (hl : rs.length ≤ maxLen) :
    Calls Try.prog 65 #[.slice a rs.length cap, .slice b rs.length cap'] w fun e w' => e = .returned (.bool true) ∧ Below w.heap.size w w' :=
  (StrS.eq_any a b cap cap' rs rs w hr hr' hl hl).mono fun e w' ⟨h1, h2⟩ => ⟨by rw [h1]; simp, h2.below _⟩
theorem markS_any (base : Nat) (a : Option Addr) (cap : Nat) (rs : List ByteArray) (k : Nat) (w : World) (hown : Own w base (.slice a rs.length cap) rs) (h0 : 1 ≤ k) (h1 : k + 1 * rs.length ≤ 8000000) (hb : base ≤ w.heap.size) :
    Calls Try.prog 66 #[.slice a rs.length cap, .int .i64 k] w fun e w' => e = .returned (.int .i64 (k + 1 * rs.length : Nat)) ∧ Own w' base (.slice a rs.length cap) (mkL k rs.length) ∧ w.grownBy w' (Value.slice a rs.length cap).ownBlock :=
  (mark_any base a cap rs.length (rs.map Value.string) k w hown h0 (by omega) hb).mono fun e w' ⟨h1, h2, h3⟩ => ⟨by rw [h1, Nat.one_mul], by
    unfold Own
    rw [mkL_len]
    unfold mkL
    rw [List.map_map]
    exact h2, h3⟩
theorem heldS_any (a : Option Addr) (cap n k : Nat) (w : World) (hr : Row w a (mkL k n)) (h0 : 1 ≤ k) (h1 : k + 1 * n ≤ 8000000) :
    Calls Try.prog 67 #[.slice a n cap, .int .i64 k] w fun e w' => e = .returned (.int .i64 (k + 1 * n : Nat)) ∧ Below w.heap.size w w' := by
  have h : RowAt w a n (fun j => .string (markOf (k + j))) := by
    have := hr
    unfold Row StrRow at this
    rw [mkL_len] at this
    exact this.congr fun j hj => by simp [mkL, sAt, hj]
  rw [Nat.one_mul] at h1 ⊢
  exact held_any a cap n k w h h0 h1
end Go.Proofs.Ytjngnjokbnklfaa.StrK
