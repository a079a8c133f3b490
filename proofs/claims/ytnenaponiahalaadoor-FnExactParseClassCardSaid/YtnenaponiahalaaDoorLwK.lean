/- What stands beside a marked row: plain lemmas for the walks of the exact laws. -/
import Derived.Test.YtnenaponiahalaaDoorBk
namespace Go.Proofs.YtnenaponiahalaaDoor.LwK
open Go.RowKit Lb Bk
set_option linter.unusedVariables false

theorem own_block {a : Option Addr} {n cap q : Nat} (h : (Value.slice a n cap).ownBlock = some q) : ∃ x, a = some x ∧ x.block = q := by
  cases a with
  | none => cases h
  | some x => exact ⟨x, rfl, by simpa [Value.ownBlock] using h⟩
theorem below_grown {B : Nat} {W w w' : World} {a : Option Addr} {n cap : Nat} (h : Below B W w) (hg : w.grownBy w' (Value.slice a n cap).ownBlock) (hs : B ≤ w.heap.size) (hl : ∀ x, a = some x → B ≤ x.block) : Below B W w' :=
  h.grown hg hs fun q e => by
    obtain ⟨x, hx, rfl⟩ := own_block e
    exact hl x hx
theorem blk_grown {w w' : World} {g : Nat} {t : TypeId} {cs : Array Value} {a : Option Addr} {n cap : Nat} (h : Blk w g t cs) (hg : w.grownBy w' (Value.slice a n cap).ownBlock) (hl : ∀ x, a = some x → x.block ≠ g) : Blk w' g t cs :=
  (hg.block g h.lt (fun e => by
    obtain ⟨x, hx, h1⟩ := own_block e.symm
    exact hl x hx h1)).trans h
theorem ne_block {a b : Option Addr} {n cap : Nat} (h : ∀ x y, a = some x → b = some y → y.block ≠ x.block) : ∀ x, a = some x → (Value.slice b n cap).ownBlock ≠ some x.block := by
  intro x hx e
  obtain ⟨y, hy, h1⟩ := own_block e
  exact h x y hx hy h1
theorem ne_own {a b : Option Addr} {n cap m cap' : Nat} (h : ∀ x y, a = some x → b = some y → y.block ≠ x.block) : (Value.slice a n cap).ownBlock = none ∨ (Value.slice a n cap).ownBlock ≠ (Value.slice b m cap').ownBlock := by
  cases a with
  | none => exact .inl rfl
  | some x =>
    refine .inr fun e => ?_
    have : (Value.slice (some x) n cap).ownBlock = some x.block := rfl
    rw [this] at e
    obtain ⟨y, hy, h1⟩ := own_block e.symm
    exact h x y rfl hy h1
theorem rebase {w : World} {b b' : Nat} {e : TypeId} {size : Nat} {v : Value} {n : Nat} {xs : List Value} (h : w.ownsRow b e size v n xs) (hb : b' ≤ b) : w.ownsRow b' e size v n xs := by
  refine ⟨h.1, ?_⟩
  rcases h.2 with h2 | ⟨g, cap, cur, hv, hg, r⟩
  · exact .inl h2
  · exact .inr ⟨g, cap, cur, hv, Nat.le_trans hb hg, r⟩
theorem pos_cast (k : Nat) : decide ((k : Int) < 0) = false := decide_eq_false (by omega)

end Go.Proofs.YtnenaponiahalaaDoor.LwK
