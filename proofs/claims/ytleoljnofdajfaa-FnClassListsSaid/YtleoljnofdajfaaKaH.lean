/- The Ids of the Classes that admit a Runner, ClassesFor: the model's texts; both. -/
import Derived.Test.YtleoljnofdajfaaKaF
import Derived.Deep.MidRow
namespace Go.Proofs.Ytleoljnofdajfaa.KaH
open Go.RowKit Lb Bk InA KlI KaA KaG KaD KaF
open KlK (at_ at_lt no Row Own cells cells_one blk_cells info)
open IntS (OwnI iInfo)
set_option linter.unusedSimpArgs false
set_option linter.unusedVariables false

theorem blk_keep {w w' : World} {base : Nat} {e T : TypeId} {k n : Nat} {v : Value} {xs : List Value} {A : Nat} {cs : Array Value} (h : w.ownsRow base e k v n xs) (hb : Blk w A T cs) (hne : e ≠ T) (hg : w.grownBy w' v.ownBlock) : Blk w' A T cs := by
  refine (hg.block A hb.lt (fun e2 => ?_)).trans hb
  rcases h.2 with ⟨rfl, _⟩ | ⟨g, cap, cur, rfl, _, hh, _⟩
  · simp [Value.ownBlock] at e2
  · have h1 : A = g := by simpa [Value.ownBlock] using e2
    subst h1
    unfold Blk at hb
    rw [hh] at hb
    injection hb with h3
    injection h3 with _ h4
    exact hne h4

end Go.Proofs.Ytleoljnofdajfaa.KaH
