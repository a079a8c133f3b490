/- Features turned, their texts: plain lemmas. -/
import Derived.Test.YtpfjdlaaakkimaaDoorFtM
namespace Go.Proofs.YtpfjdlaaakkimaaDoor.Lb
open Go.RowKit
set_option linter.unusedVariables false

/-- A direction turned by quarters to the right; another word as it is. -/
def turnW (x : ByteArray) (q : Nat) : ByteArray := if x ∈ dirs then sAt dirs ((idxN dirs x + q) % 4) else x
theorem turnW_none {x : ByteArray} (q : Nat) (h : x ∉ dirs) : turnW x q = x := if_neg h
theorem turnW_at {x : ByteArray} {k : Nat} (q : Nat) (hk : k < 4) (e : sAt dirs k = x) (h : ∀ i, i < k → sAt dirs i ≠ x) : turnW x q = sAt dirs ((k + q) % 4) := by
  have hm : x ∈ dirs := mem_sAt.2 ⟨k, hk, e⟩
  have := idxZ_first (ss := dirs) hk e h
  unfold idxZ at this
  rw [if_pos hm] at this
  unfold turnW
  rw [if_pos hm, show idxN dirs x = k by omega]
def Ft.turn (f : Ft) (q : Nat) : Ft := ⟨f.c, turnW f.wh q, f.wt, f.lk, turnW f.sd q⟩

end Go.Proofs.YtpfjdlaaakkimaaDoor.Lb
