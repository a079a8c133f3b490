/- Lists of IntA2 beside a map that is marked: plain lemmas. -/
import Derived.Test.YtdfmfmndmldggaaPrM
import Derived.Test.YtdfmfmndmldggaaBaA
namespace Go.Proofs.Ytdfmfmndmldggaa.PrK
open Go.RowKit Lb Bk
theorem Row.chg {lo hi : Nat} {w w' : World} (h : MapS.Chg lo hi w w') {a : Option Addr} {rs : List Pr} (H : Row w a rs) (hx : ∀ p, a = some p → p.block < lo ∨ hi ≤ p.block) : Row w' a rs := by
  rcases H with H | ⟨b, off, ha, hc⟩
  · exact .inl H
  · exact .inr ⟨b, off, ha, fun i hi' j hj => MpA.chg_cell h (hc i hi' j hj) (by have h1 := hx _ ha; exact h1)⟩
theorem Own.chg {lo hi base n cap : Nat} {w w' : World} (h : MapS.Chg lo hi w w') {a : Option Addr} {rs : List Pr} (H : Own w base (.slice a n cap) rs) (hx : ∀ p, a = some p → p.block < lo ∨ hi ≤ p.block) : Own w' base (.slice a n cap) rs := MpA.chg_owns h H hx
end Go.Proofs.Ytdfmfmndmldggaa.PrK
