/- DetourTime: both texts. -/
import Derived.Test.YtjngnjokbnklfaaDtS
namespace Go.Proofs.Ytjngnjokbnklfaa.DtB
open Go.RowKit Lb IntS MapS MapV High Cells StepT StpF SpecB DjkB OpnI TmsI LtI
set_option linter.unusedSimpArgs false
set_option linter.unusedVariables false

theorem spec_any (m : Mp) (T : Nat → Nat → Int) (hT : TT m T) (p r q : Int) (a b : Option Addr) (ca cb : Nat) (w : World) (hR : m.R.length ≤ maxLen) (hC : m.C.length ≤ maxLen) (hr : IRow w a m.R) (hc : IRow w b m.C) :
    Calls Try.prog 29 #[.agg #[.int .i64 m.W, .int .i64 m.H, .slice a m.R.length ca, .slice b m.C.length cb], .int .i64 p, .int .i64 r, .int .i64 q] w (LPost w (dtN m T p r q) (dtB m T p r q)) := by
  by_cases h : askB m p q = false ∨ opB m r = false
  · exact DtS.spec_no m T p r q h a b ca cb w hR hC hr hc
  · have ha : askB m p q = true := by
      cases e : askB m p q with
      | true => rfl
      | false => exact absurd (.inl e) h
    have ho : opB m r = true := by
      cases e : opB m r with
      | true => rfl
      | false => exact absurd (.inr e) h
    obtain ⟨hok, h1, h2⟩ := askB_of ha
    obtain ⟨ww, hh, g⟩ := good_of hok
    obtain ⟨i, rfl, hi⟩ := opB_of g h1
    obtain ⟨j, rfl, hj⟩ := opB_of g h2
    obtain ⟨k, rfl, hk⟩ := opB_of g ho
    exact DtS.spec_ask m T ww hh g hT i k j hi hk hj a b ca cb w hr hc
theorem both_v (m : Mp) (p r q : Int) : ∃ (n : Int) (ok : Bool),
    (∀ a b ca cb w, m.R.length ≤ maxLen → m.C.length ≤ maxLen → IRow w a m.R → IRow w b m.C → Calls Try.prog 29 #[.agg #[.int .i64 m.W, .int .i64 m.H, .slice a m.R.length ca, .slice b m.C.length cb], .int .i64 p, .int .i64 r, .int .i64 q] w (LPost w n ok)) ∧
    (∀ a b ca cb w, m.R.length ≤ maxLen → m.C.length ≤ maxLen → IRow w a m.R → IRow w b m.C → Calls Try.prog 28 #[.agg #[.int .i64 m.W, .int .i64 m.H, .slice a m.R.length ca, .slice b m.C.length cb], .int .i64 p, .int .i64 r, .int .i64 q] w (LPost w n ok)) := by
  obtain ⟨T, hT⟩ := tt_ex m
  exact ⟨_, _, fun a b ca cb w hR hC hr hc => spec_any m T hT p r q a b ca cb w hR hC hr hc, fun a b ca cb w hR hC hr hc => DtI.impl_any m T hT p r q a b ca cb w hR hC hr hc⟩
end Go.Proofs.Ytjngnjokbnklfaa.DtB
