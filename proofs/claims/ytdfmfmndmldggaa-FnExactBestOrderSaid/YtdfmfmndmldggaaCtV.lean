/- slices.Insert of one element into a row of the call's own: impl.Control. -/
import Derived.Test.YtdfmfmndmldggaaInsG
import Derived.Deep.RegionLaw
import Derived.OwnWalk
import Derived.Maps.AppendAt
import Derived.Lib.Hide
namespace Go.Proofs.Ytdfmfmndmldggaa.CtV
open Go.RowKit Lb Bk InsG
set_option linter.unusedSimpArgs false
set_option linter.unusedVariables false

theorem info : (Try.prog.info? 70).map (fun i => (i.zero, i.size, i.bytes)) = some (some (Value.agg #[.int .i64 0, .int .i64 0]), 2, 16) := by kernel_rfl
theorem add_none (b o j : Nat) : (⟨b, o, none⟩ : Addr).add j = ⟨b, o + j, none⟩ := by unfold Addr.add; split <;> simp_all
end Go.Proofs.Ytdfmfmndmldggaa.CtV
