/- RunnerText: one answer, a contract for each text. -/
import Derived.Test.YtkadiemjifdbdaaDoorRuQ
namespace Go.Proofs.YtkadiemjifdbdaaDoor.RuQ
open Go.RowKit Lb Bk RuK RuI Fmt RuT
theorem both (r : Ru) (hr : Is r) : ∃ (s : ByteArray) (ok : Bool),
    (∀ w, Calls Tryd.prog 9 #[.agg #[.int .i64 r.id, .string r.nm, .string r.cl, .int .i64 r.bo, .bool r.wo, .int .i64 r.ca]] w fun e w' => e = .returned (.tuple #[.string s, .bool ok]) ∧ Below w.heap.size w w') ∧
    (∀ w, Tab w → Calls Tryd.prog 8 #[.agg #[.int .i64 r.id, .string r.nm, .string r.cl, .int .i64 r.bo, .bool r.wo, .int .i64 r.ca]] w fun e w' => e = .returned (.tuple #[.string s, .bool ok]) ∧ Below w.heap.size w w') :=
  ⟨rtx r, okR r, RuT.spec_any r hr, RuQ.impl_any r hr⟩
end Go.Proofs.YtkadiemjifdbdaaDoor.RuQ
