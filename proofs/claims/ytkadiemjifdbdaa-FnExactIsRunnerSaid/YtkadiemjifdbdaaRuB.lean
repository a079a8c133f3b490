/- IsRunner: one answer, a contract for each text. -/
import Derived.Test.YtkadiemjifdbdaaRuI
namespace Go.Proofs.Ytkadiemjifdbdaa.RuI
open Go.RowKit Lb Bk RuK
theorem both (r : Ru) (hr : Is r) : ∃ ok : Bool,
    (∀ w, Calls Try.prog 27 #[.agg #[.int .i64 r.id, .string r.nm, .string r.cl, .int .i64 r.bo, .bool r.wo, .int .i64 r.ca]] w fun e w' => e = .returned (.bool ok) ∧ Below w.heap.size w w') ∧
    (∀ w, Calls Try.prog 29 #[.agg #[.int .i64 r.id, .string r.nm, .string r.cl, .int .i64 r.bo, .bool r.wo, .int .i64 r.ca]] w fun e w' => e = .returned (.bool ok) ∧ Below w.heap.size w w') :=
  ⟨okR r, spec_any r hr, impl_any r hr⟩
end Go.Proofs.Ytkadiemjifdbdaa.RuI
