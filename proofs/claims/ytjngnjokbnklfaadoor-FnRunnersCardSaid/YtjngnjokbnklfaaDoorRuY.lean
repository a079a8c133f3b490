/- SwapCards: one answer, a contract for each text. -/
import Derived.Test.YtjngnjokbnklfaaDoorRuX
namespace Go.Proofs.YtjngnjokbnklfaaDoor.RuY
open Go.RowKit Lb Bk InA Wd RuK RuI RuU RuA RuG RuC RuP RuW
set_option linter.unusedVariables false

theorem both (rs : List Ru) (hf : ∀ i, i < rs.length → Is (at_ rs i)) (hl : rs.length ≤ 1048576) (a : Int) (_ : (Lit.int IntKind.i64 a).wf = true) (b : Int) (_ : (Lit.int IntKind.i64 b).wf = true) : ∃ (ss : List Ru) (ok : Bool), ss.length ≤ 1048576 ∧
    (∀ ad cap w, rs.length ≤ cap → Row w ad rs → Calls Tryd.prog 21 #[.slice ad rs.length cap, .int .i64 a, .int .i64 b] w fun e w' => ∃ v, e = .returned (.tuple #[v, .bool ok]) ∧ Own w' w.heap.size v ss ∧ Below w.heap.size w w') ∧
    (∀ ad cap w, rs.length ≤ cap → Row w ad rs → Calls Tryd.prog 20 #[.slice ad rs.length cap, .int .i64 a, .int .i64 b] w fun e w' => ∃ v, e = .returned (.tuple #[v, .bool ok]) ∧ Own w' w.heap.size v ss ∧ Below w.heap.size w w') := by
  cases hg : goodB rs with
  | false => exact ⟨[], false, Nat.zero_le _, fun ad cap w _ hr => RuX.swap_no rs hf hl a b (.inl hg) ad cap w hr, fun ad cap w hc hr => RuW.swap_no rs hf hl a b (.inl hg) ad cap w hc hr⟩
  | true =>
    by_cases hab : a = b
    · exact ⟨[], false, Nat.zero_le _, fun ad cap w _ hr => RuX.swap_no rs hf hl a b (.inr (.inr (.inr (by rw [hab])))) ad cap w hr, fun ad cap w hc hr => RuW.swap_no rs hf hl a b (.inr (.inl hab)) ad cap w hc hr⟩
    · have hasc := good_asc hg
      obtain ⟨i, hi⟩ := hasc.plc a
      obtain ⟨k, hk⟩ := hasc.plc b
      cases h1 : fndB rs a i with
      | false => exact ⟨[], false, Nat.zero_le _, fun ad cap w _ hr => RuX.swap_no rs hf hl a b (.inr (.inl (by rw [(RuX.fi_plc hi).2 h1 hasc]; decide))) ad cap w hr, fun ad cap w hc hr => RuW.swap_no rs hf hl a b (.inr (.inr ⟨i, k, hi, hk, hasc, .inl h1⟩)) ad cap w hc hr⟩
      | true =>
        cases h2 : fndB rs b k with
        | false => exact ⟨[], false, Nat.zero_le _, fun ad cap w _ hr => RuX.swap_no rs hf hl a b (.inr (.inr (.inl (by rw [(RuX.fi_plc hk).2 h2 hasc]; decide)))) ad cap w hr, fun ad cap w hc hr => RuW.swap_no rs hf hl a b (.inr (.inr ⟨i, k, hi, hk, hasc, .inr h2⟩)) ad cap w hc hr⟩
        | true =>
          obtain ⟨hil, hia⟩ := of_decide_eq_true h1
          obtain ⟨hkl, hkb⟩ := of_decide_eq_true h2
          have hik : i ≠ k := fun e => hab (by rw [← hia, ← hkb, e])
          exact ⟨swL rs i k, true, by rw [sw_len]; exact hl, fun ad cap w _ hr => RuX.swap_yes rs hf hl a b hg i k hil hkl hik ((RuX.fi_plc hi).1 h1) ((RuX.fi_plc hk).1 h2) ad cap w hr, fun ad cap w hc hr => RuW.swap_yes rs hf hl a b hg hab i k hi hk h1 h2 ad cap w hc hr⟩
end Go.Proofs.YtjngnjokbnklfaaDoor.RuY
