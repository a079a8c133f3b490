/- The laws' own helpers over lists of ints and over maps: contracts. -/
import Derived.Test.YtjngnjokbnklfaaSpecB
import Derived.Test.YtjngnjokbnklfaaHighF
namespace Go.Proofs.Ytjngnjokbnklfaa.VHel
open Go.RowKit Lb IntS MapS SpecB High
set_option linter.unusedSimpArgs false
set_option linter.unusedVariables false

set_option maxHeartbeats 1000000 in
theorem ints_same (a b : Option Addr) (cap cap' : Nat) (zs : List Int) (w : World) (hr : IRow w a zs) (hr' : IRow w b zs) (hl : zs.length ≤ maxLen) :
    Calls Try.prog 14 #[.slice a zs.length cap, .slice b zs.length cap'] w fun e w' => e = .returned (.bool true) ∧ Below w.heap.size w w' := by
  unfold maxLen at hl
  go_enter Try.func14, Try.ntmps14
  go_wp2
  go_loopw [5] (fun i wr => ∃ k : Nat, k ≤ zs.length ∧ i = .int .i64 k ∧ Still w wr) (fun i _ => zs.length - (intOf i).toNat)
  case atStart => exact ⟨0, Nat.zero_le _, rfl, Still.refl _⟩
  case round =>
    obtain ⟨k, hk, rfl, hst⟩ := hrel
    obtain ⟨n, rfl⟩ := hst
    by_cases hlt : k < zs.length
    · rcases hr with hr | ⟨b1, off1, rfl, hc1⟩
      · omega
      rcases hr' with hr' | ⟨b2, off2, rfl, hc2⟩
      · omega
      have g1 : w.cell? ⟨b1, off1 + k, none⟩ = some (.int .i64 (zAt zs k)) := hc1 k hlt
      have g2 : w.cell? ⟨b2, off2 + k, none⟩ = some (.int .i64 (zAt zs k)) := hc2 k hlt
      clear hc1 hc2
      go_wp2
      go_quiet (fail)
      go_wp2
      go_roundw
      case rel => exact ⟨k + 1, by omega, by go_num, ⟨_, rfl⟩⟩
      case measure => simp [intOf]; omega
    · go_wp2
      go_ret
      exact ⟨rfl, Still.below ⟨_, rfl⟩ _⟩

end Go.Proofs.Ytjngnjokbnklfaa.VHel
