/- 'Checksum' answers as its model, at every argument: the walk of the law. -/
import Derived.Test.YtcilgbniahaejaaCkWalk
import Derived.Lib.Hide
namespace Go.Proofs.Ytcilgbniahaejaa.Ck
open Go.RowKit
set_option linter.unusedSimpArgs false

set_option maxHeartbeats 400000 in
theorem law_any (w : World) (s : ByteArray) (hs : s.size ≤ maxLen) :
    Calls Try.prog 7 #[.string s] w fun e w' => e = .returned (.bool true) ∧ Below w.heap.size w w' := by
  have hs' := hs
  unfold maxLen at hs
  have hbd := sum_bd s.data.toList
  by_cases hbig : 1048576 < s.size
  · go_enter Try.func7, Try.ntmps7
    go_wp2
    go_ret
    exact ⟨rfl, Below.refl _ _⟩
  · by_cases h : s.size ≤ 4000
    all_goals
      have c1 := fun w => specChecksum_any s w hs'
      have c2 := fun w => implChecksum_any s w hs'
      simp only [h, if_true, if_false] at c1 c2
      have C1 := Lib.hid c1
      have C2 := Lib.hid c2
      clear c1 c2
      go_enter Try.func7, Try.ntmps7
      go_wp2_with (first | (go_at_call 23; refine (C1.out _).mono ?_; rintro e w' ⟨rfl, rfl⟩) | (go_at_call 24; refine (C2.out _).mono ?_; rintro e w' ⟨rfl, rfl⟩))
      go_ret
      exact ⟨rfl, Below.refl _ _⟩

end Go.Proofs.Ytcilgbniahaejaa.Ck
