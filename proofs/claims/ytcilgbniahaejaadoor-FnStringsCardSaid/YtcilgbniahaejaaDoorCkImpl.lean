/- The program's checksum: the walk. -/
import Derived.Test.YtcilgbniahaejaaDoorProg
import Derived.Test.YtcilgbniahaejaaDoorCkSum
namespace Go.Proofs.YtcilgbniahaejaaDoor.Ck
open Go.RowKit
set_option linter.unusedSimpArgs false

set_option maxHeartbeats 400000 in
theorem implChecksum_any (s : ByteArray) (w : World) (hs : s.size ≤ maxLen) :
    Calls Tryd.prog 31 #[.string s] w fun e w' =>
      e = .returned (.tuple (if s.size ≤ 4000 then #[.int .i64 (sum s.data.toList), .bool true] else #[.int .i64 0, .bool false])) ∧ w' = w := by
  unfold maxLen at hs
  by_cases h : s.size ≤ 4000
  · go_enter Tryd.func31, Tryd.ntmps31
    go_wp2
    go_loop [4, 11] (fun n i => ∃ k : Nat, k ≤ s.size ∧ i = .int .i64 k ∧ n = .int .i64 (sum (s.data.toList.take k))) (fun _ i => s.size - (intOf i).toNat)
    case atStart => exact ⟨0, Nat.zero_le _, rfl, rfl⟩
    case round =>
      obtain ⟨k, hk, rfl, rfl⟩ := hrel
      have hd := sum_bd (s.data.toList.take k)
      by_cases hlt : k < s.size
      · have HS : Hid (sum (s.data.toList.take (k + 1)) = sumStep (sum (s.data.toList.take k)) s[k]) := by rw [take_snoc s k hlt]; exact sum_snoc _ _
        have hb : 0 ≤ (s[k].toNat : Int) ∧ (s[k].toNat : Int) ≤ 255 := by have := s[k].toNat_lt; omega
        go_wp2
        go_round
        case rel => exact ⟨k + 1, by omega, by go_num, by rw [HS.out]; unfold sumStep; go_num⟩
        case measure => simp [intOf]; omega
      · go_wp2
        go_ret2
        exact ⟨by simp [h]; rw [List.take_of_length_le (by simp; omega)], rfl⟩
  · go_enter Tryd.func31, Tryd.ntmps31
    go_wp2
    go_ret2
    exact ⟨by simp [h], rfl⟩

end Go.Proofs.YtcilgbniahaejaaDoor.Ck
