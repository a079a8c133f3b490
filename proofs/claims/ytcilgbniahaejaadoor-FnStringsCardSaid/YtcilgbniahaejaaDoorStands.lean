/- The model's look for a byte: a contract. -/
import Derived.Test.YtcilgbniahaejaaDoorProg
import Derived.Test.YtcilgbniahaejaaDoorJoinM
namespace Go.Proofs.YtcilgbniahaejaaDoor.Stn
open Go.RowKit Lb
set_option linter.unusedSimpArgs false
set_option linter.unusedVariables false

set_option maxHeartbeats 400000 in
theorem stands_any (s : ByteArray) (c : UInt8) (w : World) (hs : s.size ≤ maxLen) :
    Calls Tryd.prog 33 #[.string s, .int .u8 c.toNat] w fun e w' => e = .returned (.bool (hasB s c)) ∧ w' = w := by
  unfold maxLen at hs
  go_enter Tryd.func33, Tryd.ntmps33
  go_wp2
  go_loop [5] (fun i => ∃ k : Nat, k ≤ s.size ∧ i = .int .i64 k ∧ ∀ i, i < k → ∀ (h : i < s.size), s[i] ≠ c) (fun i => s.size - (intOf i).toNat)
  case atStart => exact ⟨0, Nat.zero_le _, rfl, fun i h => by omega⟩
  case round =>
    obtain ⟨k, hk, rfl, hno⟩ := hrel
    by_cases hkl : k < s.size
    · by_cases he : s[k] = c
      · have hb := u8_beq_yes he
        have hh := Lib.hid (hasB_at k hkl he)
        clear hno he
        go_wp2
        go_ret
        exact ⟨ret_bool hh.out.symm, rfl⟩
      · have hb := u8_beq_no he
        have hn := Lib.hid (all_succ hno fun _ => he)
        clear hno he
        go_wp2
        go_round
        case rel => exact ⟨k + 1, by omega, by go_num, hn.out⟩
        case measure => simp [intOf]; omega
    · have hh := Lib.hid (hasB_none (s := s) (c := c) fun i h => hno i (by omega) h)
      clear hno
      go_wp2
      go_ret
      exact ⟨ret_bool hh.out.symm, rfl⟩

end Go.Proofs.YtcilgbniahaejaaDoor.Stn
