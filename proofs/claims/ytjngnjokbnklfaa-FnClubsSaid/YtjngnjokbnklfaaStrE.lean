/- The laws' own comparison of lists of strings: a contract. -/
import Derived.Test.YtjngnjokbnklfaaProg
import Derived.Test.YtjngnjokbnklfaaLib
namespace Go.Proofs.Ytjngnjokbnklfaa.StrS
open Go.RowKit Lb
set_option linter.unusedSimpArgs false

set_option maxHeartbeats 400000 in
theorem eq_any (a b : Option Addr) (cap cap' : Nat) (ss tt : List ByteArray) (w : World) (hr : StrRow w a ss) (hr' : StrRow w b tt) (hl : ss.length ≤ maxLen) (hl' : tt.length ≤ maxLen) :
    Calls Try.prog 65 #[.slice a ss.length cap, .slice b tt.length cap'] w fun e w' => e = .returned (.bool (decide (ss = tt))) ∧ Still w w' := by
  unfold maxLen at hl hl'
  by_cases hlen : ss.length = tt.length
  · by_cases heq : ss = tt
    · subst heq
      go_enter Try.func65, Try.ntmps65
      go_wp2
      go_loopw [5] (fun i wr => ∃ k : Nat, k ≤ ss.length ∧ i = .int .i64 k ∧ Still w wr) (fun i _ => ss.length - (intOf i).toNat)
      case atStart => exact ⟨0, Nat.zero_le _, rfl, Still.refl _⟩
      case round =>
        obtain ⟨k, hk, rfl, hst⟩ := hrel
        obtain ⟨n, rfl⟩ := hst
        by_cases hkl : k < ss.length
        · rcases hr with hr | ⟨b1, off1, rfl, hc1⟩
          · omega
          rcases hr' with hr' | ⟨b2, off2, rfl, hc2⟩
          · omega
          have g1 : w.cell? ⟨b1, off1 + k, none⟩ = some (.string (sAt ss k)) := hc1 k hkl
          have g2 : w.cell? ⟨b2, off2 + k, none⟩ = some (.string (sAt ss k)) := hc2 k hkl
          clear hc1 hc2
          go_wp2
          go_quiet (fail)
          go_wp2
          go_roundw
          case rel => exact ⟨k + 1, by omega, by go_num, ⟨_, rfl⟩⟩
          case measure => simp [intOf]; omega
        · go_wp2
          go_ret
          exact ⟨ret_bool (by simp), ⟨_, rfl⟩⟩
    · have hne : ∃ j, j < ss.length ∧ (∀ i, i < j → sAt ss i = sAt tt i) ∧ sAt ss j ≠ sAt tt j := Lb.first_diff hlen heq
      obtain ⟨j, hj, hsame, hdiff⟩ := hne
      go_enter Try.func65, Try.ntmps65
      go_wp2
      go_loopw [5] (fun i wr => ∃ k : Nat, k ≤ j ∧ i = .int .i64 k ∧ Still w wr) (fun i _ => ss.length - (intOf i).toNat)
      case atStart => exact ⟨0, Nat.zero_le _, rfl, Still.refl _⟩
      case round =>
        obtain ⟨k, hk, rfl, hst⟩ := hrel
        obtain ⟨n, rfl⟩ := hst
        have hkl : k < ss.length := by omega
        have hkl' : k < tt.length := by omega
        rcases hr with hr | ⟨b1, off1, rfl, hc1⟩
        · omega
        rcases hr' with hr' | ⟨b2, off2, rfl, hc2⟩
        · omega
        have g1 : w.cell? ⟨b1, off1 + k, none⟩ = some (.string (sAt ss k)) := hc1 k hkl
        have g2 : w.cell? ⟨b2, off2 + k, none⟩ = some (.string (sAt tt k)) := hc2 k hkl'
        clear hc1 hc2
        by_cases hkj : k < j
        · have e := hsame k hkj
          rw [← e] at g2
          clear e
          go_wp2
          go_quiet (fail)
          go_wp2
          go_roundw
          case rel => exact ⟨k + 1, by omega, by go_num, ⟨_, rfl⟩⟩
          case measure => simp [intOf]; omega
        · obtain rfl : k = j := by omega
          have hd := str_neq hdiff
          go_wp2
          go_quiet (fail)
          go_wp2
          go_ret
          exact ⟨ret_bool (by simp [heq]), (Still.drewN ⟨_, rfl⟩ _)⟩
  · go_enter Try.func65, Try.ntmps65
    go_wp2
    go_ret
    exact ⟨ret_bool (by simp; intro h; exact hlen (by rw [h])), Still.refl _⟩

end Go.Proofs.Ytjngnjokbnklfaa.StrS
