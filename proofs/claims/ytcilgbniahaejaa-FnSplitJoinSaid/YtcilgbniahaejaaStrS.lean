/- The laws' own helpers over '[]string': contracts. -/
import Derived.Test.YtcilgbniahaejaaProg
import Derived.Test.YtcilgbniahaejaaLib
namespace Go.Proofs.Ytcilgbniahaejaa.StrS
open Go.RowKit Lb
set_option linter.unusedSimpArgs false

/-- What is left, if it is not negative, says that all the strings are short together. -/
def SzPost (ss : List ByteArray) (left : Int) (e : Ending) : Prop := ∃ r : Int, e = .returned (.int .i64 r) ∧ (r = -1 ∨ (0 ≤ r ∧ r = left - ss.length - total ss))

set_option maxHeartbeats 400000 in
theorem sz_any (a : Option Addr) (cap : Nat) (ss : List ByteArray) (left : Int) (w : World) (hr : StrRow w a ss) (hl : ss.length ≤ maxLen) (hs : ∀ k, (sAt ss k).size ≤ maxLen) (h0 : 0 ≤ left) (h1 : left ≤ 1048576) :
    Calls Try.prog 21 #[.slice a ss.length cap, .int .i64 left] w fun e w' => SzPost ss left e ∧ w' = w := by
  unfold maxLen at hl hs
  by_cases hlt : left - ss.length < 0
  · go_enter Try.func21, Try.ntmps21
    go_wp2
    go_ret
    exact ⟨⟨-1, rfl, .inl rfl⟩, rfl⟩
  · go_enter Try.func21, Try.ntmps21
    go_wp2
    go_loop [1, 5] (fun l i => ∃ k : Nat, k ≤ ss.length ∧ i = .int .i64 k ∧ 0 ≤ left - ss.length - total (ss.take k) ∧ l = .int .i64 (left - ss.length - total (ss.take k))) (fun _ i => ss.length - (intOf i).toNat)
    case atStart => exact ⟨0, Nat.zero_le _, rfl, by simp [total]; omega, by simp [total]⟩
    case round =>
      obtain ⟨k, hk, rfl, hp, rfl⟩ := hrel
      by_cases hkl : k < ss.length
      · have ht := total_take ss k hkl
        rcases hr with hr | ⟨b, off, rfl, hc⟩
        · omega
        · have hcell : w.cell? ⟨b, off + k, none⟩ = some (.string (sAt ss k)) := hc k hkl
          have hsz := hs k
          have HT := Lib.hid ht
          clear ht
          by_cases hneg : left - ss.length - total (ss.take k) - (sAt ss k).size < 0
          · go_wp2
            go_ret
            exact ⟨⟨-1, rfl, .inl rfl⟩, rfl⟩
          · go_wp2
            go_round
            case rel => exact ⟨k + 1, by omega, by go_num, by rw [HT.out]; omega, by rw [HT.out]; go_num⟩
            case measure => simp [intOf]; omega
      · go_wp2
        go_ret
        have : k = ss.length := by omega
        subst this
        exact ⟨⟨_, rfl, .inr ⟨hp, by simp⟩⟩, rfl⟩

set_option maxHeartbeats 400000 in
theorem eq_any (a b : Option Addr) (cap cap' : Nat) (ss tt : List ByteArray) (w : World) (hr : StrRow w a ss) (hr' : StrRow w b tt) (hl : ss.length ≤ maxLen) (hl' : tt.length ≤ maxLen) :
    Calls Try.prog 18 #[.slice a ss.length cap, .slice b tt.length cap'] w fun e w' => e = .returned (.bool (decide (ss = tt))) ∧ Still w w' := by
  unfold maxLen at hl hl'
  by_cases hlen : ss.length = tt.length
  · by_cases heq : ss = tt
    · subst heq
      go_enter Try.func18, Try.ntmps18
      go_wp2
      go_loopw [5] (fun i wr => ∃ k : Nat, k ≤ ss.length ∧ i = .int .i64 k ∧ Still w wr) (fun i _ => ss.length - (intOf i).toNat)
      case atStart => exact ⟨0, Nat.zero_le _, rfl, Still.refl _⟩
      case round =>
        obtain ⟨k, hk, rfl, hst⟩ := hrel
        obtain ⟨n, rfl⟩ := hst
        by_cases hkl : k < ss.length
        · rcases hr with hr | ⟨b1, off1, rfl, hc1⟩
          · omega
          rcases hr' with hr' | ⟨b2, off2, rfl, hc2⟩
          · omega
          have g1 : w.cell? ⟨b1, off1 + k, none⟩ = some (.string (sAt ss k)) := hc1 k hkl
          have g2 : w.cell? ⟨b2, off2 + k, none⟩ = some (.string (sAt ss k)) := hc2 k hkl
          clear hc1 hc2
          go_wp2
          go_quiet (fail)
          go_wp2
          go_roundw
          case rel => exact ⟨k + 1, by omega, by go_num, ⟨_, rfl⟩⟩
          case measure => simp [intOf]; omega
        · go_wp2
          go_ret
          exact ⟨ret_bool (by simp), ⟨_, rfl⟩⟩
    · have hne : ∃ j, j < ss.length ∧ (∀ i, i < j → sAt ss i = sAt tt i) ∧ sAt ss j ≠ sAt tt j := Lb.first_diff hlen heq
      obtain ⟨j, hj, hsame, hdiff⟩ := hne
      go_enter Try.func18, Try.ntmps18
      go_wp2
      go_loopw [5] (fun i wr => ∃ k : Nat, k ≤ j ∧ i = .int .i64 k ∧ Still w wr) (fun i _ => ss.length - (intOf i).toNat)
      case atStart => exact ⟨0, Nat.zero_le _, rfl, Still.refl _⟩
      case round =>
        obtain ⟨k, hk, rfl, hst⟩ := hrel
        obtain ⟨n, rfl⟩ := hst
        have hkl : k < ss.length := by omega
        have hkl' : k < tt.length := by omega
        rcases hr with hr | ⟨b1, off1, rfl, hc1⟩
        · omega
        rcases hr' with hr' | ⟨b2, off2, rfl, hc2⟩
        · omega
        have g1 : w.cell? ⟨b1, off1 + k, none⟩ = some (.string (sAt ss k)) := hc1 k hkl
        have g2 : w.cell? ⟨b2, off2 + k, none⟩ = some (.string (sAt tt k)) := hc2 k hkl'
        clear hc1 hc2
        by_cases hkj : k < j
        · have e := hsame k hkj
          rw [← e] at g2
          clear e
          go_wp2
          go_quiet (fail)
          go_wp2
          go_roundw
          case rel => exact ⟨k + 1, by omega, by go_num, ⟨_, rfl⟩⟩
          case measure => simp [intOf]; omega
        · obtain rfl : k = j := by omega
          have hd := str_neq hdiff
          go_wp2
          go_quiet (fail)
          go_wp2
          go_ret
          exact ⟨ret_bool (by simp [heq]), (Still.drewN ⟨_, rfl⟩ _)⟩
  · go_enter Try.func18, Try.ntmps18
    go_wp2
    go_ret
    exact ⟨ret_bool (by simp; intro h; exact hlen (by rw [h])), Still.refl _⟩

end Go.Proofs.Ytcilgbniahaejaa.StrS
