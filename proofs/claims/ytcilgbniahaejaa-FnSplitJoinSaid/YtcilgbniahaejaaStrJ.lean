/- JoinStrings: the walks of the program's and the model's text. -/
import Derived.Test.YtcilgbniahaejaaStrS
import Derived.Test.YtcilgbniahaejaaJoinM
import Derived.Test.YtcilgbniahaejaaShelf
import Derived.Deep.LoopGhost
import Derived.WalkLawsBesides
import Derived.WalkSpells
namespace Go.Proofs.Ytcilgbniahaejaa.StrJ
open Go.RowKit Lb
set_option linter.unusedSimpArgs false
set_option linter.unusedVariables false

set_option maxHeartbeats 400000 in
theorem stands_any (s : ByteArray) (c : UInt8) (w : World) (hs : s.size ≤ maxLen) :
    Calls Try.prog 31 #[.string s, .int .u8 c.toNat] w fun e w' => e = .returned (.bool (hasB s c)) ∧ w' = w := by
  unfold maxLen at hs
  go_enter Try.func31, Try.ntmps31
  go_wp2
  go_loop [5] (fun i => ∃ k : Nat, k ≤ s.size ∧ i = .int .i64 k ∧ ∀ i, i < k → ∀ (h : i < s.size), s[i] ≠ c) (fun i => s.size - (intOf i).toNat)
  case atStart => exact ⟨0, Nat.zero_le _, rfl, fun i h => by omega⟩
  case round =>
    obtain ⟨k, hk, rfl, hno⟩ := hrel
    by_cases hkl : k < s.size
    · by_cases he : s[k] = c
      · have hb := u8_beq_yes he
        have hh := Lib.hid (hasB_at k hkl he)
        clear hno he
        go_wp2
        go_ret
        exact ⟨ret_bool hh.out.symm, rfl⟩
      · have hb := u8_beq_no he
        have hn := Lib.hid (all_succ hno fun _ => he)
        clear hno he
        go_wp2
        go_round
        case rel => exact ⟨k + 1, by omega, by go_num, hn.out⟩
        case measure => simp [intOf]; omega
    · have hh := Lib.hid (hasB_none (s := s) (c := c) fun i h => hno i (by omega) h)
      clear hno
      go_wp2
      go_ret
      exact ⟨ret_bool hh.out.symm, rfl⟩

/-- No list of strings, or no single separator. -/
theorem specJ_none (a : Option Addr) (cap : Nat) (ss : List ByteArray) (sep : ByteArray) (w : World) (hl : ss.length ≤ maxLen) (hs : sep.size ≤ maxLen) (h : sep.size ≠ 1 ∨ ss = []) :
    Calls Try.prog 13 #[.slice a ss.length cap, .string sep] w fun e w' => e = .returned (.tuple #[.string ByteArray.empty, .bool false]) ∧ Still w w' := by
  unfold maxLen at hl hs
  by_cases h1 : sep.size = 1
  · obtain rfl : ss = [] := by rcases h with h | h
                               · exact absurd h1 h
                               · exact h
    go_enter Try.func13, Try.ntmps13
    go_wp2
    go_ret2
    exact ⟨rfl, Still.refl _⟩
  · have h2 : ((sep.size : Int) == 1) = false := by simp; omega
    go_enter Try.func13, Try.ntmps13
    go_wp2
    go_ret2
    exact ⟨rfl, Still.refl _⟩

set_option maxHeartbeats 1000000 in
/-- A string holds the separator, or the text grows too long. -/
theorem specJ_bad (a : Option Addr) (cap : Nat) (ss : List ByteArray) (sep : ByteArray) (w : World) (hr : StrRow w a ss) (hl : ss.length ≤ maxLen) (hss : ∀ k, (sAt ss k).size ≤ 1048576) (h1 : sep.size = 1) (hne : ss ≠ []) (hp : 0 < sep.size)
    (j : Nat) (hj : j < ss.length) (hgood : ∀ i, i < j → ¬ JBad sep[0] ss i) (hbad : JBad sep[0] ss j) :
    Calls Try.prog 13 #[.slice a ss.length cap, .string sep] w fun e w' => e = .returned (.tuple #[.string ByteArray.empty, .bool false]) ∧ Still w w' := by
  unfold maxLen at hl
  have hpos : 0 < ss.length := by omega
  have h2 : ((ss.length : Int) == 0) = false := by simp; omega
  have h3 : ((sep.size : Int) == 1) = true := by simp [h1]
  have h4 : ((sep.size : Int) != 1) = false := by simp [h1]
  have H1 := Lib.hid h1
  have HG := Lib.hid hgood
  have HB := Lib.hid hbad
  clear h1 hgood hbad
  go_enter Try.func13, Try.ntmps13
  go_wp2
  go_loopw [6, 7] (fun o i wr => ∃ k : Nat, k ≤ j ∧ i = .int .i64 k ∧ o = .string (jn sep ss k) ∧ Still w wr) (fun _ i _ => ss.length - (intOf i).toNat)
  case atStart => exact ⟨0, Nat.zero_le _, rfl, rfl, Still.refl _⟩
  case round =>
    obtain ⟨k, hk, rfl, rfl, hst⟩ := hrel
    have hkl : k < ss.length := by omega
    replace hr : StrRow wr a ss := RowAt.heap hr hst.heap
    rcases hr with hr | ⟨b, off, rfl, hc⟩
    · omega
    have g1 : wr.cell? ⟨b, off + k, none⟩ = some (.string (sAt ss k)) := hc k hkl
    have hsz := hss k
    have hz := Lib.hid (jn_size sep ss H1.out k (by omega))
    have hx := hst
    clear hst hc
    by_cases hb : hasB (sAt ss k) sep[0] = true
    · obtain rfl : k = j := by
        by_cases e : k = j
        · exact e
        · exact absurd (.inl hb) (HG.out k (by omega))
      have cs := fun w => stands_any (sAt ss k) sep[0] w (by unfold maxLen; omega)
      simp only [hb] at cs
      have CS := Lib.hid cs
      clear cs
      go_wp2
      go_quiet ((go_at_call 31; exact Calls.quiet_of_same (CS.out _)))
      go_wp2
      go_ret2
      exact ⟨rfl, hx.drewN _⟩
    · have hb' : hasB (sAt ss k) sep[0] = false := by simpa using hb
      have cs := fun w => stands_any (sAt ss k) sep[0] w (by unfold maxLen; omega)
      simp only [hb'] at cs
      have CS := Lib.hid cs
      clear cs
      have hj1 : jn sep ss (k + 1) = if k = 0 then sAt ss k else jn sep ss k ++ sep ++ sAt ss k := by
        by_cases e : k = 0
        · subst e; rfl
        · rw [if_neg e]; exact jn_succ sep ss k (by omega)
      have hz1 := jn_size sep ss H1.out (k + 1) (by omega)
      by_cases hkj : k < j
      · have hn : ¬ 4000 < total (ss.take (k + 1)) + k := fun h => HG.out k hkj (.inr h)
        by_cases hk0 : k = 0
        · subst hk0
          simp only [Nat.add_zero] at g1
          have hz0 : (jn sep ss 0).size ≤ 0 := Nat.le_refl 0
          rw [if_pos rfl] at hj1
          have hz2 : (sAt ss 0).size ≤ 4000 := by rw [← hj1]; omega
          have HJ := Lib.hid hj1
          clear hz1 hj1
          go_wp2
          go_quiet ((go_at_call 31; exact Calls.quiet_of_same (CS.out _)))
          go_wp2
          go_roundw
          case rel => exact ⟨1, by omega, by go_num, by simp [jn], hx.drewN _⟩
          case measure => simp [intOf]; omega
        · rw [if_neg hk0] at hj1
          have hz2 : (jn sep ss k ++ sep ++ sAt ss k).size ≤ 4000 := by rw [← hj1]; omega
          rw [size_append', size_append'] at hz2
          have HJ := Lib.hid hj1
          clear hz1 hj1
          go_wp2
          go_quiet ((go_at_call 31; exact Calls.quiet_of_same (CS.out _)))
          go_wp2
          go_roundw
          case rel => exact ⟨k + 1, by omega, by go_num, by rw [HJ.out], hx.drewN _⟩
          case measure => simp [intOf]; omega
      · obtain rfl : k = j := by omega
        have hn : 4000 < total (ss.take (k + 1)) + k := by
          rcases HB.out with h | h
          · exact absurd h hb
          · exact h
        by_cases hk0 : k = 0
        · subst hk0
          simp only [Nat.add_zero] at g1
          have hz0 : (jn sep ss 0).size ≤ 0 := Nat.le_refl 0
          rw [if_pos rfl] at hj1
          have hz2 : 4000 < (sAt ss 0).size := by rw [← hj1]; omega
          have HJ := Lib.hid hj1
          clear hz1 hj1
          go_wp2
          go_quiet ((go_at_call 31; exact Calls.quiet_of_same (CS.out _)))
          go_wp2
          go_ret2
          exact ⟨rfl, hx.drewN _⟩
        · rw [if_neg hk0] at hj1
          have hz2 : 4000 < (jn sep ss k ++ sep ++ sAt ss k).size := by rw [← hj1]; omega
          rw [size_append', size_append'] at hz2
          have hzk := hz.out
          have hn0 : jn sep ss k = jn sep ss k ∧ (jn sep ss k).size ≤ 4000 := ⟨rfl, by
            have h' : ¬ JBad sep[0] ss (k - 1) := HG.out (k - 1) (by omega)
            have h'' : ¬ 4000 < total (ss.take (k - 1 + 1)) + (k - 1) := fun h => h' (.inr h)
            rw [show k - 1 + 1 = k from by omega] at h''
            omega⟩
          have hjk := hn0.2
          have h1 := H1.out
          have hsep : sep.size ≤ 1 := by omega
          have HJ := Lib.hid hj1
          clear hz1 hj1 hn0 h1 hzk
          go_wp2
          go_quiet ((go_at_call 31; exact Calls.quiet_of_same (CS.out _)))
          go_wp2
          go_ret2
          exact ⟨rfl, hx.drewN _⟩

set_option maxHeartbeats 1000000 in
/-- Every string goes in. -/
theorem specJ_ok (a : Option Addr) (cap : Nat) (ss : List ByteArray) (sep : ByteArray) (w : World) (hr : StrRow w a ss) (hl : ss.length ≤ maxLen) (hss : ∀ k, (sAt ss k).size ≤ 1048576) (h1 : sep.size = 1) (hne : ss ≠ []) (hp : 0 < sep.size)
    (hgood : ∀ i, i < ss.length → ¬ JBad sep[0] ss i) :
    Calls Try.prog 13 #[.slice a ss.length cap, .string sep] w fun e w' => e = .returned (.tuple #[.string (jn sep ss ss.length), .bool true]) ∧ Still w w' := by
  unfold maxLen at hl
  have hpos : 0 < ss.length := List.length_pos_iff.2 hne
  have h2 : ((ss.length : Int) == 0) = false := by simp; omega
  have h3 : ((sep.size : Int) == 1) = true := by simp [h1]
  have h4 : ((sep.size : Int) != 1) = false := by simp [h1]
  have H1 := Lib.hid h1
  have HG := Lib.hid hgood
  clear h1 hgood
  go_enter Try.func13, Try.ntmps13
  go_wp2
  go_loopw [6, 7] (fun o i wr => ∃ k : Nat, k ≤ ss.length ∧ i = .int .i64 k ∧ o = .string (jn sep ss k) ∧ Still w wr) (fun _ i _ => ss.length - (intOf i).toNat)
  case atStart => exact ⟨0, Nat.zero_le _, rfl, rfl, Still.refl _⟩
  case round =>
    obtain ⟨k, hk, rfl, rfl, hst⟩ := hrel
    by_cases hkl : k < ss.length
    · replace hr : StrRow wr a ss := RowAt.heap hr hst.heap
      rcases hr with hr | ⟨b, off, rfl, hc⟩
      · omega
      have g1 : wr.cell? ⟨b, off + k, none⟩ = some (.string (sAt ss k)) := hc k hkl
      have hsz := hss k
      have hx := hst
      clear hst hc
      have hnb := HG.out k hkl
      have hb' : hasB (sAt ss k) sep[0] = false := by simpa using fun h => hnb (.inl h)
      have cs := fun w => stands_any (sAt ss k) sep[0] w (by unfold maxLen; omega)
      simp only [hb'] at cs
      have CS := Lib.hid cs
      clear cs hb'
      have hj1 : jn sep ss (k + 1) = if k = 0 then sAt ss k else jn sep ss k ++ sep ++ sAt ss k := by
        by_cases e : k = 0
        · subst e; rfl
        · rw [if_neg e]; exact jn_succ sep ss k (by omega)
      have hz1 := jn_size sep ss H1.out (k + 1) (by omega)
      have hn : ¬ 4000 < total (ss.take (k + 1)) + k := fun h => hnb (.inr h)
      clear hnb
      by_cases hk0 : k = 0
      · subst hk0
        simp only [Nat.add_zero] at g1
        have hz0 : (jn sep ss 0).size ≤ 0 := Nat.le_refl 0
        rw [if_pos rfl] at hj1
        have hz2 : (sAt ss 0).size ≤ 4000 := by rw [← hj1]; omega
        have HJ := Lib.hid hj1
        clear hz1 hj1
        go_wp2
        go_quiet ((go_at_call 31; exact Calls.quiet_of_same (CS.out _)))
        go_wp2
        go_roundw
        case rel => exact ⟨1, by omega, by go_num, by simp [jn], hx.drewN _⟩
        case measure => simp [intOf]; omega
      · rw [if_neg hk0] at hj1
        have hz2 : (jn sep ss k ++ sep ++ sAt ss k).size ≤ 4000 := by rw [← hj1]; omega
        rw [size_append', size_append'] at hz2
        have HJ := Lib.hid hj1
        clear hz1 hj1
        go_wp2
        go_quiet ((go_at_call 31; exact Calls.quiet_of_same (CS.out _)))
        go_wp2
        go_roundw
        case rel => exact ⟨k + 1, by omega, by go_num, by rw [HJ.out], hx.drewN _⟩
        case measure => simp [intOf]; omega
    · obtain rfl : k = ss.length := by omega
      go_wp2
      go_ret2
      exact ⟨rfl, hst⟩

end Go.Proofs.Ytcilgbniahaejaa.StrJ
