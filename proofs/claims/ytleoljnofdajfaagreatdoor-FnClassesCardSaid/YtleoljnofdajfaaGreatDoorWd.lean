/- Words of letters: both texts' tests. -/
import Derived.Test.YtleoljnofdajfaaGreatDoorInA
namespace Go.Proofs.YtleoljnofdajfaaGreatDoor.Wd
open Go.RowKit Lb Bk InA
set_option linter.unusedSimpArgs false
set_option linter.unusedVariables false

def LetB (s : ByteArray) (k : Nat) : Prop := ∀ h : k < s.size, 97 ≤ (s[k].toNat : Int) ∧ (s[k].toNat : Int) ≤ 122
def WordP (s : ByteArray) : Prop := (1 ≤ (s.size : Int) ∧ (s.size : Int) ≤ 10) ∧ ∀ k, k < s.size → LetB s k
instance (s : ByteArray) (k : Nat) : Decidable (LetB s k) := by unfold LetB; infer_instance
instance (s : ByteArray) : Decidable (WordP s) := by unfold WordP; infer_instance
/-- Whether a text is a word. -/
def wordB (s : ByteArray) : Bool := decide (WordP s)
theorem word_no {s : ByteArray} {k : Nat} (hk : k < s.size) (h : ¬ (97 ≤ (s[k].toNat : Int) ∧ (s[k].toNat : Int) ≤ 122)) : wordB s = false :=
  decide_eq_false fun hw => h (hw.2 k hk hk)
theorem word_len {s : ByteArray} (h : ¬ (1 ≤ (s.size : Int) ∧ (s.size : Int) ≤ 10)) : wordB s = false := decide_eq_false fun hw => h hw.1
theorem word_all {s : ByteArray} (h : ∀ k, k < s.size → LetB s k) : wordB s = decide (1 ≤ (s.size : Int) ∧ (s.size : Int) ≤ 10) := by
  unfold wordB
  by_cases hl : 1 ≤ (s.size : Int) ∧ (s.size : Int) ≤ 10
  · rw [decide_eq_true (show WordP s from ⟨hl, h⟩), decide_eq_true hl]
  · rw [decide_eq_false (fun hw : WordP s => hl hw.1), decide_eq_false hl]
theorem let_succ {s : ByteArray} {k : Nat} (h : ∀ j, j < k → LetB s j) (h1 : ∀ hk : k < s.size, 97 ≤ (s[k].toNat : Int) ∧ (s[k].toNat : Int) ≤ 122) : ∀ j, j < k + 1 → LetB s j := by
  intro j hj
  rcases Nat.lt_or_ge j k with hl | hg
  · exact h j hl
  · obtain rfl : j = k := by omega
    exact h1

set_option maxHeartbeats 1000000 in
theorem spec_any (s : ByteArray) (w : World) (hs : s.size ≤ maxLen) :
    Calls Tryz.prog 57 #[.string s] w fun e w' => e = .returned (.bool (wordB s)) ∧ w' = w := by
  unfold maxLen at hs
  go_enter Tryz.func57, Tryz.ntmps57
  go_wp2
  go_loop [3] (fun i => ∃ k : Nat, k ≤ s.size ∧ i = .int .i64 k ∧ ∀ j, j < k → LetB s j) (fun i => s.size - (intOf i).toNat)
  case atStart => exact ⟨0, Nat.zero_le _, rfl, fun j hj => absurd hj (Nat.not_lt_zero _)⟩
  case round =>
    obtain ⟨k, hk, rfl, hall⟩ := hrel
    have HA := Lib.hid hall
    clear hall
    by_cases hlt : k < s.size
    · by_cases h1 : 97 ≤ (s[k].toNat : Int)
      · by_cases h2 : (s[k].toNat : Int) ≤ 122
        · have HS := Lib.hid (let_succ HA.out fun _ => ⟨h1, h2⟩)
          go_wp2
          go_round
          case rel => exact ⟨k + 1, by omega, by go_num, HS.out⟩
          case measure => simp [intOf]; omega
        · have HF := Lib.hid (word_no hlt (fun h => h2 h.2))
          go_wp2
          go_ret
          exact ⟨ret_bool HF.out.symm, rfl⟩
      · have HF := Lib.hid (word_no hlt (fun h => h1 h.1))
        go_wp2
        go_ret
        exact ⟨ret_bool HF.out.symm, rfl⟩
    · obtain rfl : k = s.size := by omega
      have HF := Lib.hid (word_all HA.out)
      go_wp2_with fail
      refine (in_any _ _ _ _).mono ?_
      rintro e w1 ⟨rfl, rfl⟩
      go_wp2
      go_ret
      exact ⟨ret_bool (by rw [HF.out]; simp), rfl⟩

set_option maxHeartbeats 1000000 in
theorem impl_any (s : ByteArray) (w : World) (hs : s.size ≤ maxLen) :
    Calls Tryz.prog 27 #[.string s] w fun e w' => e = .returned (.bool (wordB s)) ∧ w' = w := by
  unfold maxLen at hs
  by_cases h0 : 1 ≤ (s.size : Int)
  · by_cases h10 : (s.size : Int) ≤ 10
    · go_enter Tryz.func27, Tryz.ntmps27
      go_wp2
      go_loop [14, 3] (fun i _ => ∃ k : Nat, k ≤ s.size ∧ i = .int .i64 k ∧ ∀ j, j < k → LetB s j) (fun i _ => s.size - (intOf i).toNat)
      case atStart => exact ⟨0, Nat.zero_le _, rfl, fun j hj => absurd hj (Nat.not_lt_zero _)⟩
      case round =>
        obtain ⟨k, hk, rfl, hall⟩ := hrel
        have HA := Lib.hid hall
        clear hall
        by_cases hlt : k < s.size
        · by_cases h1 : 97 ≤ (s[k].toNat : Int)
          · by_cases h2 : (s[k].toNat : Int) ≤ 122
            · have HS := Lib.hid (let_succ HA.out fun _ => ⟨h1, h2⟩)
              go_wp2
              go_round
              case rel => exact ⟨k + 1, by omega, by go_num, HS.out⟩
              case measure => simp [intOf]; omega
            · have HF := Lib.hid (word_no hlt (fun h => h2 h.2))
              go_wp2
              go_ret
              exact ⟨ret_bool HF.out.symm, rfl⟩
          · have HF := Lib.hid (word_no hlt (fun h => h1 h.1))
            go_wp2
            go_ret
            exact ⟨ret_bool HF.out.symm, rfl⟩
        · obtain rfl : k = s.size := by omega
          have HF := Lib.hid (show wordB s = true from by rw [word_all HA.out]; exact decide_eq_true ⟨h0, h10⟩)
          go_wp2
          go_ret
          exact ⟨ret_bool HF.out.symm, rfl⟩
    · have HF := Lib.hid (word_len (s := s) (fun h => h10 h.2))
      go_enter Tryz.func27, Tryz.ntmps27
      go_wp2
      go_ret
      exact ⟨ret_bool HF.out.symm, rfl⟩
  · have HF := Lib.hid (word_len (s := s) (fun h => h0 h.1))
    go_enter Tryz.func27, Tryz.ntmps27
    go_wp2
    go_ret
    exact ⟨ret_bool HF.out.symm, rfl⟩

end Go.Proofs.YtleoljnofdajfaaGreatDoor.Wd
