/- The laws' own test whether a list of ints has a number, and whether one lies in another. -/
import Derived.Test.YtjngnjokbnklfaaVInt
namespace Go.Proofs.Ytjngnjokbnklfaa.VHel
open Go.RowKit Lb IntS
set_option linter.unusedSimpArgs false
set_option linter.unusedVariables false

set_option maxHeartbeats 1000000 in
theorem vhas_any (a : Option Addr) (cap : Nat) (zs : List Int) (x : Int) (w : World) (hr : IRow w a zs) (hl : zs.length ≤ maxLen) :
    Calls Try.prog 36 #[.slice a zs.length cap, .int .i64 x] w fun e w' => e = .returned (.bool (decide (x ∈ zs))) ∧ w' = w := by
  unfold maxLen at hl
  go_enter Try.func36, Try.ntmps36
  go_wp2
  go_loop [5] (fun i => ∃ k : Nat, k ≤ zs.length ∧ i = .int .i64 k ∧ ∀ j, j < k → zAt zs j ≠ x) (fun i => zs.length - (intOf i).toNat)
  case atStart => exact ⟨0, Nat.zero_le _, rfl, fun j h => by omega⟩
  case round =>
    obtain ⟨k, hk, rfl, hno⟩ := hrel
    by_cases hlt : k < zs.length
    · rcases hr with h0 | ⟨b, off, rfl, hc⟩
      · omega
      have g := hc k hlt
      clear hc
      by_cases he : zAt zs k = x
      · have hb : (zAt zs k == x) = true := by simpa using he
        have HH := Lib.hid (show decide (x ∈ zs) = true from by
          rw [decide_eq_true_iff, ← he]
          simp [zAt, hlt])
        clear hno he
        go_wp2
        go_ret
        exact ⟨ret_bool HH.out.symm, rfl⟩
      · have hb : (zAt zs k == x) = false := by simpa using he
        have HN := Lib.hid (all_succ (p := fun j => zAt zs j ≠ x) hno he)
        clear hno he
        go_wp2
        go_round
        case rel => exact ⟨k + 1, by omega, by go_num, HN.out⟩
        case measure => simp [intOf]; omega
    · have HH := Lib.hid (show decide (x ∈ zs) = false from by
        rw [decide_eq_false_iff_not]
        intro h
        obtain ⟨j, hj, e⟩ := List.mem_iff_getElem.1 h
        exact hno j (by omega) (by simp [zAt, hj, e]))
      clear hno
      go_wp2
      go_ret
      exact ⟨ret_bool HH.out.symm, rfl⟩

theorem vhas_later (a : Option Addr) (cap : Nat) (zs : List Int) (x : Int) (w : World) (k n : Nat) (t : Bool) (hr : IRow w a zs) (hl : zs.length ≤ maxLen) (ht : decide (x ∈ zs) = t) :
    Calls Try.prog 36 #[.slice a zs.length cap, .int .i64 x] (w.drewN (k + n)) fun e w'' => e = .returned (.bool t) ∧ ∃ j, w'' = w.drewN (k + j) :=
  (vhas_any a cap zs x _ (show IRow (w.drewN (k + n)) a zs from hr) hl).mono fun e w' ⟨he, hw⟩ => ⟨by rw [he, ht], n, hw⟩

set_option maxHeartbeats 1000000 in
theorem within_any (a b : Option Addr) (cap cap' : Nat) (zs ys : List Int) (w : World) (hr : IRow w a zs) (hr' : IRow w b ys) (hl : zs.length ≤ maxLen) (hl' : ys.length ≤ maxLen) (h : ∀ z, z ∈ zs → z ∈ ys) :
    Calls Try.prog 35 #[.slice a zs.length cap, .slice b ys.length cap'] w fun e w' => e = .returned (.bool true) ∧ w' = w := by
  have HR' := Lib.hid hr'
  have HL' := Lib.hid hl'
  have HM := Lib.hid h
  clear hr' hl' h
  unfold maxLen at hl
  go_enter Try.func35, Try.ntmps35
  go_wp2
  go_loop [5] (fun i => ∃ k : Nat, k ≤ zs.length ∧ i = .int .i64 k) (fun i => zs.length - (intOf i).toNat)
  case atStart => exact ⟨0, Nat.zero_le _, rfl⟩
  case round =>
    obtain ⟨k, hk, rfl⟩ := hrel
    by_cases hlt : k < zs.length
    · rcases hr with h0 | ⟨b1, off, rfl, hc⟩
      · omega
      have g := hc k hlt
      have HK := Lib.hid (show decide (zAt zs k ∈ ys) = true from by
        rw [decide_eq_true_iff]
        exact HM.out _ (by simp [zAt, hlt]))
      clear hc
      go_wp2_with fail
      refine (vhas_any b cap' ys (zAt zs k) _ HR'.out HL'.out).mono ?_
      rintro e w2 ⟨rfl, rfl⟩
      rw [HK.out]
      go_wp2
      go_round
      case rel => exact ⟨k + 1, by omega, by go_num⟩
      case measure => simp [intOf]; omega
    · go_wp2
      go_ret
      exact ⟨rfl, rfl⟩

end Go.Proofs.Ytjngnjokbnklfaa.VHel
