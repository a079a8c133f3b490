/- The highest cell: the model and the program. -/
import Derived.Test.YtnenaponiahalaaMapV
namespace Go.Proofs.Ytnenaponiahalaa.High
open Go.RowKit Lb IntS MapS MapV
set_option linter.unusedSimpArgs false
set_option linter.unusedVariables false

theorem forb_yes (m : Mp) (a b : Option Addr) (ca cb : Nat) (c : Nat) (w : World) (hc : IRow w b m.C) (hl : c < m.C.length) (hm : m.C.length ≤ maxLen) (h : zAt m.C c = 0) :
    Calls Try.prog 130 #[.agg #[.int .i64 m.W, .int .i64 m.H, .slice a m.R.length ca, .slice b m.C.length cb], .int .i64 c] w fun e w' => e = .returned (.bool true) ∧ Below w.heap.size w w' := by
  unfold maxLen at hm
  rcases RowAt.below hc ((Below.refl _ _).alloc (Nat.le_refl _) (.cells #[.int .i64 m.W, .int .i64 m.H, .slice a m.R.length ca, .slice b m.C.length cb] 26)) with h0 | ⟨b2, off2, rfl, hc2⟩
  · omega
  have g2 := hc2 c hl
  simp only [h] at g2
  clear hc2 hc
  go_enter Try.func130, Try.ntmps130
  go_wp2
  go_ret
  exact ⟨rfl, (Below.refl _ _).alloc (Nat.le_refl _) _⟩
theorem forb_no (m : Mp) (a b : Option Addr) (ca cb : Nat) (c : Nat) (w : World) (hc : IRow w b m.C) (hl : c < m.C.length) (hm : m.C.length ≤ maxLen) (h : zAt m.C c ≠ 0) :
    Calls Try.prog 130 #[.agg #[.int .i64 m.W, .int .i64 m.H, .slice a m.R.length ca, .slice b m.C.length cb], .int .i64 c] w fun e w' => e = .returned (.bool false) ∧ Below w.heap.size w w' := by
  unfold maxLen at hm
  rcases RowAt.below hc ((Below.refl _ _).alloc (Nat.le_refl _) (.cells #[.int .i64 m.W, .int .i64 m.H, .slice a m.R.length ca, .slice b m.C.length cb] 26)) with h0 | ⟨b2, off2, rfl, hc2⟩
  · omega
  have g2 := hc2 c hl
  have e : (zAt m.C c == 0) = false := by simpa using h
  clear hc2 hc h
  go_enter Try.func130, Try.ntmps130
  go_wp2
  go_ret
  exact ⟨rfl, (Below.refl _ _).alloc (Nat.le_refl _) _⟩

end Go.Proofs.Ytnenaponiahalaa.High
