/- Texts of one layer: MapV, HighF, PartM, NextM, Next, NextN, NextS, CellN, StepT, DstM, StpF, TurnM, SpecB, TblS, PrtM, PrtB. -/
import Derived.Test.YtdfmfmndmldggaaBaA
import Derived.Deep.Cut
import Derived.Deep.CutRange
import Derived.Deep.DeepCutAuto
import Derived.Test.YtdfmfmndmldggaaShelf
import Derived.Deep.LoopGhost
import Derived.Deep.RegionLaw
import Derived.Deep.AppendLies
import Derived.IntWalk
import Derived.Sort.OwnSortedInts
namespace Go.Proofs.Ytdfmfmndmldggaa.MapV
open Go.RowKit Lb IntS MapS
set_option linter.unusedSimpArgs false
set_option linter.unusedVariables false

theorem in_yes (x a b : Int) (w : World) (h1 : a ≤ x) (h2 : x ≤ b) : Calls Try.prog 86 #[.int .i64 x, .int .i64 a, .int .i64 b] w fun e w' => e = .returned (.bool true) ∧ w' = w := by
  go_enter Try.func86, Try.ntmps86
  go_wp2
  go_ret
  exact ⟨rfl, rfl⟩
theorem in_no (x a b : Int) (w : World) (h : x < a ∨ b < x) : Calls Try.prog 86 #[.int .i64 x, .int .i64 a, .int .i64 b] w fun e w' => e = .returned (.bool false) ∧ w' = w := by
  by_cases h1 : x < a
  · go_enter Try.func86, Try.ntmps86
    go_wp2
    go_ret
    exact ⟨rfl, rfl⟩
  · have h2 : b < x := by omega
    have h3 : decide (x ≤ b) = false := by simpa using h2
    go_enter Try.func86, Try.ntmps86
    go_wp2
    go_ret
    exact ⟨rfl, rfl⟩

set_option maxHeartbeats 1000000 in
theorem spec_no (m : Mp) (a b : Option Addr) (ca cb : Nat) (w : World) (hR : m.R.length ≤ maxLen) (hC : m.C.length ≤ maxLen) (h : ¬ SidesOk m) :
    Calls Try.prog 108 #[.agg #[.int .i64 m.W, .int .i64 m.H, .slice a m.R.length ca, .slice b m.C.length cb]] w fun e w' => e = .returned (.bool false) ∧ Below w.heap.size w w' := by
  unfold maxLen at hR hC
  by_cases hW : 1 ≤ m.W ∧ m.W ≤ 6
  · by_cases hH : 1 ≤ m.H ∧ m.H ≤ 6
    · obtain ⟨w1, w2⟩ := hW
      obtain ⟨h1, h2⟩ := hH
      have hm := mul_bd w1 w2 h1 h2
      by_cases hl : (m.R.length : Int) = m.W * m.H
      · have hl2 : m.C.length ≠ m.R.length := fun e => h ⟨w1, w2, h1, h2, hl, e⟩
        clear h
        have e1 : ((m.R.length : Int) != m.W * m.H) = false := by simp [hl]
        have e2 : ((m.C.length : Int) != (m.R.length : Int)) = true := by simp; omega
        clear hl hl2
        go_enter Try.func108, Try.ntmps108
        go_wp2_with (go_at_call 86; refine (in_yes _ _ _ _ (by omega) (by omega)).mono ?_; rintro e w' ⟨rfl, rfl⟩)
        go_ret
        exact ⟨rfl, (Below.refl _ _).alloc (Nat.le_refl _) _⟩
      · have e1 : ((m.R.length : Int) != m.W * m.H) = true := by simpa using hl
        clear h hl
        go_enter Try.func108, Try.ntmps108
        go_wp2_with (go_at_call 86; refine (in_yes _ _ _ _ (by omega) (by omega)).mono ?_; rintro e w' ⟨rfl, rfl⟩)
        go_ret
        exact ⟨rfl, (Below.refl _ _).alloc (Nat.le_refl _) _⟩
    · clear h
      obtain ⟨w1, w2⟩ := hW
      have hn : m.H < 1 ∨ 6 < m.H := by omega
      have HN := Lib.hid hn
      clear hn hH
      go_enter Try.func108, Try.ntmps108
      go_wp2_with fail
      refine (in_yes _ _ _ _ w1 w2).mono ?_
      rintro e w' ⟨rfl, rfl⟩
      go_wp2_with fail
      refine (in_no _ _ _ _ HN.out).mono ?_
      rintro e w' ⟨rfl, rfl⟩
      go_wp2
      go_ret
      exact ⟨rfl, (Below.refl _ _).alloc (Nat.le_refl _) _⟩
  · clear h
    have HN := Lib.hid (show m.W < 1 ∨ 6 < m.W from by omega)
    clear hW
    go_enter Try.func108, Try.ntmps108
    go_wp2_with fail
    refine (in_no _ _ _ _ HN.out).mono ?_
    rintro e w' ⟨rfl, rfl⟩
    go_wp2
    go_ret
    exact ⟨rfl, (Below.refl _ _).alloc (Nat.le_refl _) _⟩

theorem not_cell {m : Mp} {k : Nat} (h : ¬ CellOk m k) : (zAt m.R k < 0 ∨ 9 < zAt m.R k) ∨ ((0 ≤ zAt m.R k ∧ zAt m.R k ≤ 9) ∧ (zAt m.C k < 0 ∨ 9 < zAt m.C k)) := by
  unfold CellOk at h
  omega

set_option maxHeartbeats 1000000 in
theorem spec_loop (m : Mp) (a b : Option Addr) (ca cb : Nat) (w : World) (hs : SidesOk m) (hr : IRow w a m.R) (hc : IRow w b m.C) :
    Calls Try.prog 108 #[.agg #[.int .i64 m.W, .int .i64 m.H, .slice a m.R.length ca, .slice b m.C.length cb]] w fun e w' => e = .returned (.bool (okB m)) ∧ Below w.heap.size w w' := by
  have hs' := hs
  obtain ⟨w1, w2, h1, h2, hl, hl2⟩ := hs
  have hm := mul_bd w1 w2 h1 h2
  have e1 : ((m.R.length : Int) != m.W * m.H) = false := by simp [hl]
  have e2 : ((m.C.length : Int) != (m.R.length : Int)) = false := by simp [hl2]
  have hn36 : m.R.length ≤ 36 := by omega
  have hr' := RowAt.below hr ((Below.refl _ _).alloc (Nat.le_refl _) (.cells #[.int .i64 m.W, .int .i64 m.H, .slice a m.R.length ca, .slice b m.C.length cb] 26))
  have hc' := RowAt.below hc ((Below.refl _ _).alloc (Nat.le_refl _) (.cells #[.int .i64 m.W, .int .i64 m.H, .slice a m.R.length ca, .slice b m.C.length cb] 26))
  have HL := Lib.hid hl2
  have HS := Lib.hid hs'
  clear hl hl2 hr hc hs'
  go_enter Try.func108, Try.ntmps108
  go_wp2_with (go_at_call 86; refine (in_yes _ _ _ _ (by omega) (by omega)).mono ?_; rintro e w' ⟨rfl, rfl⟩)
  go_loop [3] (fun i => ∃ k : Nat, k ≤ m.R.length ∧ i = .int .i64 k ∧ ∀ i, i < k → CellOk m i) (fun i => m.R.length - (intOf i).toNat)
  case atStart => exact ⟨0, Nat.zero_le _, rfl, fun i h => by omega⟩
  case round =>
    obtain ⟨k, hk, rfl, hall⟩ := hrel
    by_cases hlt : k < m.R.length
    · rcases hr' with hr' | ⟨b1, off1, rfl, hc1⟩
      · omega
      rcases hc' with hc' | ⟨b2, off2, rfl, hc2⟩
      · have := HL.out; omega
      have hlt2 : k < m.C.length := by have := HL.out; omega
      have g1 := hc1 k hlt
      have g2 := hc2 k hlt2
      clear hc1 hc2
      by_cases hok : CellOk m k
      · have HO := Lib.hid (all_succ hall hok)
        obtain ⟨r1, r2, r3, r4⟩ := hok
        clear hall
        go_wp2_with (go_at_call 86; refine (in_yes _ _ _ _ (by omega) (by omega)).mono ?_; rintro e w' ⟨rfl, rfl⟩)
        go_round
        case rel => exact ⟨k + 1, by omega, by go_num, HO.out⟩
        case measure => simp [intOf]; omega
      · have HF := Lib.hid (okB_no (m := m) fun h => hok (h.2 k hlt))
        rcases not_cell hok with hb | ⟨⟨r1, r2⟩, hb⟩
        · have HB := Lib.hid hb
          clear hall hok hb
          go_wp2_with fail
          refine (in_no _ _ _ _ HB.out).mono ?_
          rintro e w' ⟨rfl, rfl⟩
          go_wp2
          go_ret
          exact ⟨ret_bool HF.out.symm, (Below.refl _ _).alloc (Nat.le_refl _) _⟩
        · have HB := Lib.hid hb
          clear hall hok hb
          go_wp2_with fail
          refine (in_yes _ _ _ _ r1 r2).mono ?_
          rintro e w' ⟨rfl, rfl⟩
          go_wp2_with fail
          refine (in_no _ _ _ _ HB.out).mono ?_
          rintro e w' ⟨rfl, rfl⟩
          go_wp2
          go_ret
          exact ⟨ret_bool HF.out.symm, (Below.refl _ _).alloc (Nat.le_refl _) _⟩
    · have HF := Lib.hid (okB_yes (m := m) ⟨HS.out, fun i hi => hall i (by omega)⟩)
      clear hall
      go_wp2
      go_ret
      exact ⟨ret_bool HF.out.symm, (Below.refl _ _).alloc (Nat.le_refl _) _⟩

theorem spec_any (m : Mp) (a b : Option Addr) (ca cb : Nat) (w : World) (hR : m.R.length ≤ maxLen) (hC : m.C.length ≤ maxLen) (hr : IRow w a m.R) (hc : IRow w b m.C) :
    Calls Try.prog 108 #[.agg #[.int .i64 m.W, .int .i64 m.H, .slice a m.R.length ca, .slice b m.C.length cb]] w fun e w' => e = .returned (.bool (okB m)) ∧ Below w.heap.size w w' := by
  by_cases hs : SidesOk m
  · exact spec_loop m a b ca cb w hs hr hc
  · rw [okB_no fun h => hs h.1]
    exact spec_no m a b ca cb w hR hC hs

set_option maxHeartbeats 1000000 in
theorem impl_no (m : Mp) (a b : Option Addr) (ca cb : Nat) (w : World) (hR : m.R.length ≤ maxLen) (hC : m.C.length ≤ maxLen) (h : ¬ SidesOk m) :
    Calls Try.prog 120 #[.agg #[.int .i64 m.W, .int .i64 m.H, .slice a m.R.length ca, .slice b m.C.length cb]] w fun e w' => e = .returned (.bool false) ∧ Below w.heap.size w w' := by
  unfold maxLen at hR hC
  by_cases hs : 1 ≤ m.W ∧ m.W ≤ 6 ∧ 1 ≤ m.H ∧ m.H ≤ 6
  · obtain ⟨w1, w2, h1, h2⟩ := hs
    have hm := mul_bd w1 w2 h1 h2
    have d1 : decide (m.W < 1) = false := by simpa using w1
    have d2 : decide (6 < m.W) = false := by simpa using w2
    have d3 : decide (m.H < 1) = false := by simpa using h1
    have d4 : decide (6 < m.H) = false := by simpa using h2
    by_cases hl : (m.R.length : Int) = m.W * m.H
    · have hl2 : m.C.length ≠ m.R.length := fun e => h ⟨w1, w2, h1, h2, hl, e⟩
      have e1 : ((m.R.length : Int) != m.W * m.H) = false := by simp [hl]
      have e2 : ((m.C.length : Int) != m.W * m.H) = true := by rw [← hl]; simp; omega
      clear h hl hl2
      go_enter Try.func120, Try.ntmps120
      go_wp2
      go_ret
      exact ⟨rfl, (Below.refl _ _).alloc (Nat.le_refl _) _⟩
    · have e1 : ((m.R.length : Int) != m.W * m.H) = true := by simpa using hl
      clear h hl
      go_enter Try.func120, Try.ntmps120
      go_wp2
      go_ret
      exact ⟨rfl, (Below.refl _ _).alloc (Nat.le_refl _) _⟩
  · clear h
    have hcase : m.W < 1 ∨ (1 ≤ m.W ∧ 6 < m.W) ∨ (1 ≤ m.W ∧ m.W ≤ 6 ∧ m.H < 1) ∨ (1 ≤ m.W ∧ m.W ≤ 6 ∧ 1 ≤ m.H ∧ 6 < m.H) := by omega
    clear hs
    rcases hcase with c1 | ⟨c1, c2⟩ | ⟨c1, c2, c3⟩ | ⟨c1, c2, c3, c4⟩
    · go_enter Try.func120, Try.ntmps120
      go_wp2
      go_ret
      exact ⟨rfl, (Below.refl _ _).alloc (Nat.le_refl _) _⟩
    · have d1 : decide (m.W < 1) = false := by simpa using c1
      go_enter Try.func120, Try.ntmps120
      go_wp2
      go_ret
      exact ⟨rfl, (Below.refl _ _).alloc (Nat.le_refl _) _⟩
    · have d1 : decide (m.W < 1) = false := by simpa using c1
      have d2 : decide (6 < m.W) = false := by simpa using c2
      go_enter Try.func120, Try.ntmps120
      go_wp2
      go_ret
      exact ⟨rfl, (Below.refl _ _).alloc (Nat.le_refl _) _⟩
    · have d1 : decide (m.W < 1) = false := by simpa using c1
      have d2 : decide (6 < m.W) = false := by simpa using c2
      have d3 : decide (m.H < 1) = false := by simpa using c3
      go_enter Try.func120, Try.ntmps120
      go_wp2
      go_ret
      exact ⟨rfl, (Below.refl _ _).alloc (Nat.le_refl _) _⟩

set_option maxHeartbeats 2000000 in
theorem impl_loop (m : Mp) (a b : Option Addr) (ca cb : Nat) (w : World) (hs : SidesOk m) (hr : IRow w a m.R) (hc : IRow w b m.C) :
    Calls Try.prog 120 #[.agg #[.int .i64 m.W, .int .i64 m.H, .slice a m.R.length ca, .slice b m.C.length cb]] w fun e w' => e = .returned (.bool (okB m)) ∧ Below w.heap.size w w' := by
  have hs' := hs
  obtain ⟨w1, w2, h1, h2, hl, hl2⟩ := hs
  have hm := mul_bd w1 w2 h1 h2
  have d1 : decide (m.W < 1) = false := by simpa using w1
  have d2 : decide (6 < m.W) = false := by simpa using w2
  have d3 : decide (m.H < 1) = false := by simpa using h1
  have d4 : decide (6 < m.H) = false := by simpa using h2
  have e1 : ((m.R.length : Int) != m.W * m.H) = false := by simp [hl]
  have e2 : ((m.C.length : Int) != m.W * m.H) = false := by rw [← hl]; simp [hl2]
  have hn36 : m.R.length ≤ 36 := by omega
  have hr' := RowAt.below hr ((Below.refl _ _).alloc (Nat.le_refl _) (.cells #[.int .i64 m.W, .int .i64 m.H, .slice a m.R.length ca, .slice b m.C.length cb] 26))
  have hc' := RowAt.below hc ((Below.refl _ _).alloc (Nat.le_refl _) (.cells #[.int .i64 m.W, .int .i64 m.H, .slice a m.R.length ca, .slice b m.C.length cb] 26))
  have HL := Lib.hid hl2
  have HM := Lib.hid hl
  have HS := Lib.hid hs'
  clear hl hl2 hr hc hs'
  go_enter Try.func120, Try.ntmps120
  go_wp2
  go_loop [41, 4] (fun i _ => ∃ k : Nat, k ≤ m.R.length ∧ i = .int .i64 k ∧ ∀ i, i < k → CellOk m i) (fun i _ => m.R.length - (intOf i).toNat)
  case atStart => exact ⟨0, Nat.zero_le _, rfl, fun i h => by omega⟩
  case round =>
    obtain ⟨k, hk, rfl, hall⟩ := hrel
    by_cases hlt : k < m.R.length
    · rcases hr' with hr' | ⟨b1, off1, rfl, hc1⟩
      · omega
      rcases hc' with hc' | ⟨b2, off2, rfl, hc2⟩
      · have := HL.out; omega
      have hlt2 : k < m.C.length := by have := HL.out; omega
      have g1 := hc1 k hlt
      have g2 := hc2 k hlt2
      have hkm : (k : Int) < m.W * m.H := by have := HM.out; omega
      clear hc1 hc2
      by_cases hok : CellOk m k
      · have HO := Lib.hid (all_succ hall hok)
        obtain ⟨r1, r2, r3, r4⟩ := hok
        have x1 : decide (zAt m.R k < 0) = false := by simpa using r1
        have x2 : decide (9 < zAt m.R k) = false := by simpa using r2
        have x3 : decide (zAt m.C k < 0) = false := by simpa using r3
        have x4 : decide (9 < zAt m.C k) = false := by simpa using r4
        clear hall
        go_wp2
        go_round
        case rel => exact ⟨k + 1, by omega, by go_num, HO.out⟩
        case measure => simp [intOf]; omega
      · have HF := Lib.hid (okB_no (m := m) fun h => hok (h.2 k hlt))
        have hcase : zAt m.R k < 0 ∨ (0 ≤ zAt m.R k ∧ 9 < zAt m.R k) ∨ (0 ≤ zAt m.R k ∧ zAt m.R k ≤ 9 ∧ zAt m.C k < 0) ∨ (0 ≤ zAt m.R k ∧ zAt m.R k ≤ 9 ∧ 0 ≤ zAt m.C k ∧ 9 < zAt m.C k) := by
          unfold CellOk at hok; omega
        clear hall hok
        rcases hcase with c1 | ⟨c1, c2⟩ | ⟨c1, c2, c3⟩ | ⟨c1, c2, c3, c4⟩
        · go_wp2
          go_ret
          exact ⟨ret_bool HF.out.symm, (Below.refl _ _).alloc (Nat.le_refl _) _⟩
        · have x1 : decide (zAt m.R k < 0) = false := by simpa using c1
          go_wp2
          go_ret
          exact ⟨ret_bool HF.out.symm, (Below.refl _ _).alloc (Nat.le_refl _) _⟩
        · have x1 : decide (zAt m.R k < 0) = false := by simpa using c1
          have x2 : decide (9 < zAt m.R k) = false := by simpa using c2
          go_wp2
          go_ret
          exact ⟨ret_bool HF.out.symm, (Below.refl _ _).alloc (Nat.le_refl _) _⟩
        · have x1 : decide (zAt m.R k < 0) = false := by simpa using c1
          have x2 : decide (9 < zAt m.R k) = false := by simpa using c2
          have x3 : decide (zAt m.C k < 0) = false := by simpa using c3
          go_wp2
          go_ret
          exact ⟨ret_bool HF.out.symm, (Below.refl _ _).alloc (Nat.le_refl _) _⟩
    · have HF := Lib.hid (okB_yes (m := m) ⟨HS.out, fun i hi => hall i (by omega)⟩)
      have hkm : m.W * m.H ≤ (k : Int) := by have := HM.out; omega
      clear hall
      go_wp2
      go_ret
      exact ⟨ret_bool HF.out.symm, (Below.refl _ _).alloc (Nat.le_refl _) _⟩

theorem impl_any (m : Mp) (a b : Option Addr) (ca cb : Nat) (w : World) (hR : m.R.length ≤ maxLen) (hC : m.C.length ≤ maxLen) (hr : IRow w a m.R) (hc : IRow w b m.C) :
    Calls Try.prog 120 #[.agg #[.int .i64 m.W, .int .i64 m.H, .slice a m.R.length ca, .slice b m.C.length cb]] w fun e w' => e = .returned (.bool (okB m)) ∧ Below w.heap.size w w' := by
  by_cases hs : SidesOk m
  · exact impl_loop m a b ca cb w hs hr hc
  · rw [okB_no fun h => hs h.1]
    exact impl_no m a b ca cb w hR hC hs

end Go.Proofs.Ytdfmfmndmldggaa.MapV

namespace Go.Proofs.Ytdfmfmndmldggaa.High
open Go.RowKit Lb IntS MapS MapV
set_option linter.unusedSimpArgs false
set_option linter.unusedVariables false

theorem forb_yes (m : Mp) (a b : Option Addr) (ca cb : Nat) (c : Nat) (w : World) (hc : IRow w b m.C) (hl : c < m.C.length) (hm : m.C.length ≤ maxLen) (h : zAt m.C c = 0) :
    Calls Try.prog 145 #[.agg #[.int .i64 m.W, .int .i64 m.H, .slice a m.R.length ca, .slice b m.C.length cb], .int .i64 c] w fun e w' => e = .returned (.bool true) ∧ Below w.heap.size w w' := by
  unfold maxLen at hm
  rcases RowAt.below hc ((Below.refl _ _).alloc (Nat.le_refl _) (.cells #[.int .i64 m.W, .int .i64 m.H, .slice a m.R.length ca, .slice b m.C.length cb] 26)) with h0 | ⟨b2, off2, rfl, hc2⟩
  · omega
  have g2 := hc2 c hl
  simp only [h] at g2
  clear hc2 hc
  go_enter Try.func145, Try.ntmps145
  go_wp2
  go_ret
  exact ⟨rfl, (Below.refl _ _).alloc (Nat.le_refl _) _⟩
theorem forb_no (m : Mp) (a b : Option Addr) (ca cb : Nat) (c : Nat) (w : World) (hc : IRow w b m.C) (hl : c < m.C.length) (hm : m.C.length ≤ maxLen) (h : zAt m.C c ≠ 0) :
    Calls Try.prog 145 #[.agg #[.int .i64 m.W, .int .i64 m.H, .slice a m.R.length ca, .slice b m.C.length cb], .int .i64 c] w fun e w' => e = .returned (.bool false) ∧ Below w.heap.size w w' := by
  unfold maxLen at hm
  rcases RowAt.below hc ((Below.refl _ _).alloc (Nat.le_refl _) (.cells #[.int .i64 m.W, .int .i64 m.H, .slice a m.R.length ca, .slice b m.C.length cb] 26)) with h0 | ⟨b2, off2, rfl, hc2⟩
  · omega
  have g2 := hc2 c hl
  have e : (zAt m.C c == 0) = false := by simpa using h
  clear hc2 hc h
  go_enter Try.func145, Try.ntmps145
  go_wp2
  go_ret
  exact ⟨rfl, (Below.refl _ _).alloc (Nat.le_refl _) _⟩

end Go.Proofs.Ytdfmfmndmldggaa.High

namespace Go.Proofs.Ytdfmfmndmldggaa.Lb
open Go.RowKit
set_option linter.unusedVariables false

theorem len_le_of_sub : ∀ (a b : List Nat), a.Nodup → (∀ x ∈ a, x ∈ b) → a.length ≤ b.length
  | [], b, _, _ => by simp
  | x :: a, b, hn, hs => by
    have hx : x ∈ b := hs x (by simp)
    have hn' := List.nodup_cons.1 hn
    have := len_le_of_sub a (b.erase x) hn'.2 (fun y hy => by
      have hne : y ≠ x := fun e => hn'.1 (e ▸ hy)
      exact (List.mem_erase_of_ne hne).2 (hs y (by simp [hy])))
    rw [List.length_erase_of_mem hx] at this
    have : 0 < b.length := List.length_pos_of_mem hx
    simp only [List.length_cons]
    omega
theorem len_le_of_lt (a : List Nat) (n : Nat) (hn : a.Nodup) (hs : ∀ x ∈ a, x < n) : a.length ≤ n := by
  have := len_le_of_sub a (List.range n) hn (fun x hx => by simpa using hs x hx)
  simpa using this
theorem len_eq_of_mem (a b : List Nat) (ha : a.Nodup) (hb : b.Nodup) (h : ∀ x, x ∈ a ↔ x ∈ b) : a.length = b.length :=
  Nat.le_antisymm (len_le_of_sub a b ha fun x hx => (h x).1 hx) (len_le_of_sub b a hb fun x hx => (h x).2 hx)

theorem sorted_ext : ∀ (a b : List Nat), a.Pairwise (· < ·) → b.Pairwise (· < ·) → (∀ x, x ∈ a ↔ x ∈ b) → a = b
  | [], [], _, _, _ => rfl
  | [], y :: b, _, _, h => absurd ((h y).2 (by simp)) (by simp)
  | x :: a, [], _, _, h => absurd ((h x).1 (by simp)) (by simp)
  | x :: a, y :: b, ha, hb, h => by
    obtain ⟨ha1, ha2⟩ := List.pairwise_cons.1 ha
    obtain ⟨hb1, hb2⟩ := List.pairwise_cons.1 hb
    have hxy : x = y := by
      have h1 := (h x).1 (by simp)
      have h2 := (h y).2 (by simp)
      simp only [List.mem_cons] at h1 h2
      rcases h1 with h1 | h1
      · exact h1
      · rcases h2 with h2 | h2
        · exact h2.symm
        · have := ha1 _ h2
          have := hb1 _ h1
          omega
    subst hxy
    rw [sorted_ext a b ha2 hb2 fun z => ⟨fun hz => by
      have h1 := (h z).1 (by simp [hz])
      simp only [List.mem_cons] at h1
      rcases h1 with h1 | h1
      · have := ha1 z hz; omega
      · exact h1, fun hz => by
      have h1 := (h z).2 (by simp [hz])
      simp only [List.mem_cons] at h1
      rcases h1 with h1 | h1
      · have := hb1 z hz; omega
      · exact h1⟩]

/-- The cells to which one comes from a cell. -/
inductive Rch (m : Mp) (c : Nat) : Nat → Prop
  | here : Rch m c c
  | next {x y : Nat} : Rch m c x → y ∈ nx m x → Rch m c y

theorem Rch.trans {m : Mp} {a b c : Nat} (h1 : Rch m a b) (h2 : Rch m b c) : Rch m a c := by
  induction h2 with
  | here => exact h1
  | next _ hy ih => exact .next ih hy
/-- A cell that is not forbidden. -/
def Opn (m : Mp) (n c : Nat) : Prop := c < n ∧ 0 < zAt m.C c
theorem Rch.opn {m : Mp} {w h : Nat} (g : GoodM m w h) {c x : Nat} (hc : Opn m (w * h) c) (hr : Rch m c x) : Opn m (w * h) x := by
  induction hr with
  | here => exact hc
  | next _ hy ih => exact nx_lt g ih.1 hy
theorem Rch.sym {m : Mp} {w h : Nat} (g : GoodM m w h) {c x : Nat} (hc : Opn m (w * h) c) (hr : Rch m c x) : Rch m x c := by
  induction hr with
  | here => exact .here
  | next hr' hy ih =>
    have ho := hr'.opn g hc
    exact Rch.trans (.next .here (nx_sym g ho.1 ho.2 hy)) ih

def IsPart (m : Mp) (c : Nat) (p : List Nat) : Prop := p.Pairwise (· < ·) ∧ ∀ x, x ∈ p ↔ Rch m c x
theorem IsPart.unique {m : Mp} {c : Nat} {p q : List Nat} (hp : IsPart m c p) (hq : IsPart m c q) : p = q :=
  sorted_ext p q hp.1 hq.1 fun x => (hp.2 x).trans (hq.2 x).symm
theorem nodup_of_sorted {p : List Nat} (h : p.Pairwise (· < ·)) : p.Nodup := h.imp fun h => by omega
theorem IsPart.length {m : Mp} {w h : Nat} (g : GoodM m w h) {c : Nat} (hc : Opn m (w * h) c) {p : List Nat} (hp : IsPart m c p) : p.length ≤ w * h :=
  len_le_of_lt p _ (nodup_of_sorted hp.1) fun x hx => (((hp.2 x).1 hx).opn g hc).1

/-- Whether the parts up to a cell have a part that begins at it. -/
def Heads (m : Mp) (n c : Nat) : Prop := Opn m n c ∧ ∀ x, Rch m c x → c ≤ x
inductive PartsTo (m : Mp) (n : Nat) : Nat → List (List Nat) → Prop
  | zero : PartsTo m n 0 []
  | yes {k : Nat} {ps : List (List Nat)} {p : List Nat} : PartsTo m n k ps → Heads m n k → IsPart m k p → PartsTo m n (k + 1) (ps ++ [p])
  | no {k : Nat} {ps : List (List Nat)} : PartsTo m n k ps → ¬ Heads m n k → PartsTo m n (k + 1) ps

theorem PartsTo.unique {m : Mp} {n k : Nat} {ps qs : List (List Nat)} (hp : PartsTo m n k ps) (hq : PartsTo m n k qs) : ps = qs := by
  induction hp generalizing qs with
  | zero => cases hq; rfl
  | yes _ hh hpp ih =>
    cases hq with
    | yes hq' _ hq2 => rw [ih hq', hpp.unique hq2]
    | no _ hn => exact absurd hh hn
  | no _ hn ih =>
    cases hq with
    | yes _ hh _ => exact absurd hh hn
    | no hq' _ => exact ih hq'
theorem PartsTo.length {m : Mp} {n k : Nat} {ps : List (List Nat)} (hp : PartsTo m n k ps) : ps.length ≤ k := by
  induction hp with
  | zero => simp
  | yes _ _ _ ih => simp; omega
  | no _ _ ih => omega
theorem PartsTo.parts {m : Mp} {n k : Nat} {ps : List (List Nat)} (hp : PartsTo m n k ps) : ∀ p ∈ ps, ∃ c, Opn m n c ∧ IsPart m c p := by
  induction hp with
  | zero => simp
  | yes _ hh hq ih =>
    intro p hp
    rcases List.mem_append.1 hp with hp | hp
    · exact ih p hp
    · simp only [List.mem_singleton] at hp
      subst hp
      exact ⟨_, hh.1, hq⟩
  | no _ _ ih => exact ih

/-- What has been seen by a cell: all parts of the cells ahead of it. -/
def Seen (m : Mp) (n k i : Nat) : Prop := ∃ c, c < k ∧ Opn m n c ∧ Rch m c i
theorem seen_zero {m : Mp} {n i : Nat} : ¬ Seen m n 0 i := fun ⟨_, h, _⟩ => by omega
theorem seen_forb {m : Mp} {n k i : Nat} (h : ¬ Opn m n k) : Seen m n (k + 1) i ↔ Seen m n k i := by
  constructor
  · rintro ⟨c, hc, ho, hr⟩
    by_cases e : c = k
    · subst e; exact absurd ho h
    · exact ⟨c, by omega, ho, hr⟩
  · rintro ⟨c, hc, ho, hr⟩; exact ⟨c, by omega, ho, hr⟩
theorem seen_old {m : Mp} {n k i : Nat} (h : Seen m n k k) : Seen m n (k + 1) i ↔ Seen m n k i := by
  constructor
  · rintro ⟨c, hc, ho, hr⟩
    by_cases e : c = k
    · subst e
      obtain ⟨d, hd, hod, hrd⟩ := h
      exact ⟨d, hd, hod, hrd.trans hr⟩
    · exact ⟨c, by omega, ho, hr⟩
  · rintro ⟨c, hc, ho, hr⟩; exact ⟨c, by omega, ho, hr⟩
theorem seen_new {m : Mp} {n k i : Nat} (h : Opn m n k) : Seen m n (k + 1) i ↔ Seen m n k i ∨ Rch m k i := by
  constructor
  · rintro ⟨c, hc, ho, hr⟩
    by_cases e : c = k
    · subst e; exact .inr hr
    · exact .inl ⟨c, by omega, ho, hr⟩
  · rintro (⟨c, hc, ho, hr⟩ | hr)
    · exact ⟨c, by omega, ho, hr⟩
    · exact ⟨k, by omega, h, hr⟩
theorem not_heads_forb {m : Mp} {n k : Nat} (h : ¬ Opn m n k) : ¬ Heads m n k := fun hh => h hh.1
theorem not_heads_seen {m : Mp} {w h k : Nat} (g : GoodM m w h) (hs : Seen m (w * h) k k) : ¬ Heads m (w * h) k := by
  rintro ⟨_, hall⟩
  obtain ⟨c, hc, ho, hr⟩ := hs
  have := hall c (hr.sym g ho)
  omega
theorem heads_new {m : Mp} {w h k : Nat} (g : GoodM m w h) (ho : Opn m (w * h) k) (hs : ¬ Seen m (w * h) k k) : Heads m (w * h) k := by
  refine ⟨ho, fun x hx => ?_⟩
  by_cases hlt : x < k
  · exact absurd ⟨x, hlt, hx.opn g ho, hx.sym g ho⟩ hs
  · omega
/-- What has been seen is closed. -/
theorem seen_closed {m : Mp} {w h k x y : Nat} (g : GoodM m w h) (hs : Seen m (w * h) k x) (hy : Rch m x y) : Seen m (w * h) k y := by
  obtain ⟨c, hc, ho, hr⟩ := hs
  exact ⟨c, hc, ho, hr.trans hy⟩
theorem seen_opn {m : Mp} {w h k x : Nat} (g : GoodM m w h) (hs : Seen m (w * h) k x) : Opn m (w * h) x := by
  obtain ⟨c, hc, ho, hr⟩ := hs
  exact hr.opn g ho

/-- The search from a cell: what it has found, up to the place where it looks. -/
structure Bfs (m : Mp) (n k : Nat) (p : List Nat) (d : Nat) : Prop where
  nodup : p.Nodup
  head : k ∈ p
  rch : ∀ x ∈ p, Rch m k x
  unseen : ∀ x ∈ p, ¬ Seen m n k x
  done : ∀ j, j < d → j < p.length → ∀ y ∈ nx m (p.getD j 0), Seen m n k y ∨ y ∈ p

theorem Bfs.start {m : Mp} {n k : Nat} (hs : ¬ Seen m n k k) : Bfs m n k [k] 0 :=
  ⟨by simp, by simp, fun x hx => by simp at hx; subst hx; exact .here, fun x hx => by simp at hx; subst hx; exact hs, fun j hj => by omega⟩

/-- The search is at its end: all cells of the part are found. -/
theorem Bfs.full {m : Mp} {w h k : Nat} (g : GoodM m w h) (ho : Opn m (w * h) k) {p : List Nat} {d : Nat} (b : Bfs m (w * h) k p d) (hd : p.length ≤ d) :
    ∀ x, x ∈ p ↔ Rch m k x := by
  intro x
  refine ⟨b.rch x, fun hr => ?_⟩
  induction hr with
  | here => exact b.head
  | next hr' hy ih =>
    rename_i x y
    obtain ⟨j, hj, e⟩ := List.mem_iff_getElem.1 ih
    have he : p.getD j 0 = x := by simp [hj, e]
    rcases b.done j (by omega) hj y (by rw [he]; exact hy) with hs | hm
    · have ho' := hr'.opn g ho
      have : Rch m y x := .next .here (nx_sym g ho'.1 ho'.2 hy)
      exact absurd (seen_closed g hs this) (b.unseen _ ih)
    · exact hm

theorem Bfs.length {m : Mp} {w h k : Nat} (g : GoodM m w h) (ho : Opn m (w * h) k) {p : List Nat} {d : Nat} (b : Bfs m (w * h) k p d) : p.length ≤ w * h :=
  len_le_of_lt p _ b.nodup fun x hx => ((b.rch x hx).opn g ho).1

/-- One look: the cells next to one that has been found, the first 'i' of which have been looked at. -/
structure Look (m : Mp) (n k : Nat) (p : List Nat) (d x i : Nat) : Prop where
  bfs : Bfs m n k p d
  at_ : p.getD d 0 = x
  lt : d < p.length
  looked : ∀ j, j < i → j < (nx m x).length → Seen m n k ((nx m x).getD j 0) ∨ (nx m x).getD j 0 ∈ p

theorem Look.start {m : Mp} {n k d : Nat} {p : List Nat} (b : Bfs m n k p d) (h : d < p.length) : Look m n k p d (p.getD d 0) 0 :=
  ⟨b, rfl, h, fun j hj => by omega⟩
theorem getD_mem {l : List Nat} {i : Nat} (h : i < l.length) : l.getD i 0 ∈ l := by simp [h]
theorem Look.skip {m : Mp} {n k d x i : Nat} {p : List Nat} (l : Look m n k p d x i) (h : Seen m n k ((nx m x).getD i 0) ∨ (nx m x).getD i 0 ∈ p) : Look m n k p d x (i + 1) :=
  ⟨l.bfs, l.at_, l.lt, fun j hj hl => by
    by_cases e : j = i
    · subst e; exact h
    · exact l.looked j (by omega) hl⟩
theorem Look.put {m : Mp} {n k d x i : Nat} {p : List Nat} (l : Look m n k p d x i) (hi : i < (nx m x).length) (h1 : ¬ Seen m n k ((nx m x).getD i 0)) (h2 : (nx m x).getD i 0 ∉ p) :
    Look m n k (p ++ [(nx m x).getD i 0]) d x (i + 1) := by
  have hx : x ∈ p := by rw [← l.at_]; exact getD_mem l.lt
  refine ⟨⟨?_, ?_, ?_, ?_, ?_⟩, ?_, ?_, ?_⟩
  · rw [List.nodup_append]
    exact ⟨l.bfs.nodup, by simp, fun a ha b hb => by intro e; exact h2 (by rw [← List.mem_singleton.1 hb, ← e]; exact ha)⟩
  · exact List.mem_append.2 (.inl l.bfs.head)
  · intro y hy
    rcases List.mem_append.1 hy with hy | hy
    · exact l.bfs.rch y hy
    · simp only [List.mem_singleton] at hy
      subst hy
      exact .next (l.bfs.rch x hx) (getD_mem hi)
  · intro y hy
    rcases List.mem_append.1 hy with hy | hy
    · exact l.bfs.unseen y hy
    · simp only [List.mem_singleton] at hy
      subst hy; exact h1
  · intro j hj hl y hy
    have hjp : j < p.length := by have := l.lt; omega
    have e : (p ++ [(nx m x).getD i 0]).getD j 0 = p.getD j 0 := by simp [List.getD, List.getElem?_append_left hjp]
    rw [e] at hy
    rcases l.bfs.done j hj hjp y hy with h | h
    · exact .inl h
    · exact .inr (List.mem_append.2 (.inl h))
  · have := l.lt
    rw [← l.at_]
    simp [List.getD, List.getElem?_append_left this]
  · have := l.lt
    simp; omega
  · intro j hj hl
    by_cases e : j = i
    · subst e; exact .inr (List.mem_append.2 (.inr (by simp)))
    · rcases l.looked j (by omega) hl with h | h
      · exact .inl h
      · exact .inr (List.mem_append.2 (.inl h))
theorem Look.full {m : Mp} {n k d x i : Nat} {p : List Nat} (l : Look m n k p d x i) (hi : (nx m x).length ≤ i) : Bfs m n k p (d + 1) :=
  ⟨l.bfs.nodup, l.bfs.head, l.bfs.rch, l.bfs.unseen, fun j hj hl y hy => by
    by_cases e : j = d
    · subst e
      rw [l.at_] at hy
      obtain ⟨q, hq, e⟩ := List.mem_iff_getElem.1 hy
      have := l.looked q (by omega) hq
      rwa [show (nx m x).getD q 0 = y by simp [hq, e]] at this
    · exact l.bfs.done j (by omega) hl y hy⟩

/-! The model's way: a list that grows until nothing is new. -/
structure Grow (m : Mp) (c : Nat) (p : List Nat) : Prop where
  sorted : p.Pairwise (· < ·)
  head : c ∈ p
  rch : ∀ x ∈ p, Rch m c x
theorem Grow.start (m : Mp) (c : Nat) : Grow m c [c] := ⟨by simp, by simp, fun x hx => by simp at hx; subst hx; exact .here⟩
theorem Grow.length {m : Mp} {w h c : Nat} (g : GoodM m w h) (ho : Opn m (w * h) c) {p : List Nat} (b : Grow m c p) : p.length ≤ w * h :=
  len_le_of_lt p _ (nodup_of_sorted b.sorted) fun x hx => ((b.rch x hx).opn g ho).1
theorem Grow.full {m : Mp} {w h c : Nat} (g : GoodM m w h) (ho : Opn m (w * h) c) {p : List Nat} (b : Grow m c p) (hc : ∀ i, i < w * h → i ∈ p → ∀ y ∈ nx m i, y ∈ p) : IsPart m c p := by
  refine ⟨b.sorted, fun x => ⟨b.rch x, fun hr => ?_⟩⟩
  induction hr with
  | here => exact b.head
  | next hr' hy ih => exact hc _ (hr'.opn g ho).1 ih _ hy

/-- A number put to its place. -/
def put (l : List Nat) (n : Nat) : List Nat := l.filter (· < n) ++ n :: l.filter (fun x => n < x)
theorem mem_put {l : List Nat} {n x : Nat} : x ∈ put l n ↔ x = n ∨ (x ∈ l ∧ x ≠ n) := by
  unfold put
  simp only [List.mem_append, List.mem_filter, List.mem_cons, decide_eq_true_eq]
  by_cases h : x ∈ l <;> simp only [h, true_and, false_and, false_or, or_false] <;> omega
theorem put_sorted {l : List Nat} {n : Nat} (h : l.Pairwise (· < ·)) : (put l n).Pairwise (· < ·) := by
  unfold put
  rw [List.pairwise_append]
  refine ⟨h.filter _, List.pairwise_cons.2 ⟨fun x hx => by simpa using (List.mem_filter.1 hx).2, h.filter _⟩, fun a ha b hb => ?_⟩
  have h1 : a < n := by simpa using (List.mem_filter.1 ha).2
  rcases List.mem_cons.1 hb with rfl | hb
  · exact h1
  · have : n < b := by simpa using (List.mem_filter.1 hb).2
    omega
theorem Grow.put {m : Mp} {c x y : Nat} {p : List Nat} (b : Grow m c p) (hx : x ∈ p) (hy : y ∈ nx m x) : Grow m c (put p y) :=
  ⟨put_sorted b.sorted, by rw [mem_put]; have := b.head; by_cases e : c = y <;> simp [e, this], fun z hz => by
    rcases mem_put.1 hz with rfl | hz
    · exact .next (b.rch x hx) hy
    · exact b.rch z hz.1⟩
theorem put_mem_old {l : List Nat} {n x : Nat} (h : x ∈ l) : x ∈ put l n := by
  rw [mem_put]
  by_cases e : x = n
  · exact .inl e
  · exact .inr ⟨h, e⟩
theorem put_length {l : List Nat} {n : Nat} (hs : l.Pairwise (· < ·)) (h : n ∉ l) : (put l n).length = l.length + 1 := by
  have h1 := len_eq_of_mem (put l n) (n :: l) (nodup_of_sorted (put_sorted hs)) (List.nodup_cons.2 ⟨h, nodup_of_sorted hs⟩) fun x => by
    rw [mem_put, List.mem_cons]
    constructor
    · rintro (h | h)
      · exact .inl h
      · exact .inr h.1
    · rintro (h' | h')
      · exact .inl h'
      · exact .inr ⟨h', fun e => h (e ▸ h')⟩
  simpa using h1
/-- The list parts where the number belongs. -/
theorem put_split {l : List Nat} {n k : Nat} (hs : l.Pairwise (· < ·)) (hk : k ≤ l.length) (h1 : ∀ i, i < k → l.getD i 0 < n) (h2 : k < l.length → n < l.getD k 0) :
    put l n = l.take k ++ n :: l.drop k := by
  have e : l = l.take k ++ l.drop k := (List.take_append_drop k l).symm
  have ht : ∀ x ∈ l.take k, x < n := by
    intro x hx
    obtain ⟨i, hi, rfl⟩ := List.mem_iff_getElem.1 hx
    have hi' : i < k := by simp at hi; omega
    have := h1 i hi'
    rw [List.getElem_take]
    simpa [show i < l.length by omega] using this
  have hd : ∀ x ∈ l.drop k, n < x := by
    intro x hx
    obtain ⟨i, hi, rfl⟩ := List.mem_iff_getElem.1 hx
    simp only [List.length_drop] at hi
    have h3 := h2 (by omega)
    rw [List.getElem_drop]
    by_cases h0 : i = 0
    · subst h0
      simpa [show k < l.length by omega] using h3
    · have := (List.pairwise_iff_getElem.1 hs) k (k + i) (by omega) (by omega) (by omega)
      have h4 : n < l[k]'(by omega) := by simpa [show k < l.length by omega] using h3
      omega
  unfold Lb.put
  conv => lhs; rw [e]
  rw [List.filter_append, List.filter_append]
  rw [List.filter_eq_self.2 (fun x hx => by simpa using ht x hx), List.filter_eq_nil_iff.2 (fun x hx => by have := hd x hx; simp; omega),
    List.filter_eq_nil_iff.2 (fun x hx => by have := ht x hx; simp; omega), List.filter_eq_self.2 (fun x hx => by simpa using hd x hx)]
  simp

/-- Whether the part begins at its cell. -/
theorem part_head {m : Mp} {n c : Nat} {p : List Nat} (ho : Opn m n c) (hp : IsPart m c p) : p.getD 0 0 = c ↔ Heads m n c := by
  have hc : c ∈ p := (hp.2 c).2 .here
  obtain ⟨a, q, rfl⟩ : ∃ a q, p = a :: q := by
    cases p with
    | nil => cases hc
    | cons a q => exact ⟨a, q, rfl⟩
  have hq := List.pairwise_cons.1 hp.1
  simp only [List.getD_cons_zero]
  constructor
  · rintro rfl
    refine ⟨ho, fun x hx => ?_⟩
    rcases List.mem_cons.1 ((hp.2 x).2 hx) with rfl | hm
    · exact Nat.le_refl _
    · exact Nat.le_of_lt (hq.1 x hm)
  · rintro ⟨_, hall⟩
    have h1 := hall a ((hp.2 a).1 (by simp))
    rcases List.mem_cons.1 hc with e | hm
    · exact e.symm
    · have := hq.1 c hm; omega

/-! All parts together. -/
theorem PartsTo.all {m : Mp} {w h k : Nat} (g : GoodM m w h) {ps : List (List Nat)} (hp : PartsTo m (w * h) k ps) : ps.flatten.Nodup ∧ ∀ x, x ∈ ps.flatten ↔ Seen m (w * h) k x := by
  induction hp with
  | zero => exact ⟨by simp, fun x => by simp [seen_zero]⟩
  | yes hp' hh hq ih =>
    rename_i k ps p
    refine ⟨?_, fun x => ?_⟩
    · rw [List.flatten_append, List.nodup_append]
      refine ⟨ih.1, by simpa using nodup_of_sorted hq.1, fun a ha b hb => ?_⟩
      intro e
      subst e
      have h1 := (ih.2 a).1 ha
      have h2 : a ∈ p := by simpa using hb
      obtain ⟨c, hc, ho, hr⟩ := h1
      have hka := (hq.2 a).1 h2
      have := hh.2 c (hka.trans (hr.sym g ho))
      omega
    · rw [List.flatten_append, List.mem_append, ih.2, seen_new hh.1]
      simp [hq.2]
  | no hp' hn ih =>
    rename_i k ps
    refine ⟨ih.1, fun x => ?_⟩
    rw [ih.2]
    by_cases ho : Opn m (w * h) k
    · by_cases hs : Seen m (w * h) k k
      · exact (seen_old hs).symm
      · exact absurd (heads_new g ho hs) hn
    · exact (seen_forb ho).symm

theorem PartsTo.count {m : Mp} {w h : Nat} (g : GoodM m w h) {ps : List (List Nat)} (hp : PartsTo m (w * h) (w * h) ps) :
    (ps.map List.length).sum = ((List.range (w * h)).filter (opn m)).length := by
  have ha := hp.all g
  rw [← List.length_flatten]
  refine len_eq_of_mem _ _ ha.1 (List.nodup_range.filter _) fun x => ?_
  rw [ha.2, List.mem_filter, List.mem_range]
  unfold opn
  simp only [decide_eq_true_eq]
  constructor
  · intro hs
    exact seen_opn g hs
  · intro ho
    exact ⟨x, ho.1, ho, .here⟩

end Go.Proofs.Ytdfmfmndmldggaa.Lb

namespace Go.Proofs.Ytdfmfmndmldggaa.Lb
set_option linter.unusedVariables false

def dirL (w h c : Nat) : Nat → List Nat
  | 0 => upL w c
  | 1 => lfL w c
  | 2 => rtL w c
  | _ => dnL w h c
/-- What the first 'k' looks have found. -/
def nxTo (m : Mp) (w h c : Nat) : Nat → List Nat
  | 0 => []
  | k + 1 => nxTo m w h c k ++ (dirL w h c k).filter (opn m)
theorem nxTo_all {m : Mp} {w h : Nat} (g : GoodM m w h) (c : Nat) : nxTo m w h c 4 = nx m c := by
  rw [nx_eq g]
  simp [nxTo, dirL, near, List.filter_append]
theorem nxTo_length (m : Mp) (w h c k : Nat) : (nxTo m w h c k).length ≤ k := by
  induction k with
  | zero => simp [nxTo]
  | succ k ih =>
    rw [nxTo, List.length_append]
    have h1 : (dirL w h c k).length ≤ 1 := by
      unfold dirL upL lfL rtL dnL
      split <;> split <;> simp
    have := List.length_filter_le (opn m) (dirL w h c k)
    omega
theorem nxTo_none {m : Mp} {w h c k : Nat} (h0 : dirL w h c k = []) : nxTo m w h c (k + 1) = nxTo m w h c k := by rw [nxTo, h0]; simp
theorem nxTo_shut {m : Mp} {w h c k d : Nat} (h0 : dirL w h c k = [d]) (hd : zAt m.C d = 0) : nxTo m w h c (k + 1) = nxTo m w h c k := by rw [nxTo, h0]; simp [opn, hd]
theorem nxTo_open {m : Mp} {w h c k d : Nat} (h0 : dirL w h c k = [d]) (hd : 0 < zAt m.C d) : nxTo m w h c (k + 1) = nxTo m w h c k ++ [d] := by rw [nxTo, h0]; simp [opn, hd]

theorem dm (w c x y : Nat) (h1 : c % w = x) (h2 : c / w = y) : ((c : Int) % (w : Int) = (x : Int)) ∧ ((c : Int) / (w : Int) = (y : Int)) := by
  subst h1 h2
  exact ⟨by omega, by omega⟩
theorem mul_le {a b c d : Nat} (h1 : a ≤ b) (h2 : c ≤ d) : a * c ≤ b * d := Nat.mul_le_mul h1 h2

/-- A place in a direction: in range its number, and what bounds it. -/
structure At (w h : Nat) (c x y : Nat) : Prop where
  c : c = y * w + x
  xw : x < w
  yh : y < h
theorem at_of {w h c x y : Nat} (hw : 1 ≤ w) (hc : c < w * h) (h1 : c % w = x) (h2 : c / w = y) : At w h c x y := by
  refine ⟨?_, by rw [← h1]; exact Nat.mod_lt _ hw, by rw [← h2]; exact div_lt_of hw hc⟩
  rw [← h1, ← h2, Nat.mul_comm]; exact cell_split w c
theorem dir0 {w h c x y : Nat} (A : At w h c x y) (hy : 0 < y) : ∃ d : Nat, dirL w h c 0 = [d] ∧ d < w * h ∧ ((y : Int) + -1) * (w : Int) + (x : Int) = (d : Int) ∧ 0 ≤ ((y : Int) + -1) * (w : Int) ∧ ((y : Int) + -1) * (w : Int) ≤ (w * h : Nat) := by
  obtain ⟨v, rfl⟩ : ∃ v, y = v + 1 := ⟨y - 1, by omega⟩
  have hv : v < h := by have := A.yh; omega
  have e : ((v + 1 : Nat) : Int) + -1 = (v : Int) := by omega
  have hm : v * w + w ≤ w * h := by have := mul_le (show v + 1 ≤ h from hv) (Nat.le_refl w); rw [Nat.add_mul, Nat.one_mul] at this; rw [Nat.mul_comm w h]; exact this
  have e2 : ((v : Int)) * (w : Int) = ((v * w : Nat) : Int) := by rw [Int.natCast_mul]
  rw [e, e2]
  have hc : c = v * w + w + x := by rw [A.c, Nat.add_mul, Nat.one_mul]
  refine ⟨v * w + x, ?_, by have := A.xw; omega, by omega, by omega, by omega⟩
  have e3 : c / w = v + 1 := by rw [A.c, div_mk A.xw]
  show upL w c = _
  unfold upL
  rw [e3, if_pos hy, hc]
  congr 1
  omega
theorem dir1 {w h c x y : Nat} (A : At w h c x y) (hx : 0 < x) : ∃ d : Nat, dirL w h c 1 = [d] ∧ d < w * h ∧ (y : Int) * (w : Int) + ((x : Int) + -1) = (d : Int) ∧ 0 ≤ (y : Int) * (w : Int) ∧ (y : Int) * (w : Int) ≤ (w * h : Nat) := by
  have hl := lt_mk A.xw A.yh
  have e2 : ((y : Int)) * (w : Int) = ((y * w : Nat) : Int) := by rw [Int.natCast_mul]
  rw [e2]
  refine ⟨y * w + x - 1, ?_, by omega, by omega, by omega, by omega⟩
  show lfL w c = _
  unfold lfL
  rw [A.c, mod_mk A.xw, if_pos hx]
theorem dir2 {w h c x y : Nat} (A : At w h c x y) (hx : x + 1 < w) : ∃ d : Nat, dirL w h c 2 = [d] ∧ d < w * h ∧ (y : Int) * (w : Int) + ((x : Int) + 1) = (d : Int) ∧ 0 ≤ (y : Int) * (w : Int) ∧ (y : Int) * (w : Int) ≤ (w * h : Nat) := by
  have hl := lt_mk hx A.yh
  have e2 : ((y : Int)) * (w : Int) = ((y * w : Nat) : Int) := by rw [Int.natCast_mul]
  rw [e2]
  refine ⟨y * w + (x + 1), ?_, by omega, by omega, by omega, by omega⟩
  show rtL w c = _
  unfold rtL
  rw [A.c, mod_mk A.xw, if_pos hx, Nat.add_assoc]
theorem dir3 {w h c x y : Nat} (A : At w h c x y) (hy : y + 1 < h) : ∃ d : Nat, dirL w h c 3 = [d] ∧ d < w * h ∧ ((y : Int) + 1) * (w : Int) + (x : Int) = (d : Int) ∧ 0 ≤ ((y : Int) + 1) * (w : Int) ∧ ((y : Int) + 1) * (w : Int) ≤ (w * h : Nat) := by
  have hl := lt_mk A.xw hy
  have e : ((y : Int) + 1) = ((y + 1 : Nat) : Int) := by omega
  have e2 : ((y + 1 : Nat) : Int) * (w : Int) = (((y + 1) * w : Nat) : Int) := by rw [Int.natCast_mul]
  rw [e, e2]
  refine ⟨(y + 1) * w + x, ?_, by omega, by omega, by omega, by omega⟩
  have e3 : c / w = y := by rw [A.c, div_mk A.xw]
  have e4 : (y + 1) * w = y * w + w := by rw [Nat.add_mul, Nat.one_mul]
  show dnL w h c = _
  unfold dnL
  rw [e3, if_pos hy, A.c, e4]
  congr 1
  omega
theorem dir_none0 {w h c x y : Nat} (A : At w h c x y) (hy : ¬ 0 < y) : dirL w h c 0 = [] := by show upL w c = _; unfold upL; rw [A.c, div_mk A.xw, if_neg hy]
theorem dir_none1 {w h c x y : Nat} (A : At w h c x y) (hx : ¬ 0 < x) : dirL w h c 1 = [] := by show lfL w c = _; unfold lfL; rw [A.c, mod_mk A.xw, if_neg hx]
theorem dir_none2 {w h c x y : Nat} (A : At w h c x y) (hx : ¬ x + 1 < w) : dirL w h c 2 = [] := by show rtL w c = _; unfold rtL; rw [A.c, mod_mk A.xw, if_neg hx]
theorem dir_none3 {w h c x y : Nat} (A : At w h c x y) (hy : ¬ y + 1 < h) : dirL w h c 3 = [] := by show dnL w h c = _; unfold dnL; rw [A.c, div_mk A.xw, if_neg hy]

end Go.Proofs.Ytdfmfmndmldggaa.Lb

namespace Go.Proofs.Ytdfmfmndmldggaa.Next
open Go.RowKit Lb IntS MapS MapV High
set_option linter.unusedSimpArgs false
set_option linter.unusedVariables false

theorem below_drewN {B : Nat} {a w : World} (h : Below B a w) (n : Nat) : Below B a (w.drewN n) := ⟨h.os, h.tape, h.output, h.size, h.block⟩
theorem bAD (w : World) (o : Obj) (n : Nat) : Below w.heap.size w ((w.alloc o).drewN n) := below_drewN ((Below.refl _ _).alloc (Nat.le_refl _) o) n

/-- The list as far as found, of the call's own. -/
def Fnd (w : World) (ww hh : Nat) (R C : List Int) (a b : Option Addr) (ca cb c k : Nat) (l : Value) (wr : World) : Prop :=
  wr.ownsRow (w.heap.size + 1 + 1) 3 1 l (nxTo ⟨ww, hh, R, C⟩ ww hh c k).length ((ints (nxTo ⟨ww, hh, R, C⟩ ww hh c k)).map (Value.int .i64)) ∧ Blk wr w.heap.size 26 #[.int .i64 ww, .int .i64 hh, .slice a R.length ca, .slice b C.length cb] ∧ Below w.heap.size w wr
theorem Fnd.step {w : World} {ww hh : Nat} {R C : List Int} {a b : Option Addr} {ca cb c k : Nat} {l : Value} {wr w' : World} (h : Fnd w ww hh R C a b ca cb c k l wr) (he : nxTo ⟨ww, hh, R, C⟩ ww hh c (k + 1) = nxTo ⟨ww, hh, R, C⟩ ww hh c k) (hb : Below wr.heap.size wr w') : Fnd w ww hh R C a b ca cb c (k + 1) l w' := by
  obtain ⟨h1, h2, h3⟩ := h
  refine ⟨?_, h2.later hb, h3.trans (hb.mono h3.size)⟩
  rw [he]
  exact owns_below h1 hb
theorem Fnd.put {w : World} {ww hh : Nat} {R C : List Int} {a b : Option Addr} {ca cb c k d : Nat} {l l' : Value} {wr w1 w' : World} (h : Fnd w ww hh R C a b ca cb c k l wr) (he : nxTo ⟨ww, hh, R, C⟩ ww hh c (k + 1) = nxTo ⟨ww, hh, R, C⟩ ww hh c k ++ [d]) (hb : Below wr.heap.size wr w1)
    (ho : w'.ownsRow (w.heap.size + 1 + 1) 3 1 l' ((nxTo ⟨ww, hh, R, C⟩ ww hh c k).length + 1) ((ints (nxTo ⟨ww, hh, R, C⟩ ww hh c k)).map (Value.int .i64) ++ [.int .i64 d])) (hg : w1.grownBy w' l.ownBlock) : Fnd w ww hh R C a b ca cb c (k + 1) l' w' := by
  obtain ⟨h1, h2, h3⟩ := h
  have hlt := h1.lt
  have h4 := h3.trans (hb.mono h3.size)
  refine ⟨?_, ?_, h4.grown hg h4.size (fun q e => by have := (hlt q e).1; omega)⟩
  · rw [he]
    have e1 : (nxTo ⟨ww, hh, R, C⟩ ww hh c k ++ [d]).length = (nxTo ⟨ww, hh, R, C⟩ ww hh c k).length + 1 := by simp
    have e2 : (ints (nxTo ⟨ww, hh, R, C⟩ ww hh c k ++ [d])).map (Value.int .i64) = (ints (nxTo ⟨ww, hh, R, C⟩ ww hh c k)).map (Value.int .i64) ++ [.int .i64 d] := by simp [ints]
    rw [e1, e2]; exact ho
  · have h5 := h2.later hb
    refine (hg.block w.heap.size h5.lt (fun e => ?_)).trans h5
    have := (hlt w.heap.size e.symm).1
    omega

set_option maxRecDepth 100000 in
set_option maxHeartbeats 4000000 in
theorem impl_raw (ww hh : Nat) (R C : List Int) (a b : Option Addr) (ca cb : Nat) (c : Nat) (w : World) (g : GoodM ⟨ww, hh, R, C⟩ ww hh) (hc : IRow w b C) (hl : c < ww * hh) :
    Calls Try.prog 118 #[.agg #[.int .i64 ww, .int .i64 hh, .slice a R.length ca, .slice b C.length cb], .int .i64 c] w fun e w' => (∃ v, e = .returned v ∧ OwnI w' w.heap.size v (ints (nxTo ⟨ww, hh, R, C⟩ ww hh c 4))) ∧ Below w.heap.size w w' := by
  obtain ⟨t0, hi, hz0, hz1, hz2⟩ := info_parts iInfo
  have w1 := g.w1
  have w6 := g.w6
  have h1 := g.h1
  have h6 := g.h6
  have n36 := g.n36
  have hCl := Lib.hid (show C.length = ww * hh from g.C)
  have hCm : C.length ≤ maxLen := by have := hCl.out; unfold maxLen; omega
  have HC := Lib.hid (show ∀ i, i < ww * hh → 0 ≤ zAt C i from fun i hi => (g.cell i hi).2.2.1)
  have i0 : ∀ w, (Instr.index 140 (.agg #[.int .i64 0, .int .i64 (-1), .int .i64 (-1), .int .i64 0, .int .i64 1, .int .i64 0, .int .i64 0, .int .i64 1]) (.int .i64 0)).run Try.prog w = .ok (.agg #[.int .i64 0, .int .i64 (-1)]) w := fun _ => by kernel_rfl
  have i1 : ∀ w, (Instr.index 140 (.agg #[.int .i64 0, .int .i64 (-1), .int .i64 (-1), .int .i64 0, .int .i64 1, .int .i64 0, .int .i64 0, .int .i64 1]) (.int .i64 1)).run Try.prog w = .ok (.agg #[.int .i64 (-1), .int .i64 0]) w := fun _ => by kernel_rfl
  have i2 : ∀ w, (Instr.index 140 (.agg #[.int .i64 0, .int .i64 (-1), .int .i64 (-1), .int .i64 0, .int .i64 1, .int .i64 0, .int .i64 0, .int .i64 1]) (.int .i64 2)).run Try.prog w = .ok (.agg #[.int .i64 1, .int .i64 0]) w := fun _ => by kernel_rfl
  have i3 : ∀ w, (Instr.index 140 (.agg #[.int .i64 0, .int .i64 (-1), .int .i64 (-1), .int .i64 0, .int .i64 1, .int .i64 0, .int .i64 0, .int .i64 1]) (.int .i64 3)).run Try.prog w = .ok (.agg #[.int .i64 0, .int .i64 1]) w := fun _ => by kernel_rfl
  obtain ⟨x, hx⟩ : ∃ x, c % ww = x := ⟨_, rfl⟩
  obtain ⟨y, hy⟩ : ∃ y, c / ww = y := ⟨_, rfl⟩
  have HA := Lib.hid (at_of w1 hl hx hy)
  have xw := HA.out.xw
  have yh := HA.out.yh
  obtain ⟨d1, d2⟩ := dm ww c x y hx hy
  clear hx hy g
  go_enter Try.func118, Try.ntmps118
  go_wp2
  go_loopw [19, 6] (fun i l wr => ∃ k : Nat, k ≤ 4 ∧ i = .int .i64 k ∧ Fnd w ww hh R C a b ca cb c k l wr) (fun i _ _ => 4 - (intOf i).toNat)
  case atStart =>
    refine ⟨0, by omega, rfl, ?_, ((Blk.new w 26 _).alloc _).alloc _, (((Below.refl _ _).alloc (Nat.le_refl _) _).alloc (by simp) _).alloc (by simp; omega) _⟩
    have := World.ownsRow_made (e := 3) (size := 1) (base := w.heap.size + 1 + 1) ((w.alloc (.cells #[.int .i64 ww, .int .i64 hh, .slice a R.length ca, .slice b C.length cb] 26)).alloc (.cells #[.int .i64 0, .int .i64 (-1), .int .i64 (-1), .int .i64 0, .int .i64 1, .int .i64 0, .int .i64 0, .int .i64 1] 140)) #[] 0 (by simp) (Nat.zero_le _) rfl
    simpa [nxTo, ints] using this
  case round =>
    obtain ⟨k, hk, hik, hF⟩ := hrel
    have HF := Lib.hid hF
    obtain ⟨p0, p1, p2, p3, -⟩ := hF.2.1.four
    have hz := hF.2.1.lt
    have hlen := nxTo_length ⟨ww, hh, R, C⟩ ww hh c k
    clear hF
    by_cases e4 : k = 4
    · subst e4
      replace hik : _ = Value.int .i64 4 := hik
      subst hik
      go_wp2
      go_ret
      have ho := rebase HF.out.1 (b' := w.heap.size) (by omega)
      rw [← ints_length] at ho
      exact ⟨⟨_, rfl, ho⟩, HF.out.2.2⟩
    by_cases e0 : k = 0
    · subst e0
      replace hik : _ = Value.int .i64 0 := hik
      subst hik
      by_cases hin : 0 < y
      · obtain ⟨d, hd, hdl, hde, hd1, hd2⟩ := dir0 HA.out hin
        have ir1 : 0 ≤ (y : Int) + -1 := by omega
        have ir2 : (y : Int) + -1 < hh := by omega
        have hdC : d < C.length := by have := hCl.out; omega
        by_cases ho : zAt C d = 0
        · have HS := Lib.hid (nxTo_shut (m := ⟨ww, hh, R, C⟩) hd ho)
          have HO := Lib.hid ho
          clear hd ho
          go_wp2
          go_quiet (fail)
          go_wp2_with fail
          refine (forb_yes ⟨ww, hh, R, C⟩ a b ca cb d _ (RowAt.below hc (HF.out.2.2.trans ((bAD wr _ _).mono HF.out.2.2.size))) hdC hCm HO.out).mono ?_
          rintro e w2 ⟨rfl, hb2⟩
          have HF2 := Lib.hid (HF.out.step HS.out ((bAD wr _ _).trans (hb2.mono (by simp))))
          clear hb2
          go_wp2
          go_roundw
          case rel => exact ⟨1, by omega, rfl, HF2.out⟩
          case measure => simp [intOf]
        · have hpos : 0 < zAt C d := by have := HC.out d hdl; omega
          have HS := Lib.hid (nxTo_open (m := ⟨ww, hh, R, C⟩) hd hpos)
          have HO := Lib.hid ho
          clear hd ho hpos
          go_wp2
          go_quiet (fail)
          go_wp2_with fail
          refine (forb_no ⟨ww, hh, R, C⟩ a b ca cb d _ (RowAt.below hc (HF.out.2.2.trans ((bAD wr _ _).mono HF.out.2.2.size))) hdC hCm HO.out).mono ?_
          rintro e w2 ⟨rfl, hb2⟩
          have HB2 := Lib.hid ((bAD wr _ _).trans (hb2.mono (by simp)))
          have hown := owns_below HF.out.1 HB2.out
          have hzw := HB2.out.size
          clear hb2
          go_wp2_with (at_builtin; refine wpList_append_own _ rfl (.tmp 64) (.tmp 66) 24 rfl (w.heap.size + 1 + 1) 3 t0 (.int .i64 0) 1 8 Try.underlying24 hi hz0 hz1 hz2 rfl (by decide) _ _ _ rfl (hown.alloc _) ⟨w2.heap.size, 0, none⟩ 1 1 [.int .i64 d] rfl rfl (cell_one_new _ _ _) (by simp [Value.oneCell']) (by unfold maxLen; omega) (by omega) (by simp; omega) ?_; intro v' w3 hown3 hgrow _)
          have HF2 := Lib.hid (HF.out.put HS.out (HB2.out.trans ((Below.refl _ _).alloc (Nat.le_refl _) _ |>.mono hzw)) hown3 hgrow)
          clear hown hown3 hgrow
          go_wp2
          go_roundw
          case rel => exact ⟨1, by omega, rfl, HF2.out⟩
          case measure => simp [intOf]
      · have HS := Lib.hid (nxTo_none (m := ⟨ww, hh, R, C⟩) (dir_none0 HA.out hin))
        have ir1 : (y : Int) + -1 < 0 := by omega
        go_wp2
        go_quiet (fail)
        go_wp2
        go_roundw
        case rel => exact ⟨1, by omega, rfl, HF.out.step HS.out (bAD wr _ _)⟩
        case measure => simp [intOf]
    by_cases e1 : k = 1
    · subst e1
      replace hik : _ = Value.int .i64 1 := hik
      subst hik
      by_cases hin : 0 < x
      · obtain ⟨d, hd, hdl, hde, hd1, hd2⟩ := dir1 HA.out hin
        have ir1 : 0 ≤ (x : Int) + -1 := by omega
        have ir2 : (x : Int) + -1 < ww := by omega
        have hdC : d < C.length := by have := hCl.out; omega
        by_cases ho : zAt C d = 0
        · have HS := Lib.hid (nxTo_shut (m := ⟨ww, hh, R, C⟩) hd ho)
          have HO := Lib.hid ho
          clear hd ho
          go_wp2
          go_quiet (fail)
          go_wp2_with fail
          refine (forb_yes ⟨ww, hh, R, C⟩ a b ca cb d _ (RowAt.below hc (HF.out.2.2.trans ((bAD wr _ _).mono HF.out.2.2.size))) hdC hCm HO.out).mono ?_
          rintro e w2 ⟨rfl, hb2⟩
          have HF2 := Lib.hid (HF.out.step HS.out ((bAD wr _ _).trans (hb2.mono (by simp))))
          clear hb2
          go_wp2
          go_roundw
          case rel => exact ⟨2, by omega, rfl, HF2.out⟩
          case measure => simp [intOf]
        · have hpos : 0 < zAt C d := by have := HC.out d hdl; omega
          have HS := Lib.hid (nxTo_open (m := ⟨ww, hh, R, C⟩) hd hpos)
          have HO := Lib.hid ho
          clear hd ho hpos
          go_wp2
          go_quiet (fail)
          go_wp2_with fail
          refine (forb_no ⟨ww, hh, R, C⟩ a b ca cb d _ (RowAt.below hc (HF.out.2.2.trans ((bAD wr _ _).mono HF.out.2.2.size))) hdC hCm HO.out).mono ?_
          rintro e w2 ⟨rfl, hb2⟩
          have HB2 := Lib.hid ((bAD wr _ _).trans (hb2.mono (by simp)))
          have hown := owns_below HF.out.1 HB2.out
          have hzw := HB2.out.size
          clear hb2
          go_wp2_with (at_builtin; refine wpList_append_own _ rfl (.tmp 64) (.tmp 66) 24 rfl (w.heap.size + 1 + 1) 3 t0 (.int .i64 0) 1 8 Try.underlying24 hi hz0 hz1 hz2 rfl (by decide) _ _ _ rfl (hown.alloc _) ⟨w2.heap.size, 0, none⟩ 1 1 [.int .i64 d] rfl rfl (cell_one_new _ _ _) (by simp [Value.oneCell']) (by unfold maxLen; omega) (by omega) (by simp; omega) ?_; intro v' w3 hown3 hgrow _)
          have HF2 := Lib.hid (HF.out.put HS.out (HB2.out.trans ((Below.refl _ _).alloc (Nat.le_refl _) _ |>.mono hzw)) hown3 hgrow)
          clear hown hown3 hgrow
          go_wp2
          go_roundw
          case rel => exact ⟨2, by omega, rfl, HF2.out⟩
          case measure => simp [intOf]
      · have HS := Lib.hid (nxTo_none (m := ⟨ww, hh, R, C⟩) (dir_none1 HA.out hin))
        have ir1 : (x : Int) + -1 < 0 := by omega
        go_wp2
        go_quiet (fail)
        go_wp2
        go_roundw
        case rel => exact ⟨2, by omega, rfl, HF.out.step HS.out (bAD wr _ _)⟩
        case measure => simp [intOf]
    by_cases e2 : k = 2
    · subst e2
      replace hik : _ = Value.int .i64 2 := hik
      subst hik
      by_cases hin : x + 1 < ww
      · obtain ⟨d, hd, hdl, hde, hd1, hd2⟩ := dir2 HA.out hin
        have ir1 : (x : Int) + 1 < ww := by omega
        have ir2 : 0 ≤ (x : Int) + 1 := by omega
        have hdC : d < C.length := by have := hCl.out; omega
        by_cases ho : zAt C d = 0
        · have HS := Lib.hid (nxTo_shut (m := ⟨ww, hh, R, C⟩) hd ho)
          have HO := Lib.hid ho
          clear hd ho
          go_wp2
          go_quiet (fail)
          go_wp2_with fail
          refine (forb_yes ⟨ww, hh, R, C⟩ a b ca cb d _ (RowAt.below hc (HF.out.2.2.trans ((bAD wr _ _).mono HF.out.2.2.size))) hdC hCm HO.out).mono ?_
          rintro e w2 ⟨rfl, hb2⟩
          have HF2 := Lib.hid (HF.out.step HS.out ((bAD wr _ _).trans (hb2.mono (by simp))))
          clear hb2
          go_wp2
          go_roundw
          case rel => exact ⟨3, by omega, rfl, HF2.out⟩
          case measure => simp [intOf]
        · have hpos : 0 < zAt C d := by have := HC.out d hdl; omega
          have HS := Lib.hid (nxTo_open (m := ⟨ww, hh, R, C⟩) hd hpos)
          have HO := Lib.hid ho
          clear hd ho hpos
          go_wp2
          go_quiet (fail)
          go_wp2_with fail
          refine (forb_no ⟨ww, hh, R, C⟩ a b ca cb d _ (RowAt.below hc (HF.out.2.2.trans ((bAD wr _ _).mono HF.out.2.2.size))) hdC hCm HO.out).mono ?_
          rintro e w2 ⟨rfl, hb2⟩
          have HB2 := Lib.hid ((bAD wr _ _).trans (hb2.mono (by simp)))
          have hown := owns_below HF.out.1 HB2.out
          have hzw := HB2.out.size
          clear hb2
          go_wp2_with (at_builtin; refine wpList_append_own _ rfl (.tmp 64) (.tmp 66) 24 rfl (w.heap.size + 1 + 1) 3 t0 (.int .i64 0) 1 8 Try.underlying24 hi hz0 hz1 hz2 rfl (by decide) _ _ _ rfl (hown.alloc _) ⟨w2.heap.size, 0, none⟩ 1 1 [.int .i64 d] rfl rfl (cell_one_new _ _ _) (by simp [Value.oneCell']) (by unfold maxLen; omega) (by omega) (by simp; omega) ?_; intro v' w3 hown3 hgrow _)
          have HF2 := Lib.hid (HF.out.put HS.out (HB2.out.trans ((Below.refl _ _).alloc (Nat.le_refl _) _ |>.mono hzw)) hown3 hgrow)
          clear hown hown3 hgrow
          go_wp2
          go_roundw
          case rel => exact ⟨3, by omega, rfl, HF2.out⟩
          case measure => simp [intOf]
      · have HS := Lib.hid (nxTo_none (m := ⟨ww, hh, R, C⟩) (dir_none2 HA.out hin))
        have ir1 : (ww : Int) ≤ (x : Int) + 1 := by omega
        go_wp2
        go_quiet (fail)
        go_wp2
        go_roundw
        case rel => exact ⟨3, by omega, rfl, HF.out.step HS.out (bAD wr _ _)⟩
        case measure => simp [intOf]
    by_cases e3 : k = 3
    · subst e3
      replace hik : _ = Value.int .i64 3 := hik
      subst hik
      by_cases hin : y + 1 < hh
      · obtain ⟨d, hd, hdl, hde, hd1, hd2⟩ := dir3 HA.out hin
        have ir1 : (y : Int) + 1 < hh := by omega
        have ir2 : 0 ≤ (y : Int) + 1 := by omega
        have hdC : d < C.length := by have := hCl.out; omega
        by_cases ho : zAt C d = 0
        · have HS := Lib.hid (nxTo_shut (m := ⟨ww, hh, R, C⟩) hd ho)
          have HO := Lib.hid ho
          clear hd ho
          go_wp2
          go_quiet (fail)
          go_wp2_with fail
          refine (forb_yes ⟨ww, hh, R, C⟩ a b ca cb d _ (RowAt.below hc (HF.out.2.2.trans ((bAD wr _ _).mono HF.out.2.2.size))) hdC hCm HO.out).mono ?_
          rintro e w2 ⟨rfl, hb2⟩
          have HF2 := Lib.hid (HF.out.step HS.out ((bAD wr _ _).trans (hb2.mono (by simp))))
          clear hb2
          go_wp2
          go_roundw
          case rel => exact ⟨4, by omega, rfl, HF2.out⟩
          case measure => simp [intOf]
        · have hpos : 0 < zAt C d := by have := HC.out d hdl; omega
          have HS := Lib.hid (nxTo_open (m := ⟨ww, hh, R, C⟩) hd hpos)
          have HO := Lib.hid ho
          clear hd ho hpos
          go_wp2
          go_quiet (fail)
          go_wp2_with fail
          refine (forb_no ⟨ww, hh, R, C⟩ a b ca cb d _ (RowAt.below hc (HF.out.2.2.trans ((bAD wr _ _).mono HF.out.2.2.size))) hdC hCm HO.out).mono ?_
          rintro e w2 ⟨rfl, hb2⟩
          have HB2 := Lib.hid ((bAD wr _ _).trans (hb2.mono (by simp)))
          have hown := owns_below HF.out.1 HB2.out
          have hzw := HB2.out.size
          clear hb2
          go_wp2_with (at_builtin; refine wpList_append_own _ rfl (.tmp 64) (.tmp 66) 24 rfl (w.heap.size + 1 + 1) 3 t0 (.int .i64 0) 1 8 Try.underlying24 hi hz0 hz1 hz2 rfl (by decide) _ _ _ rfl (hown.alloc _) ⟨w2.heap.size, 0, none⟩ 1 1 [.int .i64 d] rfl rfl (cell_one_new _ _ _) (by simp [Value.oneCell']) (by unfold maxLen; omega) (by omega) (by simp; omega) ?_; intro v' w3 hown3 hgrow _)
          have HF2 := Lib.hid (HF.out.put HS.out (HB2.out.trans ((Below.refl _ _).alloc (Nat.le_refl _) _ |>.mono hzw)) hown3 hgrow)
          clear hown hown3 hgrow
          go_wp2
          go_roundw
          case rel => exact ⟨4, by omega, rfl, HF2.out⟩
          case measure => simp [intOf]
      · have HS := Lib.hid (nxTo_none (m := ⟨ww, hh, R, C⟩) (dir_none3 HA.out hin))
        have ir1 : (hh : Int) ≤ (y : Int) + 1 := by omega
        go_wp2
        go_quiet (fail)
        go_wp2
        go_roundw
        case rel => exact ⟨4, by omega, rfl, HF.out.step HS.out (bAD wr _ _)⟩
        case measure => simp [intOf]
    omega

end Go.Proofs.Ytdfmfmndmldggaa.Next

namespace Go.Proofs.Ytdfmfmndmldggaa.Lb
set_option linter.unusedVariables false

/-- The places next to a cell, as far as looked at. -/
def nearTo (w h c : Nat) : Nat → List Nat
  | 0 => []
  | k + 1 => nearTo w h c k ++ dirL w h c k
theorem nearTo_all (w h c : Nat) : nearTo w h c 4 = near w h c := by simp [nearTo, dirL, near]
theorem dirL_length (w h c k : Nat) : (dirL w h c k).length ≤ 1 := by
  unfold dirL upL lfL rtL dnL
  split <;> split <;> simp
theorem nearTo_length (w h c k : Nat) : (nearTo w h c k).length ≤ k := by
  induction k with
  | zero => simp [nearTo]
  | succ k ih =>
    rw [nearTo, List.length_append]
    have := dirL_length w h c k
    omega
theorem nearTo_none {w h c k : Nat} (h0 : dirL w h c k = []) : nearTo w h c (k + 1) = nearTo w h c k := by rw [nearTo, h0]; simp
theorem nearTo_one {w h c k d : Nat} (h0 : dirL w h c k = [d]) : nearTo w h c (k + 1) = nearTo w h c k ++ [d] := by rw [nearTo, h0]
/-- As the model reckons them. -/
theorem mdir0 {w h c x y : Nat} (A : At w h c x y) (hy : 0 < y) : ∃ d : Nat, dirL w h c 0 = [d] ∧ (c : Int) - (w : Int) = (d : Int) := by
  have e3 : c / w = y := by rw [A.c, div_mk A.xw]
  have hwc : w ≤ c := by
    have := mul_le (show 1 ≤ y from hy) (Nat.le_refl w)
    have := A.c
    omega
  refine ⟨c - w, ?_, by omega⟩
  show upL w c = _
  unfold upL
  rw [e3, if_pos hy]
theorem mdir1 {w h c x y : Nat} (A : At w h c x y) (hx : 0 < x) : ∃ d : Nat, dirL w h c 1 = [d] ∧ (c : Int) - 1 = (d : Int) := by
  have e3 : c % w = x := by rw [A.c, mod_mk A.xw]
  have := A.c
  refine ⟨c - 1, ?_, by omega⟩
  show lfL w c = _
  unfold lfL
  rw [e3, if_pos hx]
theorem mdir2 {w h c x y : Nat} (A : At w h c x y) (hx : x + 1 < w) : ∃ d : Nat, dirL w h c 2 = [d] ∧ (c : Int) + 1 = (d : Int) := by
  have e3 : c % w = x := by rw [A.c, mod_mk A.xw]
  refine ⟨c + 1, ?_, by omega⟩
  show rtL w c = _
  unfold rtL
  rw [e3, if_pos hx]
theorem mdir3 {w h c x y : Nat} (A : At w h c x y) (hy : y + 1 < h) : ∃ d : Nat, dirL w h c 3 = [d] ∧ (c : Int) + (w : Int) = (d : Int) := by
  have e3 : c / w = y := by rw [A.c, div_mk A.xw]
  refine ⟨c + w, ?_, by omega⟩
  show dnL w h c = _
  unfold dnL
  rw [e3, if_pos hy]
theorem near_lt {w h c : Nat} (hw : 1 ≤ w) (hc : c < w * h) (j : Nat) (hj : j < (near w h c).length) : (near w h c).getD j 0 < w * h :=
  ((mem_near hw hc).1 (by simp [hj] : (near w h c).getD j 0 ∈ near w h c)).1
theorem zAt_ints (l : List Nat) (j : Nat) (hj : j < l.length) : zAt (ints l) j = ((l.getD j 0 : Nat) : Int) := by simp [zAt, ints, hj]
theorem filter_yes {p : Nat → Bool} {l : List Nat} {j : Nat} (hj : j < l.length) (h : p (l.getD j 0) = true) : (l.take (j + 1)).filter p = (l.take j).filter p ++ [l.getD j 0] := by
  rw [take_succ_getD l 0 j hj, List.filter_append, List.filter_cons, if_pos h]; rfl
theorem filter_no {p : Nat → Bool} {l : List Nat} {j : Nat} (hj : j < l.length) (h : p (l.getD j 0) = false) : (l.take (j + 1)).filter p = (l.take j).filter p := by
  rw [take_succ_getD l 0 j hj, List.filter_append, List.filter_cons, if_neg (by rw [h]; simp)]; simp

end Go.Proofs.Ytdfmfmndmldggaa.Lb

namespace Go.Proofs.Ytdfmfmndmldggaa.NextS
open Go.RowKit Lb IntS MapS MapV High
open Go.Proofs.Ytdfmfmndmldggaa.Next (below_drewN bAD)
set_option linter.unusedSimpArgs false
set_option linter.unusedVariables false

/-- The places as far as looked at, in a row of the call's own. -/
def Plc (w : World) (B : Nat) (cs : Array Value) (xs : List Nat) (l : Value) (wr : World) : Prop :=
  wr.ownsRow (w.heap.size + 1) 3 1 l xs.length ((ints xs).map (Value.int .i64)) ∧ Blk wr w.heap.size 26 cs ∧ Below w.heap.size w wr
theorem Plc.put {w : World} {B : Nat} {cs : Array Value} {xs : List Nat} {d : Nat} {l l' : Value} {wr w' : World} {o : Obj} (h : Plc w B cs xs l wr)
    (ho : w'.ownsRow (w.heap.size + 1) 3 1 l' (xs.length + 1) ((ints xs).map (Value.int .i64) ++ [.int .i64 d])) (hg : (wr.alloc o).grownBy w' l.ownBlock) : Plc w B cs (xs ++ [d]) l' w' := by
  obtain ⟨h1, h2, h3⟩ := h
  have hlt := h1.lt
  have h4 := h3.alloc h3.size o
  refine ⟨?_, ?_, h4.grown hg h4.size (fun q e => by have := (hlt q e).1; omega)⟩
  · have e1 : (xs ++ [d]).length = xs.length + 1 := by simp
    have e2 : (ints (xs ++ [d])).map (Value.int .i64) = (ints xs).map (Value.int .i64) ++ [.int .i64 d] := by simp [ints]
    rw [e1, e2]; exact ho
  · have h5 := h2.alloc o
    refine (hg.block w.heap.size h5.lt (fun e => ?_)).trans h5
    have := (hlt w.heap.size e.symm).1
    omega
/-- The filtered places, beside what was there. -/
def Flt (wc : World) (xs : List Nat) (l : Value) (wr : World) : Prop :=
  wr.ownsRow wc.heap.size 3 1 l xs.length ((ints xs).map (Value.int .i64)) ∧ Below wc.heap.size wc wr
theorem Flt.put {wc : World} {xs : List Nat} {d : Nat} {l l' : Value} {wr w' : World} {o : Obj} (h : Flt wc xs l wr)
    (ho : w'.ownsRow wc.heap.size 3 1 l' (xs.length + 1) ((ints xs).map (Value.int .i64) ++ [.int .i64 d])) (hg : (wr.alloc o).grownBy w' l.ownBlock) : Flt wc (xs ++ [d]) l' w' := by
  obtain ⟨h1, h3⟩ := h
  have hlt := h1.lt
  have h4 := h3.alloc h3.size o
  refine ⟨?_, h4.grown hg h4.size (fun q e => (hlt q e).1)⟩
  have e1 : (xs ++ [d]).length = xs.length + 1 := by simp
  have e2 : (ints (xs ++ [d])).map (Value.int .i64) = (ints xs).map (Value.int .i64) ++ [.int .i64 d] := by simp [ints]
  rw [e1, e2]; exact ho
theorem Flt.drewN {wc : World} {xs : List Nat} {l : Value} {wr : World} (h : Flt wc xs l wr) (n : Nat) : Flt wc xs l (wr.drewN n) := ⟨h.1, below_drewN h.2 n⟩

set_option maxRecDepth 100000 in
set_option maxHeartbeats 4000000 in
theorem spec_raw (ww hh : Nat) (R C : List Int) (a b : Option Addr) (ca cb : Nat) (c : Nat) (w : World) (g : GoodM ⟨ww, hh, R, C⟩ ww hh) (hc : IRow w b C) (hl : c < ww * hh) :
    Calls Try.prog 114 #[.agg #[.int .i64 ww, .int .i64 hh, .slice a R.length ca, .slice b C.length cb], .int .i64 c] w fun e w' => (∃ v, e = .returned v ∧ OwnI w' w.heap.size v (ints (nx ⟨ww, hh, R, C⟩ c))) ∧ Below w.heap.size w w' := by
  obtain ⟨t0, hi, hz0, hz1, hz2⟩ := info_parts iInfo
  have w1 := g.w1
  have w6 := g.w6
  have h1 := g.h1
  have h6 := g.h6
  have n36 := g.n36
  have hCl := Lib.hid (show C.length = ww * hh from g.C)
  have hNX := Lib.hid (nx_eq g c)
  obtain ⟨x, hx⟩ : ∃ x, c % ww = x := ⟨_, rfl⟩
  obtain ⟨y, hy⟩ : ∃ y, c / ww = y := ⟨_, rfl⟩
  have HA := Lib.hid (at_of w1 hl hx hy)
  have xw := HA.out.xw
  have yh := HA.out.yh
  obtain ⟨d1, d2⟩ := dm ww c x y hx hy
  clear hx hy g
  go_enter Try.func114, Try.ntmps114
  go_upto_region 2 with (fail)
  go_cut [5, 6, 7] from 10 (fun l sx sy wx => sx = .int .i64 x ∧ sy = .int .i64 y ∧ Plc w 0 #[.int .i64 ww, .int .i64 hh, .slice a R.length ca, .slice b C.length cb] (nearTo ww hh c 0) l wx)
  case first =>
    go_quiet (fail)
    go_wp2
    go_meet
    refine ⟨(by first | rfl | rw [d1]), (by first | rfl | rw [d2]), ?_, (Blk.new w 26 _).alloc _, below_drewN (((Below.refl _ _).alloc (Nat.le_refl _) _).alloc (by simp) _) _⟩
    have := World.ownsRow_made (e := 3) (size := 1) (base := w.heap.size + 1) (w.alloc (.cells #[.int .i64 ww, .int .i64 hh, .slice a R.length ca, .slice b C.length cb] 26)) #[] 0 (by simp) (Nat.zero_le _) rfl
    rw [World.size_alloc] at this
    exact this
  case rest =>
  obtain ⟨rfl, rfl, hP⟩ := hcut
  have HP := Lib.hid hP
  clear hP
  obtain ⟨p0, p1, p2, p3, -⟩ := HP.out.2.1.four
  go_upto_if 20 with (fail)
  go_cut [5] from 10 (fun l wx => Plc w 0 #[.int .i64 ww, .int .i64 hh, .slice a R.length ca, .slice b C.length cb] (nearTo ww hh c 1) l wx)
  case first =>
    by_cases hin : 0 < y
    · obtain ⟨d, hd, hde⟩ := mdir0 HA.out hin
      have HS := Lib.hid (nearTo_one hd)
      have ir1 : 0 < (y : Int) := by omega
      have hlen := nearTo_length ww hh c 0
      have hown := HP.out.1
      have hzw := HP.out.2.2.size
      clear hd
      go_wp2_with (at_builtin; refine wpList_append_own _ rfl (.tmp 21) (.tmp 26) 24 rfl (w.heap.size + 1) 3 t0 (.int .i64 0) 1 8 Try.underlying24 hi hz0 hz1 hz2 rfl (by decide) _ _ _ rfl (hown.alloc _) ⟨_, 0, none⟩ 1 1 [.int .i64 d] rfl rfl (cell_one_new _ _ _) (by simp [Value.oneCell']) (by unfold maxLen; omega) (by omega) (by simp <;> omega) ?_; intro v' w3 hown3 hgrow _)
      have HP2 := Lib.hid (HP.out.put hown3 hgrow)
      clear hown hown3 hgrow
      go_wp2_with fail
      go_meet
      rw [HS.out]
      exact HP2.out
    · have HS := Lib.hid (nearTo_none (dir_none0 HA.out hin))
      have ir1 : (y : Int) ≤ 0 := by omega
      go_wp2_with fail
      go_meet
      rw [HS.out]
      exact HP.out
  case rest =>
  clear HP p0 p1 p2 p3
  have HP := Lib.hid hcut
  clear hcut
  obtain ⟨p0, p1, p2, p3, -⟩ := HP.out.2.1.four
  go_upto_if 29 with (fail)
  go_cut [5] from 10 (fun l wx => Plc w 0 #[.int .i64 ww, .int .i64 hh, .slice a R.length ca, .slice b C.length cb] (nearTo ww hh c 2) l wx)
  case first =>
    by_cases hin : 0 < x
    · obtain ⟨d, hd, hde⟩ := mdir1 HA.out hin
      have HS := Lib.hid (nearTo_one hd)
      have ir1 : 0 < (x : Int) := by omega
      have hlen := nearTo_length ww hh c 1
      have hown := HP.out.1
      have hzw := HP.out.2.2.size
      clear hd
      go_wp2_with (at_builtin; refine wpList_append_own _ rfl (.tmp 30) (.tmp 33) 24 rfl (w.heap.size + 1) 3 t0 (.int .i64 0) 1 8 Try.underlying24 hi hz0 hz1 hz2 rfl (by decide) _ _ _ rfl (hown.alloc _) ⟨_, 0, none⟩ 1 1 [.int .i64 d] rfl rfl (cell_one_new _ _ _) (by simp [Value.oneCell']) (by unfold maxLen; omega) (by omega) (by simp <;> omega) ?_; intro v' w3 hown3 hgrow _)
      have HP2 := Lib.hid (HP.out.put hown3 hgrow)
      clear hown hown3 hgrow
      go_wp2_with fail
      go_meet
      rw [HS.out]
      exact HP2.out
    · have HS := Lib.hid (nearTo_none (dir_none1 HA.out hin))
      have ir1 : (x : Int) ≤ 0 := by omega
      go_wp2_with fail
      go_meet
      rw [HS.out]
      exact HP.out
  case rest =>
  clear HP p0 p1 p2 p3
  have HP := Lib.hid hcut
  clear hcut
  obtain ⟨p0, p1, p2, p3, -⟩ := HP.out.2.1.four
  go_upto_if 39 with (fail)
  go_cut [5] from 10 (fun l wx => Plc w 0 #[.int .i64 ww, .int .i64 hh, .slice a R.length ca, .slice b C.length cb] (nearTo ww hh c 3) l wx)
  case first =>
    by_cases hin : x + 1 < ww
    · obtain ⟨d, hd, hde⟩ := mdir2 HA.out hin
      have HS := Lib.hid (nearTo_one hd)
      have ir1 : (x : Int) + 1 < ww := by omega
      have hlen := nearTo_length ww hh c 2
      have hown := HP.out.1
      have hzw := HP.out.2.2.size
      clear hd
      go_wp2_with (at_builtin; refine wpList_append_own _ rfl (.tmp 40) (.tmp 43) 24 rfl (w.heap.size + 1) 3 t0 (.int .i64 0) 1 8 Try.underlying24 hi hz0 hz1 hz2 rfl (by decide) _ _ _ rfl (hown.alloc _) ⟨_, 0, none⟩ 1 1 [.int .i64 d] rfl rfl (cell_one_new _ _ _) (by simp [Value.oneCell']) (by unfold maxLen; omega) (by omega) (by simp <;> omega) ?_; intro v' w3 hown3 hgrow _)
      have HP2 := Lib.hid (HP.out.put hown3 hgrow)
      clear hown hown3 hgrow
      go_wp2_with fail
      go_meet
      rw [HS.out]
      exact HP2.out
    · have HS := Lib.hid (nearTo_none (dir_none2 HA.out hin))
      have ir1 : (ww : Int) ≤ (x : Int) + 1 := by omega
      go_wp2_with fail
      go_meet
      rw [HS.out]
      exact HP.out
  case rest =>
  clear HP p0 p1 p2 p3
  have HP := Lib.hid hcut
  clear hcut
  obtain ⟨p0, p1, p2, p3, -⟩ := HP.out.2.1.four
  go_upto_if 49 with (fail)
  go_cut [5] from 10 (fun l wx => Plc w 0 #[.int .i64 ww, .int .i64 hh, .slice a R.length ca, .slice b C.length cb] (nearTo ww hh c 4) l wx)
  case first =>
    by_cases hin : y + 1 < hh
    · obtain ⟨d, hd, hde⟩ := mdir3 HA.out hin
      have HS := Lib.hid (nearTo_one hd)
      have ir1 : (y : Int) + 1 < hh := by omega
      have hlen := nearTo_length ww hh c 3
      have hown := HP.out.1
      have hzw := HP.out.2.2.size
      clear hd
      go_wp2_with (at_builtin; refine wpList_append_own _ rfl (.tmp 50) (.tmp 55) 24 rfl (w.heap.size + 1) 3 t0 (.int .i64 0) 1 8 Try.underlying24 hi hz0 hz1 hz2 rfl (by decide) _ _ _ rfl (hown.alloc _) ⟨_, 0, none⟩ 1 1 [.int .i64 d] rfl rfl (cell_one_new _ _ _) (by simp [Value.oneCell']) (by unfold maxLen; omega) (by omega) (by simp <;> omega) ?_; intro v' w3 hown3 hgrow _)
      have HP2 := Lib.hid (HP.out.put hown3 hgrow)
      clear hown hown3 hgrow
      go_wp2_with fail
      go_meet
      rw [HS.out]
      exact HP2.out
    · have HS := Lib.hid (nearTo_none (dir_none3 HA.out hin))
      have ir1 : (hh : Int) ≤ (y : Int) + 1 := by omega
      go_wp2_with fail
      go_meet
      rw [HS.out]
      exact HP.out
  case rest =>
  clear HP p0 p1 p2 p3
  have HP := Lib.hid hcut
  clear hcut
  obtain ⟨xs, hxs⟩ : ∃ xs, nearTo ww hh c 4 = xs := ⟨_, rfl⟩
  have HN := Lib.hid (show xs = near ww hh c from by rw [← hxs, nearTo_all])
  have hx4 : xs.length ≤ 4 := by rw [← hxs]; exact nearTo_length ww hh c 4
  have HXl := Lib.hid (show ∀ j, j < xs.length → xs.getD j 0 < ww * hh from fun j hj => by rw [HN.out] at hj ⊢; exact near_lt w1 hl j hj)
  have ho5 := HP.out.1
  have HK := Lib.hid HP.out.2.1
  have HB := Lib.hid HP.out.2.2
  rw [hxs] at ho5
  clear HP hxs
  obtain ⟨a5, c5, e5, r5, k5⟩ := OwnI.slice (w := wc) (base := w.heap.size + 1) (zs := ints xs) (by unfold OwnI; rw [ints_length]; exact ho5)
  rw [ints_length] at e5
  subst e5
  have HR := Lib.hid r5
  have hzc := HB.out.size
  clear ho5 r5 k5
  obtain ⟨p0, p1, p2, p3, -⟩ := HK.out.four
  go_wp2
  clear p0 p1 p2 p3
  go_loopw [9, 8] (fun i l wr => ∃ j : Nat, j ≤ xs.length ∧ i = .int .i64 j ∧ Flt wc ((xs.take j).filter (opn ⟨ww, hh, R, C⟩)) l wr) (fun i _ _ => xs.length - (intOf i).toNat)
  case atStart =>
    refine ⟨0, Nat.zero_le _, rfl, ?_, (Below.refl _ _).alloc (Nat.le_refl _) _⟩
    exact World.ownsRow_made (e := 3) (size := 1) wc #[] 0 (Nat.le_refl _) (Nat.zero_le _) rfl
  case round =>
    obtain ⟨j, hj, rfl, hF⟩ := hrel
    have HF := Lib.hid hF
    clear hF
    by_cases hlt : j < xs.length
    · have hd := HXl.out j hlt
      have hdC : xs.getD j 0 < C.length := by have := hCl.out; omega
      have e5 := zAt_ints xs j hlt
      rcases RowAt.below HR.out HF.out.2 with h0 | ⟨b5, off5, rfl, hc5⟩
      · rw [ints_length] at h0; omega
      rcases RowAt.below hc (HB.out.trans (HF.out.2.mono HB.out.size)) with h0 | ⟨b3, off3, rfl, hc3⟩
      · omega
      have g5 := hc5 j (by rw [ints_length]; exact hlt)
      simp only [e5] at g5
      have g3 := hc3 (xs.getD j 0) hdC
      have HK2 := HK.out.below HF.out.2 HK.out.lt
      obtain ⟨p0, p1, p2, p3, -⟩ := HK2.four
      obtain ⟨d, hdd⟩ : ∃ d, xs.getD j 0 = d := ⟨_, rfl⟩
      rw [hdd] at g5 g3 hd hdC
      have HD := Lib.hid hdd
      clear hc5 hc3 e5 hdd HK2
      have hzr := HF.out.2.size
      by_cases ho : 0 < zAt C d
      · have HS := Lib.hid (filter_yes (p := opn ⟨ww, hh, R, C⟩) hlt (by rw [HD.out]; simpa [opn] using ho))
        have hfl : ((xs.take j).filter (opn ⟨ww, hh, R, C⟩)).length ≤ 4 := Nat.le_trans (List.length_filter_le _ _) (by rw [List.length_take]; omega)
        go_wp2
        go_quiet (fail)
        have HFq := Lib.hid (HF.out.drewN nq)
        have hown := HFq.out.1
        go_wp2_with (at_builtin; refine wpList_append_own _ rfl (.tmp 73) (.tmp 78) 24 rfl wc.heap.size 3 t0 (.int .i64 0) 1 8 Try.underlying24 hi hz0 hz1 hz2 rfl (by decide) _ _ _ rfl (hown.alloc _) ⟨_, 0, none⟩ 1 1 [.int .i64 d] rfl rfl (cell_one_new _ _ _) (by simp [Value.oneCell']) (by unfold maxLen; omega) (by omega) (by simp <;> omega) ?_; intro v' w3 hown3 hgrow _)
        have HF2 := Lib.hid (HFq.out.put hown3 hgrow)
        clear hown hown3 hgrow
        go_wp2
        go_roundw
        case rel => exact ⟨j + 1, by omega, by go_num, by rw [HS.out, HD.out]; exact HF2.out⟩
        case measure => simp [intOf]; omega
      · have HS := Lib.hid (filter_no (p := opn ⟨ww, hh, R, C⟩) hlt (by rw [HD.out]; simpa [opn] using ho))
        have ho' : decide (0 < zAt C d) = false := by simpa using ho
        go_wp2
        go_quiet (fail)
        go_wp2
        go_roundw
        case rel => exact ⟨j + 1, by omega, by go_num, by rw [HS.out]; exact HF.out.drewN _⟩
        case measure => simp [intOf]; omega
    · obtain rfl : j = xs.length := by omega
      have ho := HF.out.1
      have hb := HF.out.2
      rw [List.take_length] at ho
      have ho := rebase ho (b' := w.heap.size) hzc
      go_wp2
      go_ret
      refine ⟨⟨_, rfl, ?_⟩, HB.out.trans (hb.mono hzc)⟩
      unfold OwnI
      rw [hNX.out, ints_length, ← HN.out]
      exact ho

end Go.Proofs.Ytdfmfmndmldggaa.NextS

namespace Go.Proofs.Ytdfmfmndmldggaa.Cells
open Go.RowKit Lb IntS MapS MapV High
open Go.Proofs.Ytdfmfmndmldggaa.Next (below_drewN bAD impl_raw)
open Go.Proofs.Ytdfmfmndmldggaa.NextS (spec_raw)
set_option linter.unusedSimpArgs false
set_option linter.unusedVariables false

theorem mp_eq {m : Mp} {ww hh : Nat} (g : GoodM m ww hh) : m = ⟨ww, hh, m.R, m.C⟩ := by
  have h1 := g.W
  have h2 := g.H
  cases m
  simp only at h1 h2
  subst h1 h2
  rfl

/-- The contract of the program's search, at a map. -/
theorem impl_next (m : Mp) (ww hh : Nat) (g : GoodM m ww hh) (a b : Option Addr) (ca cb : Nat) (c : Nat) (w : World) (hc : IRow w b m.C) (hl : c < ww * hh) :
    Calls Try.prog 118 #[.agg #[.int .i64 m.W, .int .i64 m.H, .slice a m.R.length ca, .slice b m.C.length cb], .int .i64 c] w fun e w' => (∃ v, e = .returned v ∧ OwnI w' w.heap.size v (ints (nx m c))) ∧ Below w.heap.size w w' := by
  have e := mp_eq g
  obtain ⟨W, H, R, C⟩ := m
  cases e
  have h := impl_raw ww hh R C a b ca cb c w g hc hl
  rw [nxTo_all g] at h
  exact h
theorem spec_next (m : Mp) (ww hh : Nat) (g : GoodM m ww hh) (a b : Option Addr) (ca cb : Nat) (c : Nat) (w : World) (hc : IRow w b m.C) (hl : c < ww * hh) :
    Calls Try.prog 114 #[.agg #[.int .i64 m.W, .int .i64 m.H, .slice a m.R.length ca, .slice b m.C.length cb], .int .i64 c] w fun e w' => (∃ v, e = .returned v ∧ OwnI w' w.heap.size v (ints (nx m c))) ∧ Below w.heap.size w w' := by
  have e := mp_eq g
  obtain ⟨W, H, R, C⟩ := m
  cases e
  exact spec_raw ww hh R C a b ca cb c w g hc hl

theorem cell_yes (m : Mp) (a b : Option Addr) (ca cb : Nat) (c : Nat) (w : World) (hl : c < m.C.length) (hm : m.C.length ≤ maxLen) :
    Calls Try.prog 146 #[.agg #[.int .i64 m.W, .int .i64 m.H, .slice a m.R.length ca, .slice b m.C.length cb], .int .i64 c] w fun e w' => e = .returned (.bool true) ∧ Below w.heap.size w w' := by
  unfold maxLen at hm
  go_enter Try.func146, Try.ntmps146
  go_wp2
  go_ret
  exact ⟨rfl, (Below.refl _ _).alloc (Nat.le_refl _) _⟩
theorem cell_no (m : Mp) (a b : Option Addr) (ca cb : Nat) (c : Int) (w : World) (hl : c < 0 ∨ (m.C.length : Int) ≤ c) (hm : m.C.length ≤ maxLen) :
    Calls Try.prog 146 #[.agg #[.int .i64 m.W, .int .i64 m.H, .slice a m.R.length ca, .slice b m.C.length cb], .int .i64 c] w fun e w' => e = .returned (.bool false) ∧ Below w.heap.size w w' := by
  unfold maxLen at hm
  by_cases h0 : c < 0
  · have h1 : decide (0 ≤ c) = false := by simpa using h0
    go_enter Try.func146, Try.ntmps146
    go_wp2
    go_ret
    exact ⟨rfl, (Below.refl _ _).alloc (Nat.le_refl _) _⟩
  · have h1 : decide (0 ≤ c) = true := by simpa using h0
    have h2 : decide (c < (m.C.length : Int)) = false := by simp; omega
    clear hl h0
    go_enter Try.func146, Try.ntmps146
    go_wp2
    go_ret
    exact ⟨rfl, (Below.refl _ _).alloc (Nat.le_refl _) _⟩

theorem scell (m : Mp) (ww hh : Nat) (g : GoodM m ww hh) (a b : Option Addr) (ca cb : Nat) (c : Int) (w : World) :
    Calls Try.prog 143 #[.agg #[.int .i64 m.W, .int .i64 m.H, .slice a m.R.length ca, .slice b m.C.length cb], .int .i64 c] w fun e w' => e = .returned (.bool (decide (0 ≤ c ∧ c < (ww * hh : Nat)))) ∧ Below w.heap.size w w' := by
  have e := mp_eq g
  obtain ⟨W, H, R, C⟩ := m
  cases e
  have w1 := g.w1
  have w6 := g.w6
  have h1 := g.h1
  have h6 := g.h6
  have n1 := g.n1
  have n36 := g.n36
  have hm : (ww : Int) * (hh : Int) = ((ww * hh : Nat) : Int) := by rw [Int.natCast_mul]
  have hm1 : 1 ≤ (ww : Int) * (hh : Int) := by omega
  have hm2 : (ww : Int) * (hh : Int) ≤ 36 := by omega
  clear g
  by_cases hin : 0 ≤ c ∧ c < ((ww * hh : Nat) : Int)
  · have H1 := Lib.hid hin.1
    have H2 := Lib.hid (show c ≤ (ww : Int) * (hh : Int) - 1 by omega)
    have H3 := Lib.hid (decide_eq_true hin)
    clear hin hm
    go_enter Try.func143, Try.ntmps143
    go_wp2_with fail
    refine (in_yes _ _ _ _ H1.out H2.out).mono ?_
    rintro e w' ⟨rfl, rfl⟩
    go_wp2
    go_ret
    exact ⟨ret_bool H3.out.symm, (Below.refl _ _).alloc (Nat.le_refl _) _⟩
  · have H1 := Lib.hid (show c < 0 ∨ (ww : Int) * (hh : Int) - 1 < c by omega)
    have H3 := Lib.hid (decide_eq_false hin)
    clear hin hm
    go_enter Try.func143, Try.ntmps143
    go_wp2_with fail
    refine (in_no _ _ _ _ H1.out).mono ?_
    rintro e w' ⟨rfl, rfl⟩
    go_wp2
    go_ret
    exact ⟨ret_bool H3.out.symm, (Below.refl _ _).alloc (Nat.le_refl _) _⟩

/-- A list of numbers and whether there is one. -/
def NPost (w : World) (zs : List Int) (ok : Bool) (e : Ending) (w' : World) : Prop := ∃ v, e = .returned (.tuple #[v, .bool ok]) ∧ OwnI w' w.heap.size v zs ∧ Below w.heap.size w w'
theorem ownI_nil (w w0 : World) (h : w0.heap.size ≤ w.heap.size) : OwnI (w.alloc (.cells #[] 3)) w0.heap.size (.slice (some ⟨w.heap.size, 0, none⟩) 0 0) [] :=
  World.ownsRow_made (e := 3) (size := 1) w #[] 0 h (Nat.zero_le _) rfl

end Go.Proofs.Ytdfmfmndmldggaa.Cells

namespace Go.Proofs.Ytdfmfmndmldggaa.StepT
open Go.RowKit Lb IntS MapS MapV High Cells
open Go.Proofs.Ytdfmfmndmldggaa.Next (below_drewN bAD)
set_option linter.unusedSimpArgs false
set_option linter.unusedVariables false

theorem cont_any (a : Option Addr) (cap : Nat) (zs : List Int) (x : Int) (w : World) (hr : IRow w a zs) (hl : zs.length ≤ 4) :
    Calls Try.prog 94 #[.slice a zs.length cap, .int .i64 x] w fun e w' => e = .returned (.bool (decide (x ∈ zs))) ∧ w' = w := by
  rcases hr with h0 | ⟨b, off, rfl, hc⟩
  · have e : zs = [] := List.eq_nil_of_length_eq_zero h0
    subst e
    have := Try.slices_Contains_int_empty a cap x w
    simpa using this
  · have := Try.slices_Contains_int b off zs.length cap zs x w (Nat.le_refl _) (by omega) hc
    rw [List.take_length] at this
    rwa [show zs.contains x = decide (x ∈ zs) from by simp] at this

set_option maxHeartbeats 1000000 in
theorem has_any (a : Option Addr) (cap : Nat) (zs : List Int) (x : Int) (w : World) (hr : IRow w a zs) (hl : zs.length ≤ maxLen) :
    Calls Try.prog 95 #[.slice a zs.length cap, .int .i64 x] w fun e w' => e = .returned (.bool (decide (x ∈ zs))) ∧ w' = w := by
  unfold maxLen at hl
  go_enter Try.func95, Try.ntmps95
  go_wp2
  go_loop [5] (fun i => ∃ k : Nat, k ≤ zs.length ∧ i = .int .i64 k ∧ ∀ j, j < k → zAt zs j ≠ x) (fun i => zs.length - (intOf i).toNat)
  case atStart => exact ⟨0, Nat.zero_le _, rfl, fun j h => by omega⟩
  case round =>
    obtain ⟨k, hk, rfl, hno⟩ := hrel
    by_cases hlt : k < zs.length
    · rcases hr with h0 | ⟨b, off, rfl, hc⟩
      · omega
      have g := hc k hlt
      clear hc
      by_cases he : zAt zs k = x
      · have hb : (zAt zs k == x) = true := by simpa using he
        have HH := Lib.hid (show decide (x ∈ zs) = true from by
          rw [decide_eq_true_iff, ← he]
          simp [zAt, hlt])
        clear hno he
        go_wp2
        go_ret
        exact ⟨ret_bool HH.out.symm, rfl⟩
      · have hb : (zAt zs k == x) = false := by simpa using he
        have HN := Lib.hid (all_succ (p := fun j => zAt zs j ≠ x) hno he)
        clear hno he
        go_wp2
        go_round
        case rel => exact ⟨k + 1, by omega, by go_num, HN.out⟩
        case measure => simp [intOf]; omega
    · have HH := Lib.hid (show decide (x ∈ zs) = false from by
        rw [decide_eq_false_iff_not]
        intro h
        obtain ⟨j, hj, e⟩ := List.mem_iff_getElem.1 h
        exact hno j (by omega) (by simp [zAt, hj, e]))
      clear hno
      go_wp2
      go_ret
      exact ⟨ret_bool HH.out.symm, rfl⟩

def mostOf (a b : Int) : Int := if b < a then a else b
theorem mostOf_eq (a b : Int) : (b < a ∧ mostOf a b = a) ∨ (a ≤ b ∧ mostOf a b = b) := by
  unfold mostOf
  split <;> omega
theorem most_any (a b : Int) (w : World) : Calls Try.prog 92 #[.int .i64 a, .int .i64 b] w fun e w' => e = .returned (.int .i64 (mostOf a b)) ∧ w' = w := by
  by_cases h : b < a
  · have H := Lib.hid (show mostOf a b = a from if_pos h)
    go_enter Try.func92, Try.ntmps92
    go_wp2
    go_ret
    exact ⟨ret_int H.out.symm, rfl⟩
  · have H := Lib.hid (show mostOf a b = b from if_neg h)
    have h' : decide (b < a) = false := by simpa using h
    clear h
    go_enter Try.func92, Try.ntmps92
    go_wp2
    go_ret
    exact ⟨ret_int H.out.symm, rfl⟩
theorem most_later (a b : Int) (w : World) (k n : Nat) : Calls Try.prog 92 #[.int .i64 a, .int .i64 b] (w.drewN (k + n)) fun e w'' => e = .returned (.int .i64 (mostOf a b)) ∧ ∃ j, w'' = w.drewN (k + j) :=
  (most_any a b _).mono fun e w' ⟨he, hw⟩ => ⟨he, n, hw⟩
theorem most_bd (a b : Int) (lo hi : Int) (h1 : lo ≤ a) (h2 : a ≤ hi) (h4 : b ≤ hi) : lo ≤ mostOf a b ∧ mostOf a b ≤ hi := by
  have := mostOf_eq a b
  omega

theorem stp_up (m : Mp) (a b : Nat) (h : 0 < zAt m.R b - zAt m.R a) : zAt m.C b + 2 * (zAt m.R b - zAt m.R a) = stp m a b := by
  unfold stp
  rw [if_pos h]

set_option maxHeartbeats 1000000 in
theorem spec_step (m : Mp) (ww hh : Nat) (g : GoodM m ww hh) (a b : Option Addr) (ca cb : Nat) (c d : Nat) (w : World) (hr : IRow w a m.R) (hc : IRow w b m.C) (h1 : c < ww * hh) (h2 : d < ww * hh) :
    Calls Try.prog 115 #[.agg #[.int .i64 m.W, .int .i64 m.H, .slice a m.R.length ca, .slice b m.C.length cb], .int .i64 c, .int .i64 d] w fun e w' => e = .returned (.int .i64 (stp m c d)) ∧ Below w.heap.size w w' := by
  have HB := Lib.hid ((Below.refl w.heap.size w).alloc (Nat.le_refl _) (.cells #[.int .i64 m.W, .int .i64 m.H, .slice a m.R.length ca, .slice b m.C.length cb] 26))
  have n36 := g.n36
  obtain ⟨c1, c2, c3, c4⟩ := g.cell c h1
  obtain ⟨d1, d2, d3, d4⟩ := g.cell d h2
  have hcR : c < m.R.length := by rw [g.R]; exact h1
  have hdR : d < m.R.length := by rw [g.R]; exact h2
  have hdC : d < m.C.length := by rw [g.C]; exact h2
  have m1 := most_bd 0 (zAt m.R d - zAt m.R c) 0 9 (by omega) (by omega) (by omega)
  have m2 := most_bd 0 (-(zAt m.R d - zAt m.R c) - 2) 0 9 (by omega) (by omega) (by omega)
  rcases RowAt.below hr HB.out with h0 | ⟨b1, off1, rfl, hr1⟩
  · omega
  rcases RowAt.below hc HB.out with h0 | ⟨b2, off2, rfl, hc2⟩
  · omega
  have g1 := hr1 c hcR
  have g2 := hr1 d hdR
  have g3 := hc2 d hdC
  clear hr hc hr1 hc2 g
  go_enter Try.func115, Try.ntmps115
  go_wp2
  go_quiet (fail)
  go_wp2
  go_quiet ((go_at_call 92; exact most_later _ _ _ _ _))
  go_wp2
  go_ret
  refine ⟨ret_int ?_, below_drewN (below_drewN HB.out _) _⟩
  have e1 := mostOf_eq 0 (zAt m.R d - zAt m.R c)
  have e2 := mostOf_eq 0 (-(zAt m.R d - zAt m.R c) - 2)
  show zAt m.C d + 2 * mostOf 0 (zAt m.R d - zAt m.R c) + mostOf 0 (-(zAt m.R d - zAt m.R c) - 2) = _
  unfold stp
  split <;> (try split) <;> omega

set_option maxHeartbeats 1000000 in
theorem impl_step (m : Mp) (ww hh : Nat) (g : GoodM m ww hh) (a b : Option Addr) (ca cb : Nat) (c d : Nat) (w : World) (hr : IRow w a m.R) (hc : IRow w b m.C) (h1 : c < ww * hh) (h2 : d < ww * hh) :
    Calls Try.prog 84 #[.agg #[.int .i64 m.W, .int .i64 m.H, .slice a m.R.length ca, .slice b m.C.length cb], .int .i64 c, .int .i64 d] w fun e w' => e = .returned (.int .i64 (stp m c d)) ∧ Below w.heap.size w w' := by
  have HB := Lib.hid ((Below.refl w.heap.size w).alloc (Nat.le_refl _) (.cells #[.int .i64 m.W, .int .i64 m.H, .slice a m.R.length ca, .slice b m.C.length cb] 26))
  have n36 := g.n36
  obtain ⟨c1, c2, c3, c4⟩ := g.cell c h1
  obtain ⟨d1, d2, d3, d4⟩ := g.cell d h2
  have hcR : c < m.R.length := by rw [g.R]; exact h1
  have hdR : d < m.R.length := by rw [g.R]; exact h2
  have hdC : d < m.C.length := by rw [g.C]; exact h2
  rcases RowAt.below hr HB.out with h0 | ⟨b1, off1, rfl, hr1⟩
  · omega
  rcases RowAt.below hc HB.out with h0 | ⟨b2, off2, rfl, hc2⟩
  · omega
  have g1 := hr1 c hcR
  have g2 := hr1 d hdR
  have g3 := hc2 d hdC
  clear hr hc hr1 hc2 g
  by_cases hup : 0 < zAt m.R d - zAt m.R c
  · have HS := Lib.hid (stp_up m c d hup)
    go_enter Try.func84, Try.ntmps84
    go_wp2
    go_quiet (fail)
    go_wp2
    go_ret
    exact ⟨ret_int (by show zAt m.C d + 2 * (zAt m.R d - zAt m.R c) = _; exact HS.out), below_drewN HB.out _⟩
  · have hup' : decide (0 < zAt m.R d - zAt m.R c) = false := by simpa using hup
    have HS := Lib.hid (show zAt m.C d + max 0 (-(zAt m.R d - zAt m.R c) - 2) = stp m c d from by unfold stp; rw [if_neg hup]; split <;> omega)
    go_enter Try.func84, Try.ntmps84
    go_wp2
    go_quiet (fail)
    go_wp2
    go_ret
    refine ⟨ret_int ?_, below_drewN HB.out _⟩
    refine Eq.trans ?_ HS.out
    simp

theorem sopen_yes (m : Mp) (ww hh : Nat) (g : GoodM m ww hh) (a b : Option Addr) (ca cb : Nat) (c : Nat) (w : World) (hc : IRow w b m.C) (h1 : c < ww * hh) (ho : 0 < zAt m.C c) :
    Calls Try.prog 113 #[.agg #[.int .i64 m.W, .int .i64 m.H, .slice a m.R.length ca, .slice b m.C.length cb], .int .i64 c] w fun e w' => e = .returned (.bool true) ∧ Below w.heap.size w w' := by
  have HB := Lib.hid ((Below.refl w.heap.size w).alloc (Nat.le_refl _) (.cells #[.int .i64 m.W, .int .i64 m.H, .slice a m.R.length ca, .slice b m.C.length cb] 26))
  have HK := Lib.hid (Blk.new w 26 #[.int .i64 m.W, .int .i64 m.H, .slice a m.R.length ca, .slice b m.C.length cb])
  have n36 := g.n36
  have hdC : c < m.C.length := by rw [g.C]; exact h1
  have HD := Lib.hid (decide_eq_true (show (0 : Int) ≤ (c : Int) ∧ (c : Int) < ((ww * hh : Nat) : Int) from by omega))
  go_enter Try.func113, Try.ntmps113
  go_wp2_with fail
  refine (scell m ww hh g a b ca cb c _).mono ?_
  rw [HD.out]
  rintro e w2 ⟨rfl, hb2⟩
  have HB2 := Lib.hid (HB.out.trans (hb2.mono (by simp)))
  have HK2 := Lib.hid (HK.out.later hb2)
  clear hb2
  obtain ⟨p0, p1, p2, p3, -⟩ := HK2.out.four
  rcases RowAt.below hc HB2.out with h0 | ⟨b2, off2, rfl, hc2⟩
  · omega
  have g3 := hc2 c hdC
  clear hc2
  go_wp2
  go_ret
  exact ⟨rfl, HB2.out⟩
theorem sopen_shut (m : Mp) (ww hh : Nat) (g : GoodM m ww hh) (a b : Option Addr) (ca cb : Nat) (c : Nat) (w : World) (hc : IRow w b m.C) (h1 : c < ww * hh) (ho : ¬ 0 < zAt m.C c) :
    Calls Try.prog 113 #[.agg #[.int .i64 m.W, .int .i64 m.H, .slice a m.R.length ca, .slice b m.C.length cb], .int .i64 c] w fun e w' => e = .returned (.bool false) ∧ Below w.heap.size w w' := by
  have HB := Lib.hid ((Below.refl w.heap.size w).alloc (Nat.le_refl _) (.cells #[.int .i64 m.W, .int .i64 m.H, .slice a m.R.length ca, .slice b m.C.length cb] 26))
  have HK := Lib.hid (Blk.new w 26 #[.int .i64 m.W, .int .i64 m.H, .slice a m.R.length ca, .slice b m.C.length cb])
  have n36 := g.n36
  have hdC : c < m.C.length := by rw [g.C]; exact h1
  have HD := Lib.hid (decide_eq_true (show (0 : Int) ≤ (c : Int) ∧ (c : Int) < ((ww * hh : Nat) : Int) from by omega))
  have ho' : decide (0 < zAt m.C c) = false := by simpa using ho
  go_enter Try.func113, Try.ntmps113
  go_wp2_with fail
  refine (scell m ww hh g a b ca cb c _).mono ?_
  rw [HD.out]
  rintro e w2 ⟨rfl, hb2⟩
  have HB2 := Lib.hid (HB.out.trans (hb2.mono (by simp)))
  have HK2 := Lib.hid (HK.out.later hb2)
  clear hb2
  obtain ⟨p0, p1, p2, p3, -⟩ := HK2.out.four
  rcases RowAt.below hc HB2.out with h0 | ⟨b2, off2, rfl, hc2⟩
  · omega
  have g3 := hc2 c hdC
  clear hc2
  go_wp2
  go_ret
  exact ⟨rfl, HB2.out⟩
theorem sopen_out (m : Mp) (ww hh : Nat) (g : GoodM m ww hh) (a b : Option Addr) (ca cb : Nat) (c : Int) (w : World) (h1 : ¬ (0 ≤ c ∧ c < ((ww * hh : Nat) : Int))) :
    Calls Try.prog 113 #[.agg #[.int .i64 m.W, .int .i64 m.H, .slice a m.R.length ca, .slice b m.C.length cb], .int .i64 c] w fun e w' => e = .returned (.bool false) ∧ Below w.heap.size w w' := by
  have HB := Lib.hid ((Below.refl w.heap.size w).alloc (Nat.le_refl _) (.cells #[.int .i64 m.W, .int .i64 m.H, .slice a m.R.length ca, .slice b m.C.length cb] 26))
  have HD := Lib.hid (decide_eq_false h1)
  clear h1
  go_enter Try.func113, Try.ntmps113
  go_wp2_with fail
  refine (scell m ww hh g a b ca cb c _).mono ?_
  rw [HD.out]
  rintro e w2 ⟨rfl, hb2⟩
  have HB2 := Lib.hid (HB.out.trans (hb2.mono (by simp)))
  clear hb2
  go_wp2
  go_ret
  exact ⟨rfl, HB2.out⟩
/-- Whether a cell is open, whatever its number. -/
theorem sopen (m : Mp) (ww hh : Nat) (g : GoodM m ww hh) (c : Int) : ∃ o : Bool, (o = true ↔ ∃ k : Nat, c = k ∧ k < ww * hh ∧ 0 < zAt m.C k) ∧ ∀ a b ca cb w, IRow w b m.C →
    Calls Try.prog 113 #[.agg #[.int .i64 m.W, .int .i64 m.H, .slice a m.R.length ca, .slice b m.C.length cb], .int .i64 c] w fun e w' => e = .returned (.bool o) ∧ Below w.heap.size w w' := by
  by_cases h1 : 0 ≤ c ∧ c < ((ww * hh : Nat) : Int)
  · obtain ⟨k, rfl⟩ : ∃ k : Nat, c = k := ⟨c.toNat, by omega⟩
    have hk : k < ww * hh := by omega
    by_cases ho : 0 < zAt m.C k
    · exact ⟨true, ⟨fun _ => ⟨k, rfl, hk, ho⟩, fun _ => rfl⟩, fun a b ca cb w hc => sopen_yes m ww hh g a b ca cb k w hc hk ho⟩
    · refine ⟨false, ⟨(fun e => by cases e), fun ⟨j, e, _, h⟩ => ?_⟩, fun a b ca cb w hc => sopen_shut m ww hh g a b ca cb k w hc hk ho⟩
      obtain rfl : k = j := by omega
      exact absurd h ho
  · refine ⟨false, ⟨(fun e => by cases e), fun ⟨j, e, h, _⟩ => ?_⟩, fun a b ca cb w hc => sopen_out m ww hh g a b ca cb c w h1⟩
    omega

end Go.Proofs.Ytdfmfmndmldggaa.StepT

namespace Go.Proofs.Ytdfmfmndmldggaa.Lb
open Go.RowKit
set_option linter.unusedVariables false

/-- A way that grows at its end, and its time. -/
inductive Wg (m : Mp) (wt : Nat → Nat → Int) (s : Nat) : Nat → Int → Prop
  | here : Wg m wt s s 0
  | next {x y : Nat} {t : Int} : Wg m wt s x t → y ∈ nx m x → Wg m wt s y (t + wt x y)

/-- What a step may take. -/
def Wts (m : Mp) (n : Nat) (wt : Nat → Nat → Int) : Prop := ∀ x y, Opn m n x → y ∈ nx m x → 1 ≤ wt x y ∧ wt x y ≤ 27

theorem stp_bd {m : Mp} {w h : Nat} (g : GoodM m w h) {x y : Nat} (hx : x < w * h) (hy : Opn m (w * h) y) : 1 ≤ stp m x y ∧ stp m x y ≤ 27 := by
  have h1 := g.cell x hx
  have h2 := g.cell y hy.1
  have h3 := hy.2
  unfold CellOk at h1 h2
  unfold stp
  split
  · omega
  · split <;> omega
theorem wts_from {m : Mp} {w h : Nat} (g : GoodM m w h) : Wts m (w * h) (stp m) := fun x y hx hy => stp_bd g hx.1 (nx_lt g hx.1 hy)
theorem wts_to {m : Mp} {w h : Nat} (g : GoodM m w h) : Wts m (w * h) (fun x y => stp m y x) := fun x y hx hy => stp_bd g (nx_lt g hx.1 hy).1 hx

theorem Wg.rch {m : Mp} {wt : Nat → Nat → Int} {s y : Nat} {t : Int} (h : Wg m wt s y t) : Rch m s y := by
  induction h with
  | here => exact .here
  | next _ hy ih => exact .next ih hy
theorem Wg.of_rch {m : Mp} {wt : Nat → Nat → Int} {s y : Nat} (h : Rch m s y) : ∃ t, Wg m wt s y t := by
  induction h with
  | here => exact ⟨0, .here⟩
  | next _ hy ih => obtain ⟨t, ht⟩ := ih; exact ⟨_, .next ht hy⟩
theorem Wg.opn {m : Mp} {w h : Nat} (g : GoodM m w h) {wt : Nat → Nat → Int} {s y : Nat} {t : Int} (hs : Opn m (w * h) s) (hw : Wg m wt s y t) : Opn m (w * h) y := hw.rch.opn g hs
theorem Wg.pos {m : Mp} {w h : Nat} (g : GoodM m w h) {wt : Nat → Nat → Int} {s y : Nat} {t : Int} (hs : Opn m (w * h) s) (hb : Wts m (w * h) wt) (hw : Wg m wt s y t) : 0 ≤ t ∧ (y = s ∨ 1 ≤ t) := by
  induction hw with
  | here => exact ⟨Int.le_refl _, .inl rfl⟩
  | next h1 hy ih =>
    have := hb _ _ (h1.opn g hs) hy
    exact ⟨by omega, .inr (by omega)⟩
theorem Wg.trans {m : Mp} {wt : Nat → Nat → Int} {s x y : Nat} {t u : Int} (h1 : Wg m wt s x t) (h2 : Wg m wt x y u) : Wg m wt s y (t + u) := by
  induction h2 with
  | here => rw [Int.add_zero]; exact h1
  | next _ hy ih => rw [← Int.add_assoc]; exact .next ih hy
theorem Wg.one {m : Mp} {wt : Nat → Nat → Int} {s x : Nat} (h : x ∈ nx m s) : Wg m wt s x (wt s x) := by
  have := Wg.next (wt := wt) (s := s) .here h
  rwa [Int.zero_add] at this
theorem Wg.cons {m : Mp} {wt : Nat → Nat → Int} {s x y : Nat} {t : Int} (h : x ∈ nx m s) (h2 : Wg m wt x y t) : Wg m wt s y (wt s x + t) := (Wg.one h).trans h2
theorem Wg.back {m : Mp} {w h : Nat} (g : GoodM m w h) {wt wt' : Nat → Nat → Int} (he : ∀ x y, wt' y x = wt x y) {s y : Nat} {t : Int} (hs : Opn m (w * h) s) (hw : Wg m wt s y t) : Wg m wt' y s t := by
  induction hw with
  | here => exact .here
  | next h1 hy ih =>
    have ho := h1.opn g hs
    have := Wg.cons (nx_sym g ho.1 ho.2 hy) ih
    rw [he, Int.add_comm] at this
    exact this
/-- The last step of a way that is no empty one; and its first one. -/
theorem Wg.first {m : Mp} {wt : Nat → Nat → Int} {s y : Nat} {t : Int} (h : Wg m wt s y t) : (y = s ∧ t = 0) ∨ ∃ x u, x ∈ nx m s ∧ Wg m wt x y u ∧ t = wt s x + u := by
  induction h with
  | here => exact .inl ⟨rfl, rfl⟩
  | next h1 hy ih =>
    rename_i x y t
    rcases ih with ⟨rfl, rfl⟩ | ⟨z, u, hz, hw, e⟩
    · exact .inr ⟨y, 0, hy, .here, by omega⟩
    · exact .inr ⟨z, _, hz, .next hw hy, by omega⟩

def Lst (m : Mp) (wt : Nat → Nat → Int) (s y : Nat) (t : Int) : Prop := Wg m wt s y t ∧ ∀ k, Wg m wt s y k → t ≤ k
theorem Lst.unique {m : Mp} {wt : Nat → Nat → Int} {s y : Nat} {t u : Int} (h1 : Lst m wt s y t) (h2 : Lst m wt s y u) : t = u := by
  have := h1.2 _ h2.1
  have := h2.2 _ h1.1
  omega
theorem lst_ex {m : Mp} {w h : Nat} (g : GoodM m w h) {wt : Nat → Nat → Int} {s y : Nat} (hs : Opn m (w * h) s) (hb : Wts m (w * h) wt) :
    ∀ (k : Nat) (t : Int), t ≤ k → Wg m wt s y t → ∃ u, Lst m wt s y u
  | 0, t, hk, hw => ⟨t, hw, fun k hk' => by have := (hk'.pos g hs hb).1; omega⟩
  | k + 1, t, hk, hw => by
    by_cases hc : ∃ u, Wg m wt s y u ∧ u < t
    · obtain ⟨u, hu, hlt⟩ := hc
      exact lst_ex g hs hb k u (by omega) hu
    · refine ⟨t, hw, fun k hk' => ?_⟩
      by_cases hlt : k < t
      · exact absurd ⟨k, hk', hlt⟩ hc
      · omega

/-- The least times from a cell: -1 where there is no way. -/
def IsD (m : Mp) (wt : Nat → Nat → Int) (s : Nat) (D : Nat → Int) : Prop := ∀ y, (D y = -1 ∧ ∀ t, ¬ Wg m wt s y t) ∨ (0 ≤ D y ∧ Lst m wt s y (D y))
theorem IsD.unique {m : Mp} {wt : Nat → Nat → Int} {s : Nat} {D E : Nat → Int} (h1 : IsD m wt s D) (h2 : IsD m wt s E) : D = E := by
  funext y
  rcases h1 y with ⟨e1, n1⟩ | ⟨p1, l1⟩
  · rcases h2 y with ⟨e2, n2⟩ | ⟨p2, l2⟩
    · rw [e1, e2]
    · exact absurd l2.1 (n1 _)
  · rcases h2 y with ⟨e2, n2⟩ | ⟨p2, l2⟩
    · exact absurd l1.1 (n2 _)
    · exact l1.unique l2
theorem isD_ex {m : Mp} {w h : Nat} (g : GoodM m w h) {wt : Nat → Nat → Int} {s : Nat} (hs : Opn m (w * h) s) (hb : Wts m (w * h) wt) : ∃ D, IsD m wt s D := by
  have : ∀ y, ∃ d : Int, (d = -1 ∧ ∀ t, ¬ Wg m wt s y t) ∨ (0 ≤ d ∧ Lst m wt s y d) := by
    intro y
    by_cases hc : ∃ t, Wg m wt s y t
    · obtain ⟨t, ht⟩ := hc
      have hp := (ht.pos g hs hb).1
      obtain ⟨u, hu⟩ := lst_ex g hs hb t.toNat t (by omega) ht
      exact ⟨u, .inr ⟨(hu.1.pos g hs hb).1, hu⟩⟩
    · exact ⟨-1, .inl ⟨rfl, fun t ht => hc ⟨t, ht⟩⟩⟩
  exact ⟨fun y => (this y).choose, fun y => (this y).choose_spec⟩
theorem IsD.self {m : Mp} {w h : Nat} (g : GoodM m w h) {wt : Nat → Nat → Int} {s : Nat} (hs : Opn m (w * h) s) (hb : Wts m (w * h) wt) {D : Nat → Int} (hd : IsD m wt s D) : D s = 0 := by
  rcases hd s with ⟨_, n⟩ | ⟨p, l⟩
  · exact absurd .here (n 0)
  · have := l.2 0 .here
    omega
theorem IsD.opn {m : Mp} {w h : Nat} (g : GoodM m w h) {wt : Nat → Nat → Int} {s y : Nat} (hs : Opn m (w * h) s) {D : Nat → Int} (hd : IsD m wt s D) (hy : 0 ≤ D y) : Opn m (w * h) y := by
  rcases hd y with ⟨e, _⟩ | ⟨_, l⟩
  · omega
  · exact l.1.opn g hs
/-- Forth and back. -/
theorem IsD.swap {m : Mp} {w h : Nat} (g : GoodM m w h) {wt wt' : Nat → Nat → Int} (he : ∀ x y, wt' y x = wt x y) {s y : Nat} (hs : Opn m (w * h) s) (hy : Opn m (w * h) y) {D E : Nat → Int} (hd : IsD m wt s D) (hE : IsD m wt' y E) : D y = E s := by
  rcases hd y with ⟨e1, n1⟩ | ⟨p1, l1⟩
  · rcases hE s with ⟨e2, n2⟩ | ⟨p2, l2⟩
    · rw [e1, e2]
    · exact absurd (l2.1.back g (fun a b => (he b a).symm) hy) (n1 _)
  · rcases hE s with ⟨e2, n2⟩ | ⟨p2, l2⟩
    · exact absurd (l1.1.back g he hs) (n2 _)
    · have h1 := l1.2 _ (l2.1.back g (fun a b => (he b a).symm) hy)
      have h2 := l2.2 _ (l1.1.back g he hs)
      omega

/-! Sums over cells. -/
def sumN (f : Nat → Nat) : Nat → Nat
  | 0 => 0
  | n + 1 => sumN f n + f n
theorem sumN_same {f g : Nat → Nat} : ∀ {n : Nat}, (∀ i, i < n → g i = f i) → sumN g n = sumN f n
  | 0, _ => rfl
  | n + 1, h => by rw [sumN, sumN, sumN_same fun i hi => h i (by omega), h n (by omega)]
theorem sumN_upd {f g : Nat → Nat} {i : Nat} : ∀ {n : Nat}, i < n → (∀ j, j < n → j ≠ i → g j = f j) → sumN g n + f i = sumN f n + g i
  | 0, hi, _ => by omega
  | n + 1, hi, h => by
    rw [sumN, sumN]
    by_cases e : i = n
    · subst e
      rw [sumN_same fun j hj => h j (by omega) (by omega)]
      omega
    · have := sumN_upd (n := n) (by omega : i < n) fun j hj hji => h j (by omega) hji
      have := h n (by omega) (by omega)
      omega
theorem sumN_le {f : Nat → Nat} {c : Nat} (hc : ∀ i, f i ≤ c) : ∀ n, sumN f n ≤ c * n
  | 0 => by simp [sumN]
  | n + 1 => by
    have := sumN_le hc n
    have := hc n
    rw [sumN, Nat.mul_add]
    omega
theorem sumN_one {f : Nat → Nat} {i : Nat} : ∀ {n : Nat}, i < n → f i ≤ sumN f n
  | 0, h => by omega
  | n + 1, h => by
    rw [sumN]
    by_cases e : i = n
    · subst e; omega
    · have := sumN_one (f := f) (n := n) (by omega : i < n)
      omega
def one (b : Bool) : Nat := if b then 1 else 0
theorem one_le (b : Bool) : one b ≤ 1 := by cases b <;> decide
def cntB (sb : Nat → Bool) (n : Nat) : Nat := sumN (fun i => one (sb i)) n
theorem cntB_le (sb : Nat → Bool) (n : Nat) : cntB sb n ≤ n := by
  have := sumN_le (f := fun i => one (sb i)) (fun i => one_le _) n
  unfold cntB
  omega
theorem cntB_new {sb tb : Nat → Bool} {n c : Nat} (hc : c < n) (h0 : sb c = false) (h1 : tb c = true) (h : ∀ j, j ≠ c → tb j = sb j) : cntB tb n = cntB sb n + 1 := by
  have := sumN_upd (f := fun i => one (sb i)) (g := fun i => one (tb i)) hc fun j _ hj => by simp only [h j hj]
  simp only [h0, h1, one] at this
  unfold cntB one
  simpa using this

/-! The model's way: all cells are looked at until nothing becomes less. -/
def fin (x : Int) : Bool := decide (0 ≤ x)
def wgh (x : Int) : Nat := if x < 0 then 1000 else x.toNat
def mu (o : Nat → Int) (n : Nat) : Nat := sumN (fun i => wgh (o i)) n
def cnF (o : Nat → Int) (n : Nat) : Nat := cntB (fun i => fin (o i)) n
theorem cnF_eq (o : Nat → Int) (n : Nat) : cnF o n = sumN (fun i => one (fin (o i))) n := rfl
theorem cnF_le (o : Nat → Int) (n : Nat) : cnF o n ≤ n := cntB_le _ n
def upd (o : Nat → Int) (i : Nat) (v : Int) : Nat → Int := fun j => if j = i then v else o j
theorem upd_self (o : Nat → Int) (i : Nat) (v : Int) : upd o i v i = v := if_pos rfl
theorem upd_ne {o : Nat → Int} {i j : Nat} {v : Int} (h : j ≠ i) : upd o i v j = o j := if_neg h

structure Bf (m : Mp) (n : Nat) (wt : Nat → Nat → Int) (b : Nat) (o : Nat → Int) : Prop where
  val : ∀ i, i < n → o i = -1 ∨ (0 ≤ o i ∧ o i + 27 ≤ 27 * cnF o n ∧ Wg m wt b i (o i))
  home : o b = 0

theorem Bf.le {m : Mp} {n : Nat} {wt : Nat → Nat → Int} {b : Nat} {o : Nat → Int} (h : Bf m n wt b o) {i : Nat} (hi : i < n) : -1 ≤ o i ∧ o i + 27 ≤ 27 * (n : Int) := by
  have hc := cnF_le o n
  rcases h.val i hi with e | ⟨h1, h2, _⟩
  · omega
  · omega
theorem Bf.start {m : Mp} {n : Nat} {wt : Nat → Nat → Int} {b : Nat} (hb : b < n) : Bf m n wt b (upd (fun _ => -1) b 0) := by
  refine ⟨fun i hi => ?_, upd_self _ _ _⟩
  by_cases e : i = b
  · subst e
    right
    rw [upd_self]
    refine ⟨Int.le_refl _, ?_, .here⟩
    have h1 := sumN_one (f := fun j => one (fin (upd (fun _ => -1) i 0 j))) hb
    simp only [upd_self] at h1
    have h2 : one (fin 0) = 1 := by decide
    rw [cnF_eq]
    omega
  · left
    exact upd_ne e
/-- One cell becomes less. -/
theorem Bf.low {m : Mp} {w h : Nat} (g : GoodM m w h) {wt : Nat → Nat → Int} (hb : Wts m (w * h) wt) {b i x : Nat} {o : Nat → Int} (hbo : Opn m (w * h) b) (B : Bf m (w * h) wt b o) (hi : i < w * h) (hx : x < w * h) (hix : i ∈ nx m x) (h0 : 0 ≤ o x)
    (hlt : o i < 0 ∨ o x + wt x i < o i) : Bf m (w * h) wt b (upd o i (o x + wt x i)) ∧ mu (upd o i (o x + wt x i)) (w * h) < mu o (w * h) := by
  obtain ⟨hx1, hx2, hx3⟩ : 0 ≤ o x ∧ o x + 27 ≤ 27 * cnF o (w * h) ∧ Wg m wt b x (o x) := by
    rcases B.val x hx with e | h
    · omega
    · exact h
  have hw := hb x i (hx3.opn g hbo) hix
  have hn36 := g.n36
  have hcl := cnF_le o (w * h)
  have hib : i ≠ b := by
    rintro rfl
    have := B.home
    omega
  have hxi : x ≠ i := by
    rintro rfl
    omega
  have hcu := sumN_upd (f := fun j => one (fin (o j))) (g := fun j => one (fin (upd o i (o x + wt x i) j))) hi fun j _ hj => by simp only [upd_ne hj]
  have hmu := sumN_upd (f := fun j => wgh (o j)) (g := fun j => wgh (upd o i (o x + wt x i) j)) hi fun j _ hj => by simp only [upd_ne hj]
  simp only [upd_self] at hcu hmu
  have e1 : one (fin (o x + wt x i)) = 1 := by unfold fin; rw [decide_eq_true (by omega)]; rfl
  have e2 : wgh (o x + wt x i) = (o x + wt x i).toNat := if_neg (by omega)
  rw [e1] at hcu
  rw [e2] at hmu
  have hcn : cnF o (w * h) ≤ cnF (upd o i (o x + wt x i)) (w * h) ∧ (o i < 0 → cnF (upd o i (o x + wt x i)) (w * h) = cnF o (w * h) + 1) := by
    rw [cnF_eq, cnF_eq]
    have h1 := one_le (fin (o i))
    refine ⟨by omega, fun hneg => ?_⟩
    have : one (fin (o i)) = 0 := by unfold fin; rw [decide_eq_false (by omega)]; rfl
    omega
  refine ⟨⟨fun j hj => ?_, by rw [upd_ne (Ne.symm hib)]; exact B.home⟩, ?_⟩
  · by_cases e : j = i
    · subst e
      right
      rw [upd_self]
      refine ⟨by omega, ?_, .next hx3 hix⟩
      by_cases hneg : o j < 0
      · have := hcn.2 hneg
        omega
      · rcases B.val j hj with e | ⟨_, h2, _⟩
        · omega
        · have := hcn.1
          omega
    · rw [upd_ne e]
      rcases B.val j hj with e | ⟨h1, h2, h3⟩
      · exact .inl e
      · exact .inr ⟨h1, by have := hcn.1; omega, h3⟩
  · unfold mu
    have hle : o x + wt x i < 1000 := by omega
    by_cases hneg : o i < 0
    · have : wgh (o i) = 1000 := if_pos hneg
      omega
    · have : wgh (o i) = (o i).toNat := if_neg hneg
      omega

/-- A round over all cells. -/
structure Bfr (m : Mp) (n : Nat) (wt : Nat → Nat → Int) (b : Nat) (o q : Nat → Int) (ag : Bool) (j : Nat) : Prop where
  bf : Bf m n wt b q
  le : mu q n ≤ mu o n
  yes : ag = true → mu q n < mu o n
  no : ag = false → ∀ i, i < j → 0 < zAt m.C i → ∀ x ∈ nx m i, 0 ≤ q x → 0 ≤ q i ∧ q i ≤ q x + wt x i
theorem Bfr.start {m : Mp} {n : Nat} {wt : Nat → Nat → Int} {b : Nat} {o : Nat → Int} (h : Bf m n wt b o) : Bfr m n wt b o o false 0 := ⟨h, Nat.le_refl _, (fun e => by cases e), fun _ i hi => by omega⟩
theorem Bfr.skip {m : Mp} {n : Nat} {wt : Nat → Nat → Int} {b : Nat} {o q : Nat → Int} {ag : Bool} {j : Nat} (h : Bfr m n wt b o q ag j) (hj : zAt m.C j = 0) : Bfr m n wt b o q ag (j + 1) :=
  ⟨h.bf, h.le, h.yes, fun e i hi ho => by
    by_cases e2 : i = j
    · subst e2; omega
    · exact h.no e i (by omega) ho⟩
/-- The cells next to one of them. -/
structure Bfk (m : Mp) (n : Nat) (wt : Nat → Nat → Int) (b : Nat) (o q : Nat → Int) (ag : Bool) (j k : Nat) : Prop where
  rnd : Bfr m n wt b o q ag j
  here : ag = false → ∀ r, r < k → r < (nx m j).length → 0 ≤ q ((nx m j).getD r 0) → 0 ≤ q j ∧ q j ≤ q ((nx m j).getD r 0) + wt ((nx m j).getD r 0) j
theorem Bfk.start {m : Mp} {n : Nat} {wt : Nat → Nat → Int} {b : Nat} {o q : Nat → Int} {ag : Bool} {j : Nat} (h : Bfr m n wt b o q ag j) : Bfk m n wt b o q ag j 0 := ⟨h, fun _ r hr => by omega⟩
theorem Bfk.skip {m : Mp} {n : Nat} {wt : Nat → Nat → Int} {b : Nat} {o q : Nat → Int} {ag : Bool} {j k : Nat} (h : Bfk m n wt b o q ag j k) (hy : 0 ≤ q ((nx m j).getD k 0) → 0 ≤ q j ∧ q j ≤ q ((nx m j).getD k 0) + wt ((nx m j).getD k 0) j) : Bfk m n wt b o q ag j (k + 1) :=
  ⟨h.rnd, fun e r hr hl => by
    by_cases e2 : r = k
    · subst e2; exact hy
    · exact h.here e r (by omega) hl⟩
theorem Bfk.low {m : Mp} {w h : Nat} (g : GoodM m w h) {wt : Nat → Nat → Int} (hb : Wts m (w * h) wt) {b : Nat} {o q : Nat → Int} {ag : Bool} {j k : Nat} (hbo : Opn m (w * h) b) (B : Bfk m (w * h) wt b o q ag j k) (hj : j < w * h) (ho : 0 < zAt m.C j) (hk : k < (nx m j).length) (h0 : 0 ≤ q ((nx m j).getD k 0))
    (hlt : q j < 0 ∨ q ((nx m j).getD k 0) + wt ((nx m j).getD k 0) j < q j) : Bfk m (w * h) wt b o (upd q j (q ((nx m j).getD k 0) + wt ((nx m j).getD k 0) j)) true j (k + 1) := by
  have hm := getD_mem hk
  have hx := nx_lt g hj hm
  obtain ⟨h1, h2⟩ := B.rnd.bf.low g hb hbo hj hx.1 (nx_sym g hj ho hm) h0 hlt
  have := B.rnd.le
  exact ⟨⟨h1, by omega, fun _ => by omega, fun e => by cases e⟩, fun e => by cases e⟩
theorem Bfk.full {m : Mp} {n : Nat} {wt : Nat → Nat → Int} {b : Nat} {o q : Nat → Int} {ag : Bool} {j k : Nat} (h : Bfk m n wt b o q ag j k) (hk : (nx m j).length ≤ k) : Bfr m n wt b o q ag (j + 1) :=
  ⟨h.rnd.bf, h.rnd.le, h.rnd.yes, fun e i hi ho x hx h0 => by
    by_cases e2 : i = j
    · subst e2
      obtain ⟨r, hr, e3⟩ := List.mem_iff_getElem.1 hx
      have e4 : (nx m i).getD r 0 = x := by simp [hr, e3]
      have := h.here e r (by omega) hr
      rw [e4] at this
      exact this h0
    · exact h.rnd.no e i (by omega) ho x hx h0⟩
/-- Nothing becomes less: these are the least times. -/
theorem Bf.full {m : Mp} {w h : Nat} (g : GoodM m w h) {wt : Nat → Nat → Int} {b : Nat} {q D : Nat → Int} (hbo : Opn m (w * h) b) (B : Bf m (w * h) wt b q) (hD : IsD m wt b D)
    (hc : ∀ i, i < w * h → 0 < zAt m.C i → ∀ x ∈ nx m i, 0 ≤ q x → 0 ≤ q i ∧ q i ≤ q x + wt x i) : ∀ i, i < w * h → q i = D i := by
  have key : ∀ y t, Wg m wt b y t → 0 ≤ q y ∧ q y ≤ t := by
    intro y t hw
    induction hw with
    | here => rw [B.home]; omega
    | next h1 hy ih =>
      rename_i x y t
      have hxo := h1.opn g hbo
      have hyo := nx_lt g hxo.1 hy
      have := hc y hyo.1 hyo.2 x (nx_sym g hxo.1 hxo.2 hy) ih.1
      omega
  intro i hi
  rcases hD i with ⟨e, n⟩ | ⟨p, l⟩
  · rcases B.val i hi with e2 | ⟨_, _, h3⟩
    · rw [e, e2]
    · exact absurd h3 (n _)
  · have h1 := key i _ l.1
    rcases B.val i hi with e2 | ⟨_, _, h3⟩
    · omega
    · have := l.2 _ h3
      omega
/-! The program's way: the nearest cell that is left is settled. -/
def inf : Int := 9223372036854775807
theorem inf_eq : inf = 9223372036854775807 := rfl
def setT (sb : Nat → Bool) (j : Nat) : Nat → Bool := fun i => sb i || i == j
theorem setT_self (sb : Nat → Bool) (j : Nat) : setT sb j j = true := by simp [setT]
theorem setT_ne {sb : Nat → Bool} {i j : Nat} (h : i ≠ j) : setT sb j i = sb i := by simp [setT, h]

/-- What is known of the times. -/
def Tms (m : Mp) (n : Nat) (wt : Nat → Nat → Int) (s : Nat) (k : Nat) (tm : Nat → Int) : Prop := ∀ i, tm i = inf ∨ (Opn m n i ∧ 0 ≤ tm i ∧ tm i ≤ 27 * (k : Int) ∧ Wg m wt s i (tm i))
/-- A cell is about to be settled; 'k' have been. -/
structure Dij (m : Mp) (n : Nat) (wt : Nat → Nat → Int) (s : Nat) (sb : Nat → Bool) (tm : Nat → Int) (c k : Nat) : Prop where
  cell : c < n
  left : sb c = false
  tc : tm c ≠ inf
  val : Tms m n wt s k tm
  old : ∀ i, sb i = true → i < n ∧ tm i ≤ tm c ∧ ∀ y ∈ nx m i, tm y ≤ tm i + wt i y
  new : ∀ j, j < n → sb j = false → tm c ≤ tm j
  home : tm s = 0
  cnt : cntB sb n = k
theorem Dij.k_lt {m : Mp} {n : Nat} {wt : Nat → Nat → Int} {s : Nat} {sb : Nat → Bool} {tm : Nat → Int} {c k : Nat} (h : Dij m n wt s sb tm c k) : k + 1 ≤ n := by
  have := cntB_new h.cell h.left (setT_self sb c) fun j hj => setT_ne hj
  have := cntB_le (setT sb c) n
  have := h.cnt
  omega
theorem Dij.start {m : Mp} {n : Nat} {wt : Nat → Nat → Int} {s : Nat} (hs : Opn m n s) : Dij m n wt s (fun _ => false) (upd (fun _ => inf) s 0) s 0 := by
  have e0 : ∀ j, upd (fun _ => inf) s 0 j = if j = s then 0 else inf := fun j => rfl
  refine ⟨hs.1, rfl, by rw [upd_self]; decide, fun i => ?_, (fun i e => by cases e), fun j hj _ => ?_, upd_self _ _ _, ?_⟩
  · by_cases e : i = s
    · subst e
      right
      rw [upd_self]
      exact ⟨hs, Int.le_refl _, by omega, .here⟩
    · exact .inl (upd_ne e)
  · rw [upd_self, e0]
    split
    · exact Int.le_refl _
    · decide
  · have : ∀ n, cntB (fun _ => false) n = 0 := fun n => by
      induction n with
      | zero => rfl
      | succ n ih =>
        show cntB (fun _ => false) n + one false = 0
        rw [ih]; rfl
    exact this n
theorem Dij.tc_bd {m : Mp} {n : Nat} {wt : Nat → Nat → Int} {s : Nat} {sb : Nat → Bool} {tm : Nat → Int} {c k : Nat} (h : Dij m n wt s sb tm c k) : Opn m n c ∧ 0 ≤ tm c ∧ tm c ≤ 27 * (k : Int) ∧ Wg m wt s c (tm c) := by
  rcases h.val c with e | e
  · exact absurd e h.tc
  · exact e

/-- The cells next to the settled one, the first 'r' of which have been looked at. -/
structure Rlx (m : Mp) (n : Nat) (wt : Nat → Nat → Int) (s : Nat) (sb : Nat → Bool) (tm : Nat → Int) (c k r : Nat) : Prop where
  cell : c < n
  tc : tm c ≠ inf
  tk : tm c ≤ 27 * (k : Int)
  val : Tms m n wt s (k + 1) tm
  at_ : sb c = true
  old : ∀ i, sb i = true → i < n ∧ tm i ≤ tm c ∧ (i ≠ c → ∀ y ∈ nx m i, tm y ≤ tm i + wt i y)
  new : ∀ j, j < n → sb j = false → tm c ≤ tm j
  home : tm s = 0
  cnt : cntB sb n = k + 1
  look : ∀ q, q < r → q < (nx m c).length → tm ((nx m c).getD q 0) ≤ tm c + wt c ((nx m c).getD q 0)
theorem Dij.settle {m : Mp} {n : Nat} {wt : Nat → Nat → Int} {s : Nat} {sb : Nat → Bool} {tm : Nat → Int} {c k : Nat} (h : Dij m n wt s sb tm c k) : Rlx m n wt s (setT sb c) tm c k 0 := by
  refine ⟨h.cell, h.tc, h.tc_bd.2.2.1, fun i => ?_, setT_self _ _, fun i hi => ?_, fun j hj hs => ?_, h.home, ?_, fun q hq => by omega⟩
  · rcases h.val i with e | ⟨h1, h2, h3, h4⟩
    · exact .inl e
    · exact .inr ⟨h1, h2, by omega, h4⟩
  · by_cases e : i = c
    · subst e; exact ⟨h.cell, Int.le_refl _, fun e => absurd rfl e⟩
    · rw [setT_ne e] at hi
      obtain ⟨h1, h2, h3⟩ := h.old i hi
      exact ⟨h1, h2, fun _ => h3⟩
  · have e : j ≠ c := by
      rintro rfl
      rw [setT_self] at hs
      cases hs
    rw [setT_ne e] at hs
    exact h.new j hj hs
  · rw [cntB_new h.cell h.left (setT_self sb c) fun j hj => setT_ne hj, h.cnt]
theorem Rlx.tc_bd {m : Mp} {n : Nat} {wt : Nat → Nat → Int} {s : Nat} {sb : Nat → Bool} {tm : Nat → Int} {c k r : Nat} (h : Rlx m n wt s sb tm c k r) : Opn m n c ∧ 0 ≤ tm c ∧ tm c ≤ 27 * (k : Int) ∧ Wg m wt s c (tm c) := by
  rcases h.val c with e | e
  · exact absurd e h.tc
  · exact ⟨e.1, e.2.1, h.tk, e.2.2.2⟩
theorem Rlx.k_le {m : Mp} {n : Nat} {wt : Nat → Nat → Int} {s : Nat} {sb : Nat → Bool} {tm : Nat → Int} {c k r : Nat} (h : Rlx m n wt s sb tm c k r) : k + 1 ≤ n := by
  have := cntB_le sb n
  have := h.cnt
  omega
/-- One look. -/
theorem Rlx.look1 {m : Mp} {w h : Nat} (g : GoodM m w h) {wt : Nat → Nat → Int} (hb : Wts m (w * h) wt) {s : Nat} {sb : Nat → Bool} {tm : Nat → Int} {c k r y : Nat} {v : Int} (R : Rlx m (w * h) wt s sb tm c k r) (hr : r < (nx m c).length) (hy : (nx m c).getD r 0 = y)
    (hv : (v = tm y ∧ tm y ≤ tm c + wt c y) ∨ (v = tm c + wt c y ∧ tm c + wt c y < tm y)) : Rlx m (w * h) wt s sb (upd tm y v) c k (r + 1) := by
  obtain ⟨ho, h0, h1, hw⟩ := R.tc_bd
  have hm : y ∈ nx m c := by rw [← hy]; exact getD_mem hr
  have hyo := nx_lt g ho.1 hm
  have hbd := hb c y ho hm
  rcases hv with ⟨rfl, hle⟩ | ⟨rfl, hlt⟩
  · have e : upd tm y (tm y) = tm := by
      funext j
      by_cases e : j = y
      · subst e; exact upd_self _ _ _
      · exact upd_ne e
    rw [e]
    refine ⟨R.cell, R.tc, R.tk, R.val, R.at_, R.old, R.new, R.home, R.cnt, fun q hq hl => ?_⟩
    by_cases e : q = r
    · subst e; rw [hy]; exact hle
    · exact R.look q (by omega) hl
  · have hyc : y ≠ c := by rintro rfl; omega
    have hys : sb y = false := by
      cases e : sb y with
      | false => rfl
      | true => have := (R.old y e).2.1; omega
    have hle : ∀ j, upd tm y (tm c + wt c y) j ≤ tm j := fun j => by
      by_cases e : j = y
      · subst e; rw [upd_self]; omega
      · rw [upd_ne e]; exact Int.le_refl _
    have hsame : ∀ j, sb j = true → upd tm y (tm c + wt c y) j = tm j := fun j hj => upd_ne (by rintro rfl; rw [hys] at hj; cases hj)
    have hc : upd tm y (tm c + wt c y) c = tm c := upd_ne (Ne.symm hyc)
    have hsy : s ≠ y := by
      rintro rfl
      have := R.home
      omega
    refine ⟨R.cell, by rw [hc]; exact R.tc, by rw [hc]; exact R.tk, fun i => ?_, R.at_, fun i hi => ?_, fun j hj hs => ?_, by rw [upd_ne hsy]; exact R.home, R.cnt, fun q hq hl => ?_⟩
    · by_cases e : i = y
      · subst e
        right
        rw [upd_self]
        exact ⟨hyo, by omega, by omega, .next hw hm⟩
      · rw [upd_ne e]; exact R.val i
    · obtain ⟨a1, a2, a3⟩ := R.old i hi
      rw [hsame i hi, hc]
      exact ⟨a1, a2, fun hic z hz => Int.le_trans (hle z) (a3 hic z hz)⟩
    · rw [hc]
      by_cases e : j = y
      · subst e; rw [upd_self]; omega
      · rw [upd_ne e]; exact R.new j hj hs
    · rw [hc]
      by_cases e : q = r
      · subst e; rw [hy, upd_self]; exact Int.le_refl _
      · exact Int.le_trans (hle _) (R.look q (by omega) hl)
/-- All looked at: what is settled is settled. -/
structure Rdy (m : Mp) (n : Nat) (wt : Nat → Nat → Int) (s : Nat) (sb : Nat → Bool) (tm : Nat → Int) (c k : Nat) : Prop where
  cell : c < n
  val : Tms m n wt s k tm
  old : ∀ i, sb i = true → i < n ∧ tm i ≤ tm c ∧ ∀ y ∈ nx m i, tm y ≤ tm i + wt i y
  new : ∀ j, j < n → sb j = false → tm c ≤ tm j
  home : tm s = 0
  cnt : cntB sb n = k
theorem Rlx.full {m : Mp} {n : Nat} {wt : Nat → Nat → Int} {s : Nat} {sb : Nat → Bool} {tm : Nat → Int} {c k r : Nat} (R : Rlx m n wt s sb tm c k r) (hr : (nx m c).length ≤ r) : Rdy m n wt s sb tm c (k + 1) :=
  ⟨R.cell, R.val, fun i hi => by
    obtain ⟨a1, a2, a3⟩ := R.old i hi
    refine ⟨a1, a2, fun y hy => ?_⟩
    by_cases e : i = c
    · subst e
      obtain ⟨q, hq, e3⟩ := List.mem_iff_getElem.1 hy
      have e4 : (nx m i).getD q 0 = y := by simp [hq, e3]
      have := R.look q (by omega) hq
      rwa [e4] at this
    · exact a3 e y hy, R.new, R.home, R.cnt⟩
/-- The nearest cell of those that are left, of the first 'o'. -/
structure Near (n : Nat) (sb : Nat → Bool) (tm : Nat → Int) (o : Nat) (p : Nat) (l : Int) : Prop where
  all : ∀ j, j < o → sb j = false → l ≤ tm j
  is_ : l = inf ∨ (p < n ∧ sb p = false ∧ tm p = l ∧ l < inf)
theorem Near.start (n : Nat) (sb : Nat → Bool) (tm : Nat → Int) : Near n sb tm 0 0 inf := ⟨fun j hj => by omega, .inl rfl⟩
theorem Near.le {n : Nat} {sb : Nat → Bool} {tm : Nat → Int} {o p : Nat} {l : Int} (h : Near n sb tm o p l) : l ≤ inf := by
  rcases h.is_ with e | e
  · rw [e]; exact Int.le_refl _
  · exact Int.le_of_lt e.2.2.2
theorem Near.skip {n : Nat} {sb : Nat → Bool} {tm : Nat → Int} {o p : Nat} {l : Int} (h : Near n sb tm o p l) (ho : sb o = true ∨ l ≤ tm o) : Near n sb tm (o + 1) p l :=
  ⟨fun j hj hs => by
    by_cases e : j = o
    · subst e
      rcases ho with ho | ho
      · rw [ho] at hs; cases hs
      · exact ho
    · exact h.all j (by omega) hs, h.is_⟩
theorem Near.take {n : Nat} {sb : Nat → Bool} {tm : Nat → Int} {o p : Nat} {l : Int} (h : Near n sb tm o p l) (hn : o < n) (hs : sb o = false) (hl : tm o < l) : Near n sb tm (o + 1) o (tm o) :=
  ⟨fun j hj hs => by
    by_cases e : j = o
    · subst e; exact Int.le_refl _
    · have := h.all j (by omega) hs; omega, .inr ⟨hn, hs, rfl, by have := h.le; omega⟩⟩
theorem Rdy.next {m : Mp} {n : Nat} {wt : Nat → Nat → Int} {s : Nat} {sb : Nat → Bool} {tm : Nat → Int} {c k p : Nat} {l : Int} (R : Rdy m n wt s sb tm c k) (N : Near n sb tm n p l) (hl : l ≠ inf) : Dij m n wt s sb tm p k := by
  rcases N.is_ with e | ⟨h1, h2, h3, h4⟩
  · exact absurd e hl
  · refine ⟨h1, h2, by omega, R.val, fun i hi => ?_, fun j hj hs => ?_, R.home, R.cnt⟩
    · obtain ⟨a1, a2, a3⟩ := R.old i hi
      have := R.new p h1 h2
      exact ⟨a1, by omega, a3⟩
    · have := N.all j hj hs
      omega
/-- What the program has for a least time. -/
def tmOf (d : Int) : Int := if d < 0 then inf else d
theorem Rdy.done {m : Mp} {w h : Nat} (g : GoodM m w h) {wt : Nat → Nat → Int} (hb : Wts m (w * h) wt) {s : Nat} {sb : Nat → Bool} {tm D : Nat → Int} {c k p : Nat} (hs : Opn m (w * h) s) (R : Rdy m (w * h) wt s sb tm c k) (hk : k ≤ 36) (N : Near (w * h) sb tm (w * h) p inf) (hD : IsD m wt s D) :
    ∀ i, tm i = tmOf (D i) := by
  have hset : ∀ i, tm i ≠ inf → i < w * h ∧ sb i = true := fun i hi => by
    rcases R.val i with e | ⟨h1, h2, h3, h4⟩
    · exact absurd e hi
    · refine ⟨h1.1, ?_⟩
      cases e : sb i with
      | true => rfl
      | false =>
        have := N.all i h1.1 e
        unfold inf at this
        omega
  have key : ∀ y t, Wg m wt s y t → tm y ≠ inf ∧ tm y ≤ t := by
    intro y t hw
    induction hw with
    | here => rw [R.home]; exact ⟨by decide, Int.le_refl _⟩
    | next h1 hy ih =>
      rename_i x y t
      obtain ⟨a1, a2⟩ := hset x ih.1
      obtain ⟨-, -, b3⟩ := R.old x a2
      have := b3 y hy
      have hxo := h1.opn g hs
      have hw := hb x y hxo hy
      rcases R.val x with e | ⟨c1, c2, c3, c4⟩
      · exact absurd e ih.1
      · exact ⟨by unfold inf; omega, by omega⟩
  intro i
  unfold tmOf
  rcases hD i with ⟨e, n⟩ | ⟨p, l⟩
  · rw [e, if_pos (by decide)]
    rcases R.val i with e2 | ⟨_, _, _, h4⟩
    · exact e2
    · exact absurd h4 (n _)
  · have h1 := key i _ l.1
    rw [if_neg (by omega)]
    rcases R.val i with e2 | ⟨_, _, _, h4⟩
    · exact absurd e2 h1.1
    · have := l.2 _ h4
      omega

/-! How great a least time is. -/
theorem sumN_lt {f g : Nat → Nat} {i : Nat} : ∀ {n : Nat}, i < n → (∀ j, f j ≤ g j) → f i + 1 ≤ g i → sumN f n + 1 ≤ sumN g n
  | 0, h, _, _ => by omega
  | n + 1, h, hle, hi => by
    rw [sumN, sumN]
    by_cases e : i = n
    · subst e
      have : ∀ k, sumN f k ≤ sumN g k := fun k => by
        induction k with
        | zero => exact Nat.le_refl _
        | succ k ih => rw [sumN, sumN]; have := hle k; omega
      have := this i
      omega
    · have := sumN_lt (n := n) (by omega : i < n) hle hi
      have := hle n
      omega
theorem IsD.step {m : Mp} {wt : Nat → Nat → Int} {s x y : Nat} {D : Nat → Int} (hd : IsD m wt s D) (hx : 0 ≤ D x) (hy : y ∈ nx m x) : 0 ≤ D y ∧ D y ≤ D x + wt x y := by
  rcases hd x with ⟨e, _⟩ | ⟨_, l⟩
  · omega
  · have hw := Wg.next l.1 hy
    rcases hd y with ⟨_, n⟩ | ⟨p, l2⟩
    · exact absurd hw (n _)
    · exact ⟨p, l2.2 _ hw⟩
theorem IsD.last {m : Mp} {wt : Nat → Nat → Int} {s y : Nat} {D : Nat → Int} (hd : IsD m wt s D) (hy : 0 ≤ D y) (hs : y ≠ s) : ∃ x, 0 ≤ D x ∧ y ∈ nx m x ∧ D y = D x + wt x y := by
  rcases hd y with ⟨e, _⟩ | ⟨_, l⟩
  · omega
  · obtain ⟨hw, hl⟩ := l
    obtain ⟨t, ht⟩ : ∃ t, D y = t := ⟨_, rfl⟩
    rw [ht] at hw
    cases hw with
    | here => exact absurd rfl hs
    | next h1 h2 =>
      rename_i x t
      rcases hd x with ⟨_, n⟩ | ⟨p, l2⟩
      · exact absurd h1 (n _)
      · have h3 := l2.2 _ h1
        have h4 := hd.step p h2
        exact ⟨x, p, h2, by omega⟩
theorem IsD.bd {m : Mp} {w h : Nat} (g : GoodM m w h) {wt : Nat → Nat → Int} {s : Nat} (hs : Opn m (w * h) s) (hb : Wts m (w * h) wt) {D : Nat → Int} (hd : IsD m wt s D) (y : Nat) : D y ≤ 972 := by
  have key : ∀ (k : Nat) (y : Nat), D y ≤ k → 0 ≤ D y → D y ≤ 27 * (sumN (fun i => one (decide (0 ≤ D i ∧ D i < D y))) (w * h) : Int) := by
    intro k
    induction k with
    | zero => intro y h1 h2; omega
    | succ k ih =>
      intro y h1 h2
      by_cases e : y = s
      · subst e
        have := hd.self g hs hb
        omega
      · obtain ⟨x, hx, hxy, he⟩ := hd.last h2 e
        have hxo := hd.opn g hs hx
        have hw := hb x y hxo hxy
        have h3 := ih x (by omega) hx
        have h4 := sumN_lt (f := fun i => one (decide (0 ≤ D i ∧ D i < D x))) (g := fun i => one (decide (0 ≤ D i ∧ D i < D y))) hxo.1 (fun j => by
          by_cases hj : 0 ≤ D j ∧ D j < D x
          · simp only [decide_eq_true hj, decide_eq_true (show 0 ≤ D j ∧ D j < D y by omega)]
            exact Nat.le_refl _
          · simp only [decide_eq_false hj]
            exact Nat.zero_le _) (by
          simp only [decide_eq_false (show ¬ (0 ≤ D x ∧ D x < D x) by omega), decide_eq_true (show 0 ≤ D x ∧ D x < D y by omega)]
          exact Nat.le_refl _)
        omega
  by_cases hy : 0 ≤ D y
  · have h1 := key (D y).toNat y (by omega) hy
    have h2 := sumN_le (f := fun i => one (decide (0 ≤ D i ∧ D i < D y))) (fun i => one_le _) (w * h)
    have := g.n36
    omega
  · omega

end Go.Proofs.Ytdfmfmndmldggaa.Lb

namespace Go.Proofs.Ytdfmfmndmldggaa.StpF
open Go.RowKit Lb IntS MapS MapV High Cells StepT
set_option linter.unusedSimpArgs false
set_option linter.unusedVariables false

/-- A map in its block, with its rows. -/
structure Bm (w : World) (gb : Nat) (m : Mp) (a b : Option Addr) (ca cb : Nat) : Prop where
  box : Blk w gb 26 #[.int .i64 m.W, .int .i64 m.H, .slice a m.R.length ca, .slice b m.C.length cb]
  r : IRow w a m.R
  c : IRow w b m.C
theorem Bm.later {w w' : World} {gb : Nat} {m : Mp} {a b : Option Addr} {ca cb : Nat} (h : Bm w gb m a b ca cb) (hb : Below w.heap.size w w') : Bm w' gb m a b ca cb := ⟨h.box.later hb, RowAt.below h.r hb, RowAt.below h.c hb⟩

theorem from_any (m : Mp) (ww hh : Nat) (g : GoodM m ww hh) (a b : Option Addr) (ca cb gb : Nat) (c d : Nat) (w : World) (H : Bm w gb m a b ca cb) (h1 : c < ww * hh) (h2 : d < ww * hh) :
    Calls Try.prog 136 #[.int .i64 c, .int .i64 d, .pointer (some ⟨gb, 0, none⟩)] w fun e w' => e = .returned (.int .i64 (stp m c d)) ∧ Below w.heap.size w w' := by
  have HH := Lib.hid H
  obtain ⟨p0, p1, p2, p3, -⟩ := H.box.four
  clear H
  go_enter Try.func136, Try.ntmps136
  go_wp2_with fail
  refine (impl_step m ww hh g a b ca cb c d w HH.out.r HH.out.c h1 h2).mono ?_
  rintro e w' ⟨rfl, hb⟩
  go_wp2
  go_ret
  exact ⟨rfl, hb⟩
theorem to_any (m : Mp) (ww hh : Nat) (g : GoodM m ww hh) (a b : Option Addr) (ca cb gb : Nat) (c d : Nat) (w : World) (H : Bm w gb m a b ca cb) (h1 : c < ww * hh) (h2 : d < ww * hh) :
    Calls Try.prog 144 #[.int .i64 c, .int .i64 d, .pointer (some ⟨gb, 0, none⟩)] w fun e w' => e = .returned (.int .i64 (stp m d c)) ∧ Below w.heap.size w w' := by
  have HH := Lib.hid H
  obtain ⟨p0, p1, p2, p3, -⟩ := H.box.four
  clear H
  go_enter Try.func144, Try.ntmps144
  go_wp2_with fail
  refine (impl_step m ww hh g a b ca cb d c w HH.out.r HH.out.c h2 h1).mono ?_
  rintro e w' ⟨rfl, hb⟩
  go_wp2
  go_ret
  exact ⟨rfl, hb⟩

end Go.Proofs.Ytdfmfmndmldggaa.StpF

namespace Go.Proofs.Ytdfmfmndmldggaa.Lb
set_option linter.unusedVariables false

/-- The numbers at the places that a function tells. -/
def gath (f : Nat → Nat) (n : Nat) (l : List Int) : List Int := (List.range n).map fun k => zAt l (f k)
theorem gath_length (f : Nat → Nat) (n : Nat) (l : List Int) : (gath f n l).length = n := by simp [gath]
theorem gath_at (f : Nat → Nat) (n : Nat) (l : List Int) (k : Nat) (h : k < n) : zAt (gath f n l) k = zAt l (f k) := by simp [gath, zAt, h]
theorem gath_take (f : Nat → Nat) (n : Nat) (l : List Int) (k : Nat) (h : k < n) : (gath f n l).take (k + 1) = (gath f n l).take k ++ [zAt l (f k)] := by
  rw [zAt_take _ k (by rw [gath_length]; exact h), gath_at f n l k h]
theorem gath_take_all (f : Nat → Nat) (n : Nat) (l : List Int) : (gath f n l).take n = gath f n l := by rw [List.take_of_length_le (by rw [gath_length]; exact Nat.le_refl n)]
theorem gath_take_length (f : Nat → Nat) (n : Nat) (l : List Int) (k : Nat) (h : k ≤ n) : ((gath f n l).take k).length = k := by simp [gath]; omega

/-- The place in the given map of a place in the turned one; in the mirrored one. -/
def fromT (w h k : Nat) : Nat := (h - 1 - k % h) * w + k / h
def fromM (w k : Nat) : Nat := (k / w) * w + (w - 1 - k % w)
/-- The place in the turned map of a place in the given one. -/
def toT (w h c : Nat) : Nat := (c % w) * h + (h - 1 - c / w)

theorem fromT_at {w h x y : Nat} (hx : x < w) (hy : y < h) : fromT w h (x * h + (h - 1 - y)) = y * w + x := by
  have h1 : h - 1 - y < h := by omega
  unfold fromT
  rw [mod_mk h1, div_mk h1]
  congr 2
  omega
theorem toT_lt {w h c : Nat} (hw : 1 ≤ w) (hc : c < w * h) : toT w h c < w * h := by
  have hy := div_lt_of hw hc
  have hx : c % w < w := Nat.mod_lt _ hw
  unfold toT
  have hq : h - 1 - c / w < h := by
    generalize c / w = q at hy ⊢
    omega
  have := lt_mk (w := h) (h := w) (x := h - 1 - c / w) (y := c % w) hq hx
  rwa [Nat.mul_comm h w] at this
theorem from_to {w h c : Nat} (hw : 1 ≤ w) (hc : c < w * h) : fromT w h (toT w h c) = c := by
  unfold toT
  rw [fromT_at (Nat.mod_lt _ hw) (div_lt_of hw hc), Nat.mul_comm]
  exact (cell_split w c).symm
theorem to_from {w h k : Nat} (hh : 1 ≤ h) (hk : k < w * h) : fromT w h k < w * h ∧ toT w h (fromT w h k) = k := by
  have hx : k / h < w := Nat.div_lt_of_lt_mul (by rwa [Nat.mul_comm])
  have hy : k % h < h := Nat.mod_lt _ hh
  have e : k = (k / h) * h + (h - 1 - (h - 1 - k % h)) := by
    have := cell_split h k
    rw [Nat.mul_comm] at this
    omega
  have h1 : fromT w h k = (h - 1 - k % h) * w + k / h := rfl
  constructor
  · rw [h1]; exact lt_mk hx (by omega)
  · rw [h1]
    unfold toT
    rw [mod_mk hx, div_mk hx]
    omega
theorem fromM_at {w x y : Nat} (hx : x < w) : fromM w (y * w + (w - 1 - x)) = y * w + x := by
  have h1 : w - 1 - x < w := by omega
  unfold fromM
  rw [mod_mk h1, div_mk h1]
  omega
theorem fromM_lt {w h k : Nat} (hw : 1 ≤ w) (hk : k < w * h) : fromM w k < w * h := by
  unfold fromM
  exact lt_mk (by omega) (div_lt_of hw hk)

/-- The turned map; the mirrored one. -/
def turnM (m : Mp) : Mp := ⟨m.H, m.W, gath (fromT m.W.toNat m.H.toNat) (m.W.toNat * m.H.toNat) m.R, gath (fromT m.W.toNat m.H.toNat) (m.W.toNat * m.H.toNat) m.C⟩
def mirM (m : Mp) : Mp := ⟨m.W, m.H, gath (fromM m.W.toNat) (m.W.toNat * m.H.toNat) m.R, gath (fromM m.W.toNat) (m.W.toNat * m.H.toNat) m.C⟩

/-- What is there when the places up to 'c' have been written. -/
def part (f : Nat → Nat) (n : Nat) (l : List Int) (c : Nat) : List Int := (List.range n).map fun j => if f j < c then zAt l (f j) else 0
theorem part_length (f : Nat → Nat) (n : Nat) (l : List Int) (c : Nat) : (part f n l c).length = n := by simp [part]
theorem part_zero (f : Nat → Nat) (n : Nat) (l : List Int) : part f n l 0 = List.replicate n 0 := by
  apply List.ext_getElem
  · simp [part]
  · intro i h1 h2; simp [part]
theorem part_all (f : Nat → Nat) (n : Nat) (l : List Int) (hf : ∀ j, j < n → f j < n) : part f n l n = gath f n l := by
  apply List.ext_getElem
  · simp [part, gath]
  · intro i h1 h2
    have : i < n := by simpa [part] using h1
    simp [part, gath, hf i this]
theorem part_set (f : Nat → Nat) (n : Nat) (l : List Int) (c t : Nat) (ht : t < n) (h1 : f t = c) (h2 : ∀ j, j < n → f j = c → j = t) : (part f n l c).set t (zAt l c) = part f n l (c + 1) := by
  apply List.ext_getElem
  · simp [part]
  · intro i hi1 hi2
    have hi : i < n := by simpa [part] using hi2
    rw [List.getElem_set]
    by_cases e : t = i
    · subst e
      simp [part, h1]
    · have hne : f i ≠ c := fun e2 => e (h2 i hi e2).symm
      simp only [e, if_false]
      simp only [part, List.getElem_map, List.getElem_range]
      by_cases hlt : f i < c
      · rw [if_pos hlt, if_pos (by omega)]
      · rw [if_neg hlt, if_neg (by omega)]

/-- What is there when 'r' rows have been turned round. -/
def rows (w n : Nat) (l : List Int) (r : Nat) : List Int := (List.range n).map fun j => if j / w < r then zAt l (fromM w j) else zAt l j
theorem rows_length (w n : Nat) (l : List Int) (r : Nat) : (rows w n l r).length = n := by simp [rows]
theorem rows_zero (w n : Nat) (l : List Int) (h : l.length = n) : rows w n l 0 = l := by
  apply List.ext_getElem
  · simp [rows, h]
  · intro i h1 h2; simp [rows, zAt, h2]
theorem rows_all (w h : Nat) (hw : 1 ≤ w) (l : List Int) : rows w (w * h) l h = gath (fromM w) (w * h) l := by
  apply List.ext_getElem
  · simp [rows, gath]
  · intro i h1 h2
    have : i < w * h := by simpa [rows] using h1
    simp [rows, gath, div_lt_of hw this]
theorem turn_ok {m : Mp} {w h : Nat} (g : GoodM m w h) : GoodM (turnM m) h w ∧ turnM m = ⟨h, w, gath (fromT w h) (w * h) m.R, gath (fromT w h) (w * h) m.C⟩ := by
  have e1 : m.W.toNat = w := by rw [g.W]; rfl
  have e2 : m.H.toNat = h := by rw [g.H]; rfl
  have e3 : turnM m = ⟨h, w, gath (fromT w h) (w * h) m.R, gath (fromT w h) (w * h) m.C⟩ := by unfold turnM; rw [e1, e2, g.W, g.H]
  refine ⟨?_, e3⟩
  rw [e3]
  have n36 := g.n36
  have n1 := g.n1
  have hc : h * w = w * h := Nat.mul_comm h w
  refine ⟨rfl, rfl, g.h1, g.h6, g.w1, g.w6, by rw [gath_length, hc], by rw [gath_length, hc], by omega, by omega, fun i hi => ?_⟩
  have hi' : i < w * h := by omega
  unfold CellOk
  simp only
  rw [gath_at _ _ _ _ hi', gath_at _ _ _ _ hi']
  exact g.cell _ (to_from g.h1 hi').1
theorem mir_ok {m : Mp} {w h : Nat} (g : GoodM m w h) : GoodM (mirM m) w h ∧ mirM m = ⟨w, h, gath (fromM w) (w * h) m.R, gath (fromM w) (w * h) m.C⟩ := by
  have e1 : m.W.toNat = w := by rw [g.W]; rfl
  have e2 : m.H.toNat = h := by rw [g.H]; rfl
  have e3 : mirM m = ⟨w, h, gath (fromM w) (w * h) m.R, gath (fromM w) (w * h) m.C⟩ := by unfold mirM; rw [e1, e2, g.W, g.H]
  refine ⟨?_, e3⟩
  rw [e3]
  refine ⟨rfl, rfl, g.w1, g.w6, g.h1, g.h6, by rw [gath_length], by rw [gath_length], g.n1, g.n36, fun i hi => ?_⟩
  unfold CellOk
  simp only
  rw [gath_at _ _ _ _ hi, gath_at _ _ _ _ hi]
  exact g.cell _ (fromM_lt g.w1 hi)

end Go.Proofs.Ytdfmfmndmldggaa.Lb

namespace Go.Proofs.Ytdfmfmndmldggaa.SpecB
open Go.RowKit Lb IntS MapS MapV
set_option linter.unusedSimpArgs false
set_option linter.unusedVariables false

theorem mp_eq {m : Mp} {ww hh : Nat} (g : GoodM m ww hh) : m = ⟨ww, hh, m.R, m.C⟩ := by
  have h1 := g.W
  have h2 := g.H
  cases m
  simp only at h1 h2
  subst h1 h2
  rfl
theorem below_drewN {B : Nat} {a w : World} (h : Below B a w) (n : Nat) : Below B a (w.drewN n) := ⟨h.os, h.tape, h.output, h.size, h.block⟩
/-- A row stands beside a store into a block of another kind. -/
theorem own_far {w : World} {base : Nat} {e t : TypeId} {v : Value} {n g i : Nat} {xs : List Value} {cs : Array Value} (h : w.ownsRow base e 1 v n xs) (hb : Blk w g t cs) (hne : e ≠ t) (u : Value) : (w.setCell ⟨g, i, none⟩ u).ownsRow base e 1 v n xs := by
  refine ⟨h.1, ?_⟩
  rcases h.2 with h2 | ⟨g', cap, cur, hv, hg, hh, r⟩
  · exact .inl h2
  · refine .inr ⟨g', cap, cur, hv, hg, ?_, r⟩
    refine (Below.heap_setCell w _ u g' ?_).trans hh
    rintro rfl
    have h3 := hb
    unfold Blk at h3
    rw [hh] at h3
    injection h3 with h3
    injection h3 with _ h4
    exact hne h4
theorem own_ne {w : World} {base : Nat} {e t : TypeId} {v : Value} {n g : Nat} {xs : List Value} {cs : Array Value} (h : w.ownsRow base e 1 v n xs) (hb : Blk w g t cs) (hne : e ≠ t) : v.ownBlock ≠ some g := by
  rcases h.2 with ⟨rfl, _⟩ | ⟨g', cap, cur, rfl, hg, hh, r⟩
  · simp [Value.ownBlock]
  · intro e2
    obtain rfl : g' = g := by simpa [Value.ownBlock] using e2
    have h3 := hb
    unfold Blk at h3
    rw [hh] at h3
    injection h3 with h3
    injection h3 with _ h4
    exact hne h4
theorem own_grown {w w' : World} {base : Nat} {e : TypeId} {v : Value} {n : Nat} {xs : List Value} {r : Option Nat} (h : w.ownsRow base e 1 v n xs) (hg : w.grownBy w' r) (hr : ∀ p q, v.ownBlock = some p → r = some q → p ≠ q) : w'.ownsRow base e 1 v n xs := by
  refine h.kept hg ?_
  cases hv : v.ownBlock with
  | none => exact .inl rfl
  | some p => exact .inr (fun e => hr p p hv e.symm rfl)
theorem blk_grown {w w' : World} {g : Nat} {t : TypeId} {cs : Array Value} {r : Option Nat} (h : Blk w g t cs) (hg : w.grownBy w' r) (hr : r ≠ some g) : Blk w' g t cs := (hg.block g h.lt (fun e => hr e.symm)).trans h

/-- Two rows that grow, in the two fields of a map of the call's own. -/
structure Two (w : World) (s : Nat) (p q : Int) (R C : List Int) (box : Array Value) (kr kc : Nat) (vr vc : Value) (wr : World) : Prop where
  r : wr.ownsRow s 3 1 vr kr ((R.take kr).map (Value.int .i64))
  c : wr.ownsRow s 3 1 vc kc ((C.take kc).map (Value.int .i64))
  ne : ∀ x y, vr.ownBlock = some x → vc.ownBlock = some y → x ≠ y
  out : Blk wr (s + 1 + 1) 26 #[.int .i64 p, .int .i64 q, vr, vc]
  box : Blk wr w.heap.size 26 box
  res : Blk wr (w.heap.size + 1) 26 #[.int .i64 0, .int .i64 0, .slice none 0 0, .slice none 0 0]
  b : Below w.heap.size w wr
theorem Two.below {w : World} {s : Nat} {p q : Int} {R C : List Int} {box : Array Value} {kr kc : Nat} {vr vc : Value} {wr w' : World} (h : Two w s p q R C box kr kc vr vc wr) (hb : Below wr.heap.size wr w') : Two w s p q R C box kr kc vr vc w' :=
  ⟨owns_below h.r hb, owns_below h.c hb, h.ne, h.out.later hb, h.box.later hb, h.res.later hb, h.b.trans (hb.mono h.b.size)⟩
/-- One more in the first row: the append and the store. -/
theorem Two.putR {w : World} {s : Nat} {p q : Int} {R C : List Int} {box : Array Value} {kr kc : Nat} {vr vc : Value} {wr w' : World} (h : Two w s p q R C box kr kc vr vc wr) (hs : w.heap.size + 1 < s) {x : Int} (hx : R.take (kr + 1) = R.take kr ++ [x]) {g cap : Nat}
    (ho : w'.ownsRow s 3 1 (.slice (some ⟨g, 0, none⟩) (kr + 1) cap) (kr + 1) ((R.take kr).map (Value.int .i64) ++ [.int .i64 x])) (hg : wr.grownBy w' vr.ownBlock) (hl : vr.ownBlock = some g ∨ g = wr.heap.size) :
    Two w s p q R C box (kr + 1) kc (.slice (some ⟨g, 0, none⟩) (kr + 1) cap) vc (w'.setCell ⟨s + 1 + 1, 2, none⟩ (.slice (some ⟨g, 0, none⟩) (kr + 1) cap)) := by
  have hlt := h.r.lt
  have hne : (3 : TypeId) ≠ 26 := by decide
  have o1 := blk_grown h.out hg (own_ne h.r h.out hne)
  have b1 := blk_grown h.box hg (own_ne h.r h.box hne)
  have r1 := blk_grown h.res hg (own_ne h.r h.res hne)
  have c1 := own_grown h.c hg (fun x y hx hy => (fun e => h.ne y x hy hx e.symm))
  refine ⟨?_, own_far c1 o1 hne _, ?_, ?_, b1.far (by show w.heap.size ≠ s + 1 + 1; omega) _, r1.far (by show w.heap.size + 1 ≠ s + 1 + 1; omega) _, (h.b.grown hg h.b.size (fun k e => by have := (hlt k e).1; omega)).setCell (by show w.heap.size ≤ s + 1 + 1; omega) _⟩
  · rw [hx, List.map_append]
    exact own_far ho o1 hne _
  · intro y z hy hz
    obtain rfl : g = y := by simpa [Value.ownBlock] using hy
    rcases hl with hl | hl
    · exact h.ne g z hl hz
    · have := (h.c.lt z hz).2
      omega
  · have := o1.set_ 2 (.slice (some ⟨g, 0, none⟩) (kr + 1) cap)
    simpa using this
theorem Two.putC {w : World} {s : Nat} {p q : Int} {R C : List Int} {box : Array Value} {kr kc : Nat} {vr vc : Value} {wr w' : World} (h : Two w s p q R C box kr kc vr vc wr) (hs : w.heap.size + 1 < s) {x : Int} (hx : C.take (kc + 1) = C.take kc ++ [x]) {g cap : Nat}
    (ho : w'.ownsRow s 3 1 (.slice (some ⟨g, 0, none⟩) (kc + 1) cap) (kc + 1) ((C.take kc).map (Value.int .i64) ++ [.int .i64 x])) (hg : wr.grownBy w' vc.ownBlock) (hl : vc.ownBlock = some g ∨ g = wr.heap.size) :
    Two w s p q R C box kr (kc + 1) vr (.slice (some ⟨g, 0, none⟩) (kc + 1) cap) (w'.setCell ⟨s + 1 + 1, 3, none⟩ (.slice (some ⟨g, 0, none⟩) (kc + 1) cap)) := by
  have hlt := h.c.lt
  have hne : (3 : TypeId) ≠ 26 := by decide
  have o1 := blk_grown h.out hg (own_ne h.c h.out hne)
  have b1 := blk_grown h.box hg (own_ne h.c h.box hne)
  have r1 := blk_grown h.res hg (own_ne h.c h.res hne)
  have c1 := own_grown h.r hg (fun x y hx hy => h.ne x y hx hy)
  refine ⟨own_far c1 o1 hne _, ?_, ?_, ?_, b1.far (by show w.heap.size ≠ s + 1 + 1; omega) _, r1.far (by show w.heap.size + 1 ≠ s + 1 + 1; omega) _, (h.b.grown hg h.b.size (fun k e => by have := (hlt k e).1; omega)).setCell (by show w.heap.size ≤ s + 1 + 1; omega) _⟩
  · rw [hx, List.map_append]
    exact own_far ho o1 hne _
  · intro y z hy hz
    obtain rfl : g = z := by simpa [Value.ownBlock] using hz
    rcases hl with hl | hl
    · exact h.ne y g hy hl
    · have := (h.r.lt y hy).2
      omega
  · have := o1.set_ 3 (.slice (some ⟨g, 0, none⟩) (kc + 1) cap)
    simpa using this

/-- Both rows whole. -/
theorem Two.done {w : World} {s : Nat} {p q : Int} {R C : List Int} {box : Array Value} {n : Nat} {vr vc : Value} {wr : World} (h : Two w s p q R C box n n vr vc wr) (hR : R.length = n) (hC : C.length = n) :
    ∃ ar cr ac cc, vr = .slice ar R.length cr ∧ vc = .slice ac C.length cc ∧ OwnI wr s (.slice ar R.length cr) R ∧ OwnI wr s (.slice ac C.length cc) C ∧ ∀ x y, ar = some x → ac = some y → x.block ≠ y.block := by
  have h1 : OwnI wr s vr R := by
    have := h.r
    rw [List.take_of_length_le (by omega)] at this
    unfold OwnI
    rw [hR]; exact this
  have h2 : OwnI wr s vc C := by
    have := h.c
    rw [List.take_of_length_le (by omega)] at this
    unfold OwnI
    rw [hC]; exact this
  obtain ⟨ar, cr, e1, _, _⟩ := OwnI.slice h1
  obtain ⟨ac, cc, e2, _, _⟩ := OwnI.slice h2
  have hne := h.ne
  subst e1 e2
  refine ⟨ar, cr, ac, cc, rfl, rfl, h1, h2, fun x y hx hy => ?_⟩
  subst hx hy
  exact hne x.block y.block (by simp [Value.ownBlock]) (by simp [Value.ownBlock])

/-- A map and whether there is one. -/
def MPost (w : World) (m : Mp) (ok : Bool) (e : Ending) (w' : World) : Prop := ∃ v, e = .returned (.tuple #[v, .bool ok]) ∧ OwnM w' w.heap.size v m ∧ Below w.heap.size w w'


end Go.Proofs.Ytdfmfmndmldggaa.SpecB

namespace Go.Proofs.Ytdfmfmndmldggaa.TblS
open Go.RowKit Lb IntS MapS SpecB
set_option linter.unusedSimpArgs false
set_option linter.unusedVariables false

theorem rInfo : (Try.prog.info? 24).map (fun i => (i.zero, i.size, i.bytes)) = some (some (.slice none 0 0), 1, 24) := by kernel_rfl

/-- 'n' lists of numbers that can be read. -/
def Rd (w : World) (a : Option Addr) (n : Nat) (zs : Nat → List Int) : Prop :=
  ∃ rs : Nat → Value, RowAt w a n rs ∧ ∀ i, i < n → ∃ ai ci, rs i = .slice ai (zs i).length ci ∧ IRow w ai (zs i)
theorem Rd.below {w w' : World} {a : Option Addr} {n : Nat} {zs : Nat → List Int} (h : Rd w a n zs) (hb : Below w.heap.size w w') : Rd w' a n zs := by
  obtain ⟨rs, h1, h2⟩ := h
  refine ⟨rs, RowAt.below h1 hb, fun i hi => ?_⟩
  obtain ⟨ai, ci, e, h3⟩ := h2 i hi
  exact ⟨ai, ci, e, RowAt.below h3 hb⟩
theorem Rd.belowB {B : Nat} {w w' : World} {a : Option Addr} {n : Nat} {zs : Nat → List Int} (h : Rd w a n zs) (hb : Below B w w') (hB : w.heap.size ≤ B) : Rd w' a n zs := h.below (hb.mono hB)

/-- Lists of the call's own: a row of rows, all in blocks of their own. -/
structure OwnP (w : World) (base : Nat) (v : Value) (n : Nat) (zs : Nat → List Int) (rs : Nat → Value) : Prop where
  tbl : w.ownsRow base 24 1 v n ((List.range n).map rs)
  row : ∀ i, i < n → OwnI w base (rs i) (zs i)
  ne : ∀ i j, i < j → j < n → ∀ x, (rs i).ownBlock = some x → (rs j).ownBlock ≠ some x
theorem OwnP.below {w w' : World} {base n : Nat} {v : Value} {zs : Nat → List Int} {rs : Nat → Value} (h : OwnP w base v n zs rs) (hb : Below w.heap.size w w') : OwnP w' base v n zs rs :=
  ⟨owns_below h.tbl hb, fun i hi => owns_below (h.row i hi) hb, h.ne⟩
theorem OwnP.rebase {w : World} {b b' n : Nat} {v : Value} {zs : Nat → List Int} {rs : Nat → Value} (h : OwnP w b v n zs rs) (hb : b' ≤ b) : OwnP w b' v n zs rs :=
  ⟨IntS.rebase h.tbl hb, fun i hi => IntS.rebase (h.row i hi) hb, h.ne⟩
theorem OwnP.rd {w : World} {base n cap : Nat} {a : Option Addr} {zs : Nat → List Int} {rs : Nat → Value} (h : OwnP w base (.slice a n cap) n zs rs) : Rd w a n zs := by
  refine ⟨rs, ?_, fun i hi => ?_⟩
  · rcases h.tbl.2 with ⟨_, h0⟩ | ⟨g, c, cur, hv, _⟩
    · exact .inl h0
    · obtain rfl : a = some ⟨g, 0, none⟩ := by simpa using (Value.slice.inj hv).1
      exact (RowAt.of_owns h.tbl).congr fun k hk => by simp [hk]
  · obtain ⟨ai, ci, e, hr, _⟩ := OwnI.slice (h.row i hi)
    exact ⟨ai, ci, e, hr⟩
theorem OwnP.slice {w : World} {base n : Nat} {v : Value} {zs : Nat → List Int} {rs : Nat → Value} (h : OwnP w base v n zs rs) : ∃ a cap, v = .slice a n cap := by
  rcases h.tbl.2 with ⟨rfl, h0⟩ | ⟨g, cap, cur, rfl, _⟩
  · exact ⟨none, 0, by rw [h0]⟩
  · exact ⟨_, cap, rfl⟩
/-- Two rows of different kinds lie apart. -/
theorem own_own_ne {w : World} {b b' : Nat} {e e' : TypeId} {v v' : Value} {n n' : Nat} {xs xs' : List Value} (h : w.ownsRow b e 1 v n xs) (h' : w.ownsRow b' e' 1 v' n' xs') (hne : e ≠ e') : ∀ x y, v.ownBlock = some x → v'.ownBlock = some y → x ≠ y := by
  rintro x y hx hy rfl
  rcases h.2 with ⟨rfl, _⟩ | ⟨g, cap, cur, rfl, hg, hh, _⟩
  · simp [Value.ownBlock] at hx
  · rcases h'.2 with ⟨rfl, _⟩ | ⟨g', cap', cur', rfl, hg', hh', _⟩
    · simp [Value.ownBlock] at hy
    · obtain rfl : g = x := by simpa [Value.ownBlock] using hx
      obtain rfl : g' = g := by simpa [Value.ownBlock] using hy
      rw [hh] at hh'
      injection hh' with h3
      injection h3 with _ h4
      exact hne h4
theorem own_lt {w : World} {b : Nat} {e : TypeId} {v : Value} {n : Nat} {xs : List Value} (h : w.ownsRow b e 1 v n xs) : ∀ x, v.ownBlock = some x → b ≤ x ∧ x < w.heap.size := h.lt
/-- The sum of the lengths ahead of a list. -/
def tot (zs : Nat → List Int) : Nat → Nat
  | 0 => 0
  | n + 1 => tot zs n + (zs n).length
theorem tot_le {zs : Nat → List Int} {c n : Nat} (h : ∀ i, i < n → (zs i).length ≤ c) : tot zs n ≤ c * n := by
  induction n with
  | zero => simp [tot]
  | succ n ih =>
    have h1 := ih fun i hi => h i (by omega)
    have h2 := h n (by omega)
    rw [tot, Nat.mul_succ]
    omega
theorem tot_mono {zs : Nat → List Int} {i n : Nat} (h : i ≤ n) : tot zs i ≤ tot zs n := by
  induction n with
  | zero => simp [show i = 0 by omega]
  | succ n ih =>
    by_cases e : i = n + 1
    · subst e; exact Nat.le_refl _
    · have := ih (by omega)
      rw [tot]; omega
/-- What stands in the lists when the first 'i' are marked. -/
def mk (k : Int) (zs : Nat → List Int) (i : Nat) : Nat → List Int := fun j => if j < i then markZ (k + tot zs j) (zs j).length else zs j
theorem mk_zero (k : Int) (zs : Nat → List Int) : mk k zs 0 = zs := by funext j; simp [mk]
theorem mk_length (k : Int) (zs : Nat → List Int) (i j : Nat) : (mk k zs i j).length = (zs j).length := by
  unfold mk; split <;> simp [markZ_length]
theorem mk_succ_ne (k : Int) (zs : Nat → List Int) {i j : Nat} (h : j ≠ i) : mk k zs (i + 1) j = mk k zs i j := by
  unfold mk
  by_cases e : j < i
  · rw [if_pos e, if_pos (by omega)]
  · rw [if_neg e, if_neg (by omega)]
theorem mk_succ_at (k : Int) (zs : Nat → List Int) (i : Nat) : mk k zs (i + 1) i = markZ (k + tot zs i) (zs i).length := by
  unfold mk; rw [if_pos (by omega)]
theorem mk_at (k : Int) (zs : Nat → List Int) (i : Nat) : mk k zs i i = zs i := by unfold mk; rw [if_neg (by omega)]

/-- One list of the table has been written. -/
theorem OwnP.set_ {w w' : World} {base n : Nat} {v : Value} {zs : Nat → List Int} {rs : Nat → Value} (h : OwnP w base v n zs rs) {i : Nat} (hi : i < n) {zs' : Nat → List Int} (hz : ∀ j, j ≠ i → zs' j = zs j) (ho : OwnI w' base (rs i) (zs' i)) (hg : w.grownBy w' (rs i).ownBlock) : OwnP w' base v n zs' rs := by
  refine ⟨own_grown h.tbl hg (own_own_ne h.tbl (h.row i hi) (by decide)), fun j hj => ?_, h.ne⟩
  by_cases e : j = i
  · subst e; exact ho
  · rw [hz j e]
    refine own_grown (h.row j hj) hg (fun x y hx hy => ?_)
    rcases Nat.lt_or_gt_of_ne e with hlt | hgt
    · rintro rfl; exact h.ne j i hlt hi x hx hy
    · rintro rfl; exact h.ne i j hgt hj x hy hx

end Go.Proofs.Ytdfmfmndmldggaa.TblS

namespace Go.Proofs.Ytdfmfmndmldggaa.Lb
set_option linter.unusedVariables false

def srt (p : List Nat) : List Nat := p.mergeSort (fun a b => decide (a ≤ b))
theorem mem_srt {p : List Nat} {x : Nat} : x ∈ srt p ↔ x ∈ p := List.mem_mergeSort
theorem srt_length (p : List Nat) : (srt p).length = p.length := List.length_mergeSort p
theorem srt_sorted {p : List Nat} (h : p.Nodup) : (srt p).Pairwise (· < ·) := by
  have h1 : (srt p).Pairwise (fun a b => decide (a ≤ b) = true) := by
    refine List.pairwise_mergeSort (fun a b c h1 h2 => ?_) (fun a b => ?_) p
    · simp only [decide_eq_true_eq] at *; omega
    · simp only [Bool.or_eq_true, decide_eq_true_eq]; omega
  have h2 : (srt p).Nodup := (List.mergeSort_perm p _).nodup_iff.2 h
  refine (h1.and h2).imp fun {a b} h => ?_
  have h3 : a ≤ b := by simpa using h.1
  have h4 : a ≠ b := h.2
  omega
theorem srt_ints (p : List Nat) : (ints p).mergeSort (fun x y => decide (x ≤ y)) = ints (srt p) := by
  unfold srt ints
  refine (List.map_mergeSort (fun a _ b _ => ?_)).symm
  simp
theorem Bfs.part {m : Mp} {w h k : Nat} (g : GoodM m w h) (ho : Opn m (w * h) k) {p : List Nat} {d : Nat} (b : Bfs m (w * h) k p d) (hd : p.length ≤ d) : IsPart m k (srt p) :=
  ⟨srt_sorted b.nodup, fun x => by rw [mem_srt]; exact b.full g ho hd x⟩

/-- The lists of the parts as numbers. -/
def zsOf (ps : List (List Nat)) (i : Nat) : List Int := ints (ps.getD i [])
theorem zsOf_old {ps : List (List Nat)} {p : List Nat} {i : Nat} (h : i < ps.length) : zsOf (ps ++ [p]) i = zsOf ps i := by
  unfold zsOf
  simp [List.getD, List.getElem?_append_left h]
theorem zsOf_new (ps : List (List Nat)) (p : List Nat) : zsOf (ps ++ [p]) ps.length = ints p := by
  unfold zsOf
  simp [List.getD]
theorem PartsTo.len {m : Mp} {w h k : Nat} (g : GoodM m w h) {ps : List (List Nat)} (hp : PartsTo m (w * h) k ps) (i : Nat) : (zsOf ps i).length ≤ 36 := by
  unfold zsOf
  rw [ints_length]
  by_cases hi : i < ps.length
  · obtain ⟨c, hc, hq⟩ := hp.parts (ps.getD i []) (by simp [hi])
    have := hq.length g hc
    have := g.n36
    omega
  · simp [List.getD, List.getElem?_eq_none (Nat.le_of_not_lt hi)]

end Go.Proofs.Ytdfmfmndmldggaa.Lb

namespace Go.Proofs.Ytdfmfmndmldggaa.PrtB
open Go.RowKit Lb IntS MapS SpecB TblS
set_option linter.unusedSimpArgs false
set_option linter.unusedVariables false

/-- The bits. -/
def seenCs (sb : Nat → Bool) : Array Value := ((List.range 36).map fun i => Value.bool (sb i)).toArray
def setB (sb : Nat → Bool) (j : Nat) : Nat → Bool := fun i => sb i || i == j
theorem seenCs_set (sb : Nat → Bool) (j : Nat) : (seenCs sb).setIfInBounds j (.bool true) = seenCs (setB sb j) := by
  unfold seenCs setB
  apply Array.ext
  · simp
  · intro i h1 h2
    simp only [Array.size_setIfInBounds, List.size_toArray, List.length_map, List.length_range] at h1
    by_cases e : j = i
    · subst e; simp [Array.getElem_setIfInBounds]
    · simp [Array.getElem_setIfInBounds, e, show (i == j) = false by simp; omega]
theorem seen_cell {w : World} {g : Nat} {t : TypeId} {sb : Nat → Bool} (h : Blk w g t (seenCs sb)) {j : Nat} (hj : j < 36) : w.cell? ⟨g, j, none⟩ = some (.bool (sb j)) ∧ w.frozen? ⟨g, j, none⟩ = false := by
  unfold Blk at h
  constructor
  · simp [World.cell?, h, seenCs, hj]
  · simp [World.frozen?, h]

/-- The lists beside a growing row. -/
theorem beside {w w' : World} {base s n : Nat} {v vq : Value} {zs : Nat → List Int} {rs : Nat → Value} {z : List Int} (h : OwnP w base v n zs rs) (hq : OwnI w s vq z) (hlow : ∀ i, i < n → ∀ x, (rs i).ownBlock = some x → x < s) (hg : w.grownBy w' vq.ownBlock) : OwnP w' base v n zs rs :=
  ⟨own_grown h.tbl hg (own_own_ne h.tbl hq (by decide)), fun i hi => own_grown (h.row i hi) hg (fun x y hx hy => by have := hlow i hi x hx; have := (hq.lt y hy).1; omega), h.ne⟩
theorem far {w : World} {base n g i : Nat} {t : TypeId} {cs : Array Value} {v : Value} {zs : Nat → List Int} {rs : Nat → Value} (h : OwnP w base v n zs rs) (hb : Blk w g t cs) (h1 : (24 : TypeId) ≠ t) (h2 : (3 : TypeId) ≠ t) (u : Value) : OwnP (w.setCell ⟨g, i, none⟩ u) base v n zs rs :=
  ⟨own_far h.tbl hb h1 u, fun j hj => own_far (h.row j hj) hb h2 u, h.ne⟩
/-- One more list. -/
theorem push {w w' : World} {base s n : Nat} {v v' vq : Value} {zs zs' : Nat → List Int} {rs : Nat → Value} {z : List Int} (h : OwnP w base v n zs rs) (hq : OwnI w s vq z) (hs : base ≤ s) (hlow : ∀ i, i < n → ∀ x, (rs i).ownBlock = some x → x < s)
    (ho : w'.ownsRow base 24 1 v' (n + 1) ((List.range n).map rs ++ [vq])) (hg : w.grownBy w' v.ownBlock) (h1 : ∀ i, i < n → zs' i = zs i) (h2 : zs' n = z) : OwnP w' base v' (n + 1) zs' (fun i => if i = n then vq else rs i) := by
  have e : ∀ i, i < n → (if i = n then vq else rs i) = rs i := fun i hi => if_neg (by omega)
  refine ⟨?_, fun i hi => ?_, fun i j hij hj x hx => ?_⟩
  · rw [List.range_succ, List.map_append]
    have e2 : (List.range n).map (fun i => if i = n then vq else rs i) = (List.range n).map rs := List.map_congr_left fun i hi => e i (by simpa using hi)
    rw [e2]
    simpa using ho
  · by_cases hin : i = n
    · subst hin
      simp only [if_pos]
      rw [h2]
      exact IntS.rebase (own_grown hq hg (fun x y hx hy => fun e => own_own_ne h.tbl hq (by decide) y x hy hx e.symm)) hs
    · rw [e i (by omega), h1 i (by omega)]
      exact own_grown (h.row i (by omega)) hg (fun x y hx hy => fun e => own_own_ne h.tbl (h.row i (by omega)) (by decide) y x hy hx e.symm)
  · by_cases hjn : j = n
    · subst hjn
      simp only [if_pos]
      rw [e i hij] at hx
      intro hy
      have := hlow i hij x hx
      have := (hq.lt x hy).1
      omega
    · have hjn' : j < n := by omega
      simp only [e j hjn']
      rw [e i (by omega)] at hx
      exact h.ne i j hij hjn' x hx

/-- What stands while the parts are looked for. -/
structure Srch (w : World) (g : Nat) (box : Array Value) (n : Nat) (zs : Nat → List Int) (rs : Nat → Value) (vp : Value) (sb : Nat → Bool) (wr : World) : Prop where
  b : Below w.heap.size w wr
  box : Blk wr w.heap.size 26 box
  own : OwnP wr w.heap.size vp n zs rs
  seen : Blk wr g 122 (seenCs sb)
  hg : w.heap.size < g
theorem Srch.below {w : World} {g : Nat} {box : Array Value} {n : Nat} {zs : Nat → List Int} {rs : Nat → Value} {vp : Value} {sb : Nat → Bool} {wr w' : World} (h : Srch w g box n zs rs vp sb wr) (hb : Below wr.heap.size wr w') : Srch w g box n zs rs vp sb w' :=
  ⟨h.b.trans (hb.mono h.b.size), h.box.later hb, h.own.below hb, h.seen.later hb, h.hg⟩
theorem Srch.alloc {w : World} {g : Nat} {box : Array Value} {n : Nat} {zs : Nat → List Int} {rs : Nat → Value} {vp : Value} {sb : Nat → Bool} {wr : World} (h : Srch w g box n zs rs vp sb wr) (o : Obj) : Srch w g box n zs rs vp sb (wr.alloc o) :=
  h.below ((Below.refl _ _).alloc (Nat.le_refl _) _)
theorem Srch.set_ {w : World} {g : Nat} {box : Array Value} {n : Nat} {zs : Nat → List Int} {rs : Nat → Value} {vp : Value} {sb : Nat → Bool} {wr : World} (h : Srch w g box n zs rs vp sb wr) (j : Nat) : Srch w g box n zs rs vp (setB sb j) (wr.setCell ⟨g, j, none⟩ (.bool true)) :=
  ⟨h.b.setCell (Nat.le_of_lt h.hg) _, h.box.far (by have := h.hg; show w.heap.size ≠ g; omega) _, far h.own h.seen (by decide) (by decide) _, by have := h.seen.set_ j (.bool true); rwa [seenCs_set] at this, h.hg⟩
theorem Srch.grown {w : World} {g : Nat} {box : Array Value} {n s : Nat} {zs : Nat → List Int} {rs : Nat → Value} {vp vq : Value} {z : List Int} {sb : Nat → Bool} {wr w' : World} (h : Srch w g box n zs rs vp sb wr) (hs : w.heap.size ≤ s) (hq : OwnI wr s vq z) (hlow : ∀ i, i < n → ∀ x, (rs i).ownBlock = some x → x < s) (hgr : wr.grownBy w' vq.ownBlock) : Srch w g box n zs rs vp sb w' :=
  ⟨h.b.grown hgr h.b.size (fun k e => by have := (hq.lt k e).1; omega), blk_grown h.box hgr (own_ne hq h.box (by decide)), beside h.own hq hlow hgr, blk_grown h.seen hgr (own_ne hq h.seen (by decide)), h.hg⟩
theorem Srch.push {w : World} {g : Nat} {box : Array Value} {n s : Nat} {zs zs' : Nat → List Int} {rs : Nat → Value} {vp vp' vq : Value} {z : List Int} {sb : Nat → Bool} {wr w' : World} (h : Srch w g box n zs rs vp sb wr) (hs : w.heap.size ≤ s) (hq : OwnI wr s vq z) (hlow : ∀ i, i < n → ∀ x, (rs i).ownBlock = some x → x < s)
    (ho : w'.ownsRow w.heap.size 24 1 vp' (n + 1) ((List.range n).map rs ++ [vq])) (hgr : wr.grownBy w' vp.ownBlock) (h1 : ∀ i, i < n → zs' i = zs i) (h2 : zs' n = z) : Srch w g box (n + 1) zs' (fun i => if i = n then vq else rs i) vp' sb w' :=
  ⟨h.b.grown hgr h.b.size (fun k e => (h.own.tbl.lt k e).1), blk_grown h.box hgr (own_ne h.own.tbl h.box (by decide)), PrtB.push h.own hq hs hlow ho hgr h1 h2, blk_grown h.seen hgr (own_ne h.own.tbl h.seen (by decide)), h.hg⟩

/-- A list of one number, new. -/
theorem own_one (w : World) (base : Nat) (z : Int) (h : base ≤ w.heap.size) : OwnI (w.alloc (.cells #[.int .i64 z] 3)) base (.slice (some ⟨w.heap.size, 0, none⟩) 1 1) [z] :=
  ⟨by simp, .inr ⟨w.heap.size, 1, #[.int .i64 z], rfl, h, heap_alloc_new w _, Nat.le_refl _, by decide, rfl, by simp⟩⟩

theorem own_ints_slice {w : World} {base : Nat} {v : Value} {p : List Nat} (h : OwnI w base v (ints p)) (hp : 0 < p.length) : ∃ g cap, v = .slice (some ⟨g, 0, none⟩) p.length cap := by
  rcases h.2 with ⟨_, h0⟩ | ⟨g, cap, cur, rfl, _⟩
  · rw [ints_length] at h0; omega
  · exact ⟨g, cap, by rw [ints_length]⟩
theorem own_ints_cell {w : World} {base g n cap : Nat} {p : List Nat} (h : OwnI w base (.slice (some ⟨g, 0, none⟩) n cap) (ints p)) {j : Nat} (hj : j < p.length) : w.cell? ⟨g, j, none⟩ = some (.int .i64 ((p.getD j 0 : Nat) : Int)) := by
  unfold OwnI at h
  rcases h.2 with ⟨h1, h0⟩ | ⟨g', c', cur, hv, _⟩
  · cases h1
  · obtain ⟨-, rfl, -⟩ := Value.slice.inj hv
    rw [h.cellAt j (by rw [ints_length]; omega)]
    simp [ints, hj]
theorem own_ints_raw {w : World} {base : Nat} {v : Value} {p : List Nat} (h : OwnI w base v (ints p)) : w.ownsRow base 3 1 v p.length ((ints p).map (Value.int .i64)) := by
  unfold OwnI at h
  rwa [ints_length] at h
theorem own_ints_put {w : World} {base : Nat} {v : Value} {p : List Nat} {y : Nat} (h : w.ownsRow base 3 1 v (p.length + 1) ((ints p).map (Value.int .i64) ++ [.int .i64 y])) : OwnI w base v (ints (p ++ [y])) := by
  unfold OwnI
  have e1 : (ints (p ++ [y])).length = p.length + 1 := by simp [ints]
  have e2 : (ints (p ++ [y])).map (Value.int .i64) = (ints p).map (Value.int .i64) ++ [.int .i64 y] := by simp [ints]
  rw [e1, e2]; exact h

/-- The answer: lists of the call's own, and whether there are any. -/
def TPst (w : World) (n : Nat) (zs : Nat → List Int) (ok : Bool) (e : Ending) (w' : World) : Prop := ∃ v rs, e = .returned (.tuple #[v, .bool ok]) ∧ OwnP w' w.heap.size v n zs rs ∧ Below w.heap.size w w'
theorem ownP_nil (w w0 : World) (zs : Nat → List Int) (rs : Nat → Value) (h : w0.heap.size ≤ w.heap.size) : OwnP (w.alloc (.cells #[] 24)) w0.heap.size (.slice (some ⟨w.heap.size, 0, none⟩) 0 0) 0 zs rs :=
  ⟨World.ownsRow_made (e := 24) (size := 1) w #[] 0 h (Nat.zero_le _) rfl, fun i hi => by omega, fun i j _ hj => by omega⟩

end Go.Proofs.Ytdfmfmndmldggaa.PrtB
