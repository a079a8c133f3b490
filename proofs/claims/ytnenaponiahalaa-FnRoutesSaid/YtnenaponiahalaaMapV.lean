/- Whether a map is valid: the model and the program. -/
import Derived.Test.YtnenaponiahalaaMapE
namespace Go.Proofs.Ytnenaponiahalaa.MapV
open Go.RowKit Lb IntS MapS
set_option linter.unusedSimpArgs false
set_option linter.unusedVariables false

theorem in_yes (x a b : Int) (w : World) (h1 : a ≤ x) (h2 : x ≤ b) : Calls Try.prog 137 #[.int .i64 x, .int .i64 a, .int .i64 b] w fun e w' => e = .returned (.bool true) ∧ w' = w := by
  go_enter Try.func137, Try.ntmps137
  go_wp2
  go_ret
  exact ⟨rfl, rfl⟩
theorem in_no (x a b : Int) (w : World) (h : x < a ∨ b < x) : Calls Try.prog 137 #[.int .i64 x, .int .i64 a, .int .i64 b] w fun e w' => e = .returned (.bool false) ∧ w' = w := by
  by_cases h1 : x < a
  · go_enter Try.func137, Try.ntmps137
    go_wp2
    go_ret
    exact ⟨rfl, rfl⟩
  · have h2 : b < x := by omega
    have h3 : decide (x ≤ b) = false := by simpa using h2
    go_enter Try.func137, Try.ntmps137
    go_wp2
    go_ret
    exact ⟨rfl, rfl⟩

set_option maxHeartbeats 1000000 in
theorem spec_no (m : Mp) (a b : Option Addr) (ca cb : Nat) (w : World) (hR : m.R.length ≤ maxLen) (hC : m.C.length ≤ maxLen) (h : ¬ SidesOk m) :
    Calls Try.prog 88 #[.agg #[.int .i64 m.W, .int .i64 m.H, .slice a m.R.length ca, .slice b m.C.length cb]] w fun e w' => e = .returned (.bool false) ∧ Below w.heap.size w w' := by
  unfold maxLen at hR hC
  by_cases hW : 1 ≤ m.W ∧ m.W ≤ 6
  · by_cases hH : 1 ≤ m.H ∧ m.H ≤ 6
    · obtain ⟨w1, w2⟩ := hW
      obtain ⟨h1, h2⟩ := hH
      have hm := mul_bd w1 w2 h1 h2
      by_cases hl : (m.R.length : Int) = m.W * m.H
      · have hl2 : m.C.length ≠ m.R.length := fun e => h ⟨w1, w2, h1, h2, hl, e⟩
        clear h
        have e1 : ((m.R.length : Int) != m.W * m.H) = false := by simp [hl]
        have e2 : ((m.C.length : Int) != (m.R.length : Int)) = true := by simp; omega
        clear hl hl2
        go_enter Try.func88, Try.ntmps88
        go_wp2_with (go_at_call 137; refine (in_yes _ _ _ _ (by omega) (by omega)).mono ?_; rintro e w' ⟨rfl, rfl⟩)
        go_ret
        exact ⟨rfl, (Below.refl _ _).alloc (Nat.le_refl _) _⟩
      · have e1 : ((m.R.length : Int) != m.W * m.H) = true := by simpa using hl
        clear h hl
        go_enter Try.func88, Try.ntmps88
        go_wp2_with (go_at_call 137; refine (in_yes _ _ _ _ (by omega) (by omega)).mono ?_; rintro e w' ⟨rfl, rfl⟩)
        go_ret
        exact ⟨rfl, (Below.refl _ _).alloc (Nat.le_refl _) _⟩
    · clear h
      obtain ⟨w1, w2⟩ := hW
      have hn : m.H < 1 ∨ 6 < m.H := by omega
      have HN := Lib.hid hn
      clear hn hH
      go_enter Try.func88, Try.ntmps88
      go_wp2_with fail
      refine (in_yes _ _ _ _ w1 w2).mono ?_
      rintro e w' ⟨rfl, rfl⟩
      go_wp2_with fail
      refine (in_no _ _ _ _ HN.out).mono ?_
      rintro e w' ⟨rfl, rfl⟩
      go_wp2
      go_ret
      exact ⟨rfl, (Below.refl _ _).alloc (Nat.le_refl _) _⟩
  · clear h
    have HN := Lib.hid (show m.W < 1 ∨ 6 < m.W from by omega)
    clear hW
    go_enter Try.func88, Try.ntmps88
    go_wp2_with fail
    refine (in_no _ _ _ _ HN.out).mono ?_
    rintro e w' ⟨rfl, rfl⟩
    go_wp2
    go_ret
    exact ⟨rfl, (Below.refl _ _).alloc (Nat.le_refl _) _⟩

theorem not_cell {m : Mp} {k : Nat} (h : ¬ CellOk m k) : (zAt m.R k < 0 ∨ 9 < zAt m.R k) ∨ ((0 ≤ zAt m.R k ∧ zAt m.R k ≤ 9) ∧ (zAt m.C k < 0 ∨ 9 < zAt m.C k)) := by
  unfold CellOk at h
  omega

set_option maxHeartbeats 1000000 in
theorem spec_loop (m : Mp) (a b : Option Addr) (ca cb : Nat) (w : World) (hs : SidesOk m) (hr : IRow w a m.R) (hc : IRow w b m.C) :
    Calls Try.prog 88 #[.agg #[.int .i64 m.W, .int .i64 m.H, .slice a m.R.length ca, .slice b m.C.length cb]] w fun e w' => e = .returned (.bool (okB m)) ∧ Below w.heap.size w w' := by
  have hs' := hs
  obtain ⟨w1, w2, h1, h2, hl, hl2⟩ := hs
  have hm := mul_bd w1 w2 h1 h2
  have e1 : ((m.R.length : Int) != m.W * m.H) = false := by simp [hl]
  have e2 : ((m.C.length : Int) != (m.R.length : Int)) = false := by simp [hl2]
  have hn36 : m.R.length ≤ 36 := by omega
  have hr' := RowAt.below hr ((Below.refl _ _).alloc (Nat.le_refl _) (.cells #[.int .i64 m.W, .int .i64 m.H, .slice a m.R.length ca, .slice b m.C.length cb] 26))
  have hc' := RowAt.below hc ((Below.refl _ _).alloc (Nat.le_refl _) (.cells #[.int .i64 m.W, .int .i64 m.H, .slice a m.R.length ca, .slice b m.C.length cb] 26))
  have HL := Lib.hid hl2
  have HS := Lib.hid hs'
  clear hl hl2 hr hc hs'
  go_enter Try.func88, Try.ntmps88
  go_wp2_with (go_at_call 137; refine (in_yes _ _ _ _ (by omega) (by omega)).mono ?_; rintro e w' ⟨rfl, rfl⟩)
  go_loop [3] (fun i => ∃ k : Nat, k ≤ m.R.length ∧ i = .int .i64 k ∧ ∀ i, i < k → CellOk m i) (fun i => m.R.length - (intOf i).toNat)
  case atStart => exact ⟨0, Nat.zero_le _, rfl, fun i h => by omega⟩
  case round =>
    obtain ⟨k, hk, rfl, hall⟩ := hrel
    by_cases hlt : k < m.R.length
    · rcases hr' with hr' | ⟨b1, off1, rfl, hc1⟩
      · omega
      rcases hc' with hc' | ⟨b2, off2, rfl, hc2⟩
      · have := HL.out; omega
      have hlt2 : k < m.C.length := by have := HL.out; omega
      have g1 := hc1 k hlt
      have g2 := hc2 k hlt2
      clear hc1 hc2
      by_cases hok : CellOk m k
      · have HO := Lib.hid (all_succ hall hok)
        obtain ⟨r1, r2, r3, r4⟩ := hok
        clear hall
        go_wp2_with (go_at_call 137; refine (in_yes _ _ _ _ (by omega) (by omega)).mono ?_; rintro e w' ⟨rfl, rfl⟩)
        go_round
        case rel => exact ⟨k + 1, by omega, by go_num, HO.out⟩
        case measure => simp [intOf]; omega
      · have HF := Lib.hid (okB_no (m := m) fun h => hok (h.2 k hlt))
        rcases not_cell hok with hb | ⟨⟨r1, r2⟩, hb⟩
        · have HB := Lib.hid hb
          clear hall hok hb
          go_wp2_with fail
          refine (in_no _ _ _ _ HB.out).mono ?_
          rintro e w' ⟨rfl, rfl⟩
          go_wp2
          go_ret
          exact ⟨ret_bool HF.out.symm, (Below.refl _ _).alloc (Nat.le_refl _) _⟩
        · have HB := Lib.hid hb
          clear hall hok hb
          go_wp2_with fail
          refine (in_yes _ _ _ _ r1 r2).mono ?_
          rintro e w' ⟨rfl, rfl⟩
          go_wp2_with fail
          refine (in_no _ _ _ _ HB.out).mono ?_
          rintro e w' ⟨rfl, rfl⟩
          go_wp2
          go_ret
          exact ⟨ret_bool HF.out.symm, (Below.refl _ _).alloc (Nat.le_refl _) _⟩
    · have HF := Lib.hid (okB_yes (m := m) ⟨HS.out, fun i hi => hall i (by omega)⟩)
      clear hall
      go_wp2
      go_ret
      exact ⟨ret_bool HF.out.symm, (Below.refl _ _).alloc (Nat.le_refl _) _⟩

theorem spec_any (m : Mp) (a b : Option Addr) (ca cb : Nat) (w : World) (hR : m.R.length ≤ maxLen) (hC : m.C.length ≤ maxLen) (hr : IRow w a m.R) (hc : IRow w b m.C) :
    Calls Try.prog 88 #[.agg #[.int .i64 m.W, .int .i64 m.H, .slice a m.R.length ca, .slice b m.C.length cb]] w fun e w' => e = .returned (.bool (okB m)) ∧ Below w.heap.size w w' := by
  by_cases hs : SidesOk m
  · exact spec_loop m a b ca cb w hs hr hc
  · rw [okB_no fun h => hs h.1]
    exact spec_no m a b ca cb w hR hC hs

set_option maxHeartbeats 1000000 in
theorem impl_no (m : Mp) (a b : Option Addr) (ca cb : Nat) (w : World) (hR : m.R.length ≤ maxLen) (hC : m.C.length ≤ maxLen) (h : ¬ SidesOk m) :
    Calls Try.prog 84 #[.agg #[.int .i64 m.W, .int .i64 m.H, .slice a m.R.length ca, .slice b m.C.length cb]] w fun e w' => e = .returned (.bool false) ∧ Below w.heap.size w w' := by
  unfold maxLen at hR hC
  by_cases hs : 1 ≤ m.W ∧ m.W ≤ 6 ∧ 1 ≤ m.H ∧ m.H ≤ 6
  · obtain ⟨w1, w2, h1, h2⟩ := hs
    have hm := mul_bd w1 w2 h1 h2
    have d1 : decide (m.W < 1) = false := by simpa using w1
    have d2 : decide (6 < m.W) = false := by simpa using w2
    have d3 : decide (m.H < 1) = false := by simpa using h1
    have d4 : decide (6 < m.H) = false := by simpa using h2
    by_cases hl : (m.R.length : Int) = m.W * m.H
    · have hl2 : m.C.length ≠ m.R.length := fun e => h ⟨w1, w2, h1, h2, hl, e⟩
      have e1 : ((m.R.length : Int) != m.W * m.H) = false := by simp [hl]
      have e2 : ((m.C.length : Int) != m.W * m.H) = true := by rw [← hl]; simp; omega
      clear h hl hl2
      go_enter Try.func84, Try.ntmps84
      go_wp2
      go_ret
      exact ⟨rfl, (Below.refl _ _).alloc (Nat.le_refl _) _⟩
    · have e1 : ((m.R.length : Int) != m.W * m.H) = true := by simpa using hl
      clear h hl
      go_enter Try.func84, Try.ntmps84
      go_wp2
      go_ret
      exact ⟨rfl, (Below.refl _ _).alloc (Nat.le_refl _) _⟩
  · clear h
    have hcase : m.W < 1 ∨ (1 ≤ m.W ∧ 6 < m.W) ∨ (1 ≤ m.W ∧ m.W ≤ 6 ∧ m.H < 1) ∨ (1 ≤ m.W ∧ m.W ≤ 6 ∧ 1 ≤ m.H ∧ 6 < m.H) := by omega
    clear hs
    rcases hcase with c1 | ⟨c1, c2⟩ | ⟨c1, c2, c3⟩ | ⟨c1, c2, c3, c4⟩
    · go_enter Try.func84, Try.ntmps84
      go_wp2
      go_ret
      exact ⟨rfl, (Below.refl _ _).alloc (Nat.le_refl _) _⟩
    · have d1 : decide (m.W < 1) = false := by simpa using c1
      go_enter Try.func84, Try.ntmps84
      go_wp2
      go_ret
      exact ⟨rfl, (Below.refl _ _).alloc (Nat.le_refl _) _⟩
    · have d1 : decide (m.W < 1) = false := by simpa using c1
      have d2 : decide (6 < m.W) = false := by simpa using c2
      go_enter Try.func84, Try.ntmps84
      go_wp2
      go_ret
      exact ⟨rfl, (Below.refl _ _).alloc (Nat.le_refl _) _⟩
    · have d1 : decide (m.W < 1) = false := by simpa using c1
      have d2 : decide (6 < m.W) = false := by simpa using c2
      have d3 : decide (m.H < 1) = false := by simpa using c3
      go_enter Try.func84, Try.ntmps84
      go_wp2
      go_ret
      exact ⟨rfl, (Below.refl _ _).alloc (Nat.le_refl _) _⟩

set_option maxHeartbeats 2000000 in
theorem impl_loop (m : Mp) (a b : Option Addr) (ca cb : Nat) (w : World) (hs : SidesOk m) (hr : IRow w a m.R) (hc : IRow w b m.C) :
    Calls Try.prog 84 #[.agg #[.int .i64 m.W, .int .i64 m.H, .slice a m.R.length ca, .slice b m.C.length cb]] w fun e w' => e = .returned (.bool (okB m)) ∧ Below w.heap.size w w' := by
  have hs' := hs
  obtain ⟨w1, w2, h1, h2, hl, hl2⟩ := hs
  have hm := mul_bd w1 w2 h1 h2
  have d1 : decide (m.W < 1) = false := by simpa using w1
  have d2 : decide (6 < m.W) = false := by simpa using w2
  have d3 : decide (m.H < 1) = false := by simpa using h1
  have d4 : decide (6 < m.H) = false := by simpa using h2
  have e1 : ((m.R.length : Int) != m.W * m.H) = false := by simp [hl]
  have e2 : ((m.C.length : Int) != m.W * m.H) = false := by rw [← hl]; simp [hl2]
  have hn36 : m.R.length ≤ 36 := by omega
  have hr' := RowAt.below hr ((Below.refl _ _).alloc (Nat.le_refl _) (.cells #[.int .i64 m.W, .int .i64 m.H, .slice a m.R.length ca, .slice b m.C.length cb] 26))
  have hc' := RowAt.below hc ((Below.refl _ _).alloc (Nat.le_refl _) (.cells #[.int .i64 m.W, .int .i64 m.H, .slice a m.R.length ca, .slice b m.C.length cb] 26))
  have HL := Lib.hid hl2
  have HM := Lib.hid hl
  have HS := Lib.hid hs'
  clear hl hl2 hr hc hs'
  go_enter Try.func84, Try.ntmps84
  go_wp2
  go_loop [41, 4] (fun i _ => ∃ k : Nat, k ≤ m.R.length ∧ i = .int .i64 k ∧ ∀ i, i < k → CellOk m i) (fun i _ => m.R.length - (intOf i).toNat)
  case atStart => exact ⟨0, Nat.zero_le _, rfl, fun i h => by omega⟩
  case round =>
    obtain ⟨k, hk, rfl, hall⟩ := hrel
    by_cases hlt : k < m.R.length
    · rcases hr' with hr' | ⟨b1, off1, rfl, hc1⟩
      · omega
      rcases hc' with hc' | ⟨b2, off2, rfl, hc2⟩
      · have := HL.out; omega
      have hlt2 : k < m.C.length := by have := HL.out; omega
      have g1 := hc1 k hlt
      have g2 := hc2 k hlt2
      have hkm : (k : Int) < m.W * m.H := by have := HM.out; omega
      clear hc1 hc2
      by_cases hok : CellOk m k
      · have HO := Lib.hid (all_succ hall hok)
        obtain ⟨r1, r2, r3, r4⟩ := hok
        have x1 : decide (zAt m.R k < 0) = false := by simpa using r1
        have x2 : decide (9 < zAt m.R k) = false := by simpa using r2
        have x3 : decide (zAt m.C k < 0) = false := by simpa using r3
        have x4 : decide (9 < zAt m.C k) = false := by simpa using r4
        clear hall
        go_wp2
        go_round
        case rel => exact ⟨k + 1, by omega, by go_num, HO.out⟩
        case measure => simp [intOf]; omega
      · have HF := Lib.hid (okB_no (m := m) fun h => hok (h.2 k hlt))
        have hcase : zAt m.R k < 0 ∨ (0 ≤ zAt m.R k ∧ 9 < zAt m.R k) ∨ (0 ≤ zAt m.R k ∧ zAt m.R k ≤ 9 ∧ zAt m.C k < 0) ∨ (0 ≤ zAt m.R k ∧ zAt m.R k ≤ 9 ∧ 0 ≤ zAt m.C k ∧ 9 < zAt m.C k) := by
          unfold CellOk at hok; omega
        clear hall hok
        rcases hcase with c1 | ⟨c1, c2⟩ | ⟨c1, c2, c3⟩ | ⟨c1, c2, c3, c4⟩
        · go_wp2
          go_ret
          exact ⟨ret_bool HF.out.symm, (Below.refl _ _).alloc (Nat.le_refl _) _⟩
        · have x1 : decide (zAt m.R k < 0) = false := by simpa using c1
          go_wp2
          go_ret
          exact ⟨ret_bool HF.out.symm, (Below.refl _ _).alloc (Nat.le_refl _) _⟩
        · have x1 : decide (zAt m.R k < 0) = false := by simpa using c1
          have x2 : decide (9 < zAt m.R k) = false := by simpa using c2
          go_wp2
          go_ret
          exact ⟨ret_bool HF.out.symm, (Below.refl _ _).alloc (Nat.le_refl _) _⟩
        · have x1 : decide (zAt m.R k < 0) = false := by simpa using c1
          have x2 : decide (9 < zAt m.R k) = false := by simpa using c2
          have x3 : decide (zAt m.C k < 0) = false := by simpa using c3
          go_wp2
          go_ret
          exact ⟨ret_bool HF.out.symm, (Below.refl _ _).alloc (Nat.le_refl _) _⟩
    · have HF := Lib.hid (okB_yes (m := m) ⟨HS.out, fun i hi => hall i (by omega)⟩)
      have hkm : m.W * m.H ≤ (k : Int) := by have := HM.out; omega
      clear hall
      go_wp2
      go_ret
      exact ⟨ret_bool HF.out.symm, (Below.refl _ _).alloc (Nat.le_refl _) _⟩

theorem impl_any (m : Mp) (a b : Option Addr) (ca cb : Nat) (w : World) (hR : m.R.length ≤ maxLen) (hC : m.C.length ≤ maxLen) (hr : IRow w a m.R) (hc : IRow w b m.C) :
    Calls Try.prog 84 #[.agg #[.int .i64 m.W, .int .i64 m.H, .slice a m.R.length ca, .slice b m.C.length cb]] w fun e w' => e = .returned (.bool (okB m)) ∧ Below w.heap.size w w' := by
  by_cases hs : SidesOk m
  · exact impl_loop m a b ca cb w hs hr hc
  · rw [okB_no fun h => hs h.1]
    exact impl_no m a b ca cb w hR hC hs

end Go.Proofs.Ytnenaponiahalaa.MapV
