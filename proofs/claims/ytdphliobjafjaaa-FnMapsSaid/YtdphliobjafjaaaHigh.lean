/- The highest cell: the model and the program. -/
import Derived.Test.YtdphliobjafjaaaMapV
namespace Go.Proofs.Ytdphliobjafjaaa.High
open Go.RowKit Lb IntS MapS MapV
set_option linter.unusedSimpArgs false
set_option linter.unusedVariables false

theorem forb_yes (m : Mp) (a b : Option Addr) (ca cb : Nat) (c : Nat) (w : World) (hc : IRow w b m.C) (hl : c < m.C.length) (hm : m.C.length ≤ maxLen) (h : zAt m.C c = 0) :
    Calls Try.prog 59 #[.agg #[.int .i64 m.W, .int .i64 m.H, .slice a m.R.length ca, .slice b m.C.length cb], .int .i64 c] w fun e w' => e = .returned (.bool true) ∧ Below w.heap.size w w' := by
  unfold maxLen at hm
  rcases RowAt.below hc ((Below.refl _ _).alloc (Nat.le_refl _) (.cells #[.int .i64 m.W, .int .i64 m.H, .slice a m.R.length ca, .slice b m.C.length cb] 26)) with h0 | ⟨b2, off2, rfl, hc2⟩
  · omega
  have g2 := hc2 c hl
  simp only [h] at g2
  clear hc2 hc
  go_enter Try.func59, Try.ntmps59
  go_wp2
  go_ret
  exact ⟨rfl, (Below.refl _ _).alloc (Nat.le_refl _) _⟩
theorem forb_no (m : Mp) (a b : Option Addr) (ca cb : Nat) (c : Nat) (w : World) (hc : IRow w b m.C) (hl : c < m.C.length) (hm : m.C.length ≤ maxLen) (h : zAt m.C c ≠ 0) :
    Calls Try.prog 59 #[.agg #[.int .i64 m.W, .int .i64 m.H, .slice a m.R.length ca, .slice b m.C.length cb], .int .i64 c] w fun e w' => e = .returned (.bool false) ∧ Below w.heap.size w w' := by
  unfold maxLen at hm
  rcases RowAt.below hc ((Below.refl _ _).alloc (Nat.le_refl _) (.cells #[.int .i64 m.W, .int .i64 m.H, .slice a m.R.length ca, .slice b m.C.length cb] 26)) with h0 | ⟨b2, off2, rfl, hc2⟩
  · omega
  have g2 := hc2 c hl
  have e : (zAt m.C c == 0) = false := by simpa using h
  clear hc2 hc h
  go_enter Try.func59, Try.ntmps59
  go_wp2
  go_ret
  exact ⟨rfl, (Below.refl _ _).alloc (Nat.le_refl _) _⟩

/-- The highest of the first 'k' cells. -/
def hi (m : Mp) : Nat → Option Nat
  | 0 => none
  | k + 1 => match hi m k with
    | none => if 0 < zAt m.C k then some k else none
    | some b => if 0 < zAt m.C k ∧ zAt m.R b < zAt m.R k then some k else some b
theorem hi_lt {m : Mp} : ∀ {k b : Nat}, hi m k = some b → b < k
  | 0, b, h => by cases h
  | k + 1, b, h => by
    unfold hi at h
    cases hk : hi m k with
    | none =>
      rw [hk] at h
      simp only at h
      split at h
      · cases h; omega
      · cases h
    | some c =>
      have := hi_lt hk
      rw [hk] at h
      simp only at h
      split at h
      · cases h; omega
      · cases h; omega
theorem hi_first {m : Mp} {k : Nat} (h : hi m k = none) (ho : 0 < zAt m.C k) : hi m (k + 1) = some k := by rw [hi, h]; simp [ho]
theorem hi_forb {m : Mp} {k : Nat} (ho : ¬ 0 < zAt m.C k) : hi m (k + 1) = hi m k := by
  rw [hi]
  cases h : hi m k <;> simp [ho]
theorem hi_more {m : Mp} {k b : Nat} (h : hi m k = some b) (ho : 0 < zAt m.C k) (hr : zAt m.R b < zAt m.R k) : hi m (k + 1) = some k := by rw [hi, h]; simp [ho, hr]
theorem hi_less {m : Mp} {k b : Nat} (h : hi m k = some b) (hr : ¬ zAt m.R b < zAt m.R k) : hi m (k + 1) = some b := by rw [hi, h]; simp [hr]

/-- What is answered. -/
def HiPost (o : Option Nat) (e : Ending) : Prop := match o with
  | none => e = .returned (.tuple #[.int .i64 0, .bool false])
  | some b => e = .returned (.tuple #[.int .i64 b, .bool true])
def hiOf (m : Mp) : Option Nat := if m.ok then hi m m.R.length else none

/-- The slots as far as the look has come. -/
def HiRel (o : Option Nat) (h f : Value) : Prop := match o with
  | none => h = .int .i64 0 ∧ f = .bool false
  | some b => h = .int .i64 b ∧ f = .bool true
def HiRelS (o : Option Nat) (h : Value) : Prop := match o with
  | none => h = .int .i64 (-1)
  | some b => h = .int .i64 b

set_option maxHeartbeats 1000000 in
theorem impl_no (m : Mp) (a b : Option Addr) (ca cb : Nat) (w : World) (hR : m.R.length ≤ maxLen) (hC : m.C.length ≤ maxLen) (hr : IRow w a m.R) (hc : IRow w b m.C) (h : ¬ m.ok) :
    Calls Try.prog 37 #[.agg #[.int .i64 m.W, .int .i64 m.H, .slice a m.R.length ca, .slice b m.C.length cb]] w fun e w' => HiPost none e ∧ Below w.heap.size w w' := by
  have HB := Lib.hid ((Below.refl w.heap.size w).alloc (Nat.le_refl _) (.cells #[.int .i64 m.W, .int .i64 m.H, .slice a m.R.length ca, .slice b m.C.length cb] 26))
  have hk := okB_no h
  clear h
  go_enter Try.func37, Try.ntmps37
  go_wp2_with fail
  refine (MapV.impl_any m a b ca cb _ hR hC (RowAt.below hr HB.out) (RowAt.below hc HB.out)).mono ?_
  rw [hk]
  rintro e w1 ⟨rfl, hb1⟩
  go_wp2
  go_ret2
  exact ⟨rfl, HB.out.trans (hb1.mono (by simp))⟩

set_option maxHeartbeats 2000000 in
theorem impl_yes (m : Mp) (a b : Option Addr) (ca cb : Nat) (w : World) (h : m.ok) (hr : IRow w a m.R) (hc : IRow w b m.C) :
    Calls Try.prog 37 #[.agg #[.int .i64 m.W, .int .i64 m.H, .slice a m.R.length ca, .slice b m.C.length cb]] w fun e w' => HiPost (hi m m.R.length) e ∧ Below w.heap.size w w' := by
  have HB := Lib.hid ((Below.refl w.heap.size w).alloc (Nat.le_refl _) (.cells #[.int .i64 m.W, .int .i64 m.H, .slice a m.R.length ca, .slice b m.C.length cb] 26))
  have HK := Lib.hid (Blk.new w 26 #[.int .i64 m.W, .int .i64 m.H, .slice a m.R.length ca, .slice b m.C.length cb])
  have hk := okB_yes h
  obtain ⟨ww, hh, g⟩ := good_of h
  have hR : m.R.length ≤ maxLen := by have := g.R; have := g.n36; unfold maxLen; omega
  have hC : m.C.length ≤ maxLen := by have := g.C; have := g.n36; unfold maxLen; omega
  have hn : m.R.length ≤ 36 := by have := g.R; have := g.n36; omega
  have HE := Lib.hid (show m.C.length = m.R.length by rw [g.R, g.C])
  have HG := Lib.hid (show ∀ i, i < m.R.length → CellOk m i from fun i hi => g.cell i (by rw [← g.R]; exact hi))
  clear h g
  go_enter Try.func37, Try.ntmps37
  go_wp2_with fail
  refine (MapV.impl_any m a b ca cb _ hR hC (RowAt.below hr HB.out) (RowAt.below hc HB.out)).mono ?_
  rw [hk]
  rintro e w1 ⟨rfl, hb1⟩
  have HB1 := Lib.hid (HB.out.trans (hb1.mono (by simp)))
  have HK1 := Lib.hid (HK.out.later hb1)
  clear hb1 hk
  obtain ⟨p0, p1, p2, p3, -⟩ := HK1.out.four
  go_wp2_with fail
  clear p0 p1 p2 p3
  go_loopw [13, 4, 5, 6] (fun i h f _ wr => ∃ k : Nat, k ≤ m.R.length ∧ i = .int .i64 k ∧ HiRel (hi m k) h f ∧ Below w1.heap.size w1 wr) (fun i _ _ _ _ => m.R.length - (intOf i).toNat)
  case atStart => exact ⟨0, Nat.zero_le _, rfl, ⟨rfl, rfl⟩, Below.refl _ _⟩
  case round =>
    obtain ⟨k, hk, rfl, hrel, hb⟩ := hrel
    have HBr := Lib.hid (HB1.out.trans (hb.mono HB1.out.size))
    have HKr := Lib.hid (HK1.out.below hb HK1.out.lt)
    have HBw := Lib.hid hb
    clear hb
    by_cases hlt : k < m.R.length
    · have hltC : k < m.C.length := by have := HE.out; omega
      obtain ⟨r1, r2, r3, r4⟩ := HG.out k hlt
      have hrr := Lib.hid (RowAt.below hr HBr.out)
      have hcr := Lib.hid (RowAt.below hc HBr.out)
      obtain ⟨p0, p1, p2, p3, -⟩ := HKr.out.four
      by_cases ho : zAt m.C k = 0
      · have HS := Lib.hid (hi_forb (m := m) (k := k) (by omega))
        have HO := Lib.hid ho
        have HR := Lib.hid hrel
        clear ho hrel
        go_wp2_with fail
        refine (forb_yes m a b ca cb k _ hcr.out hltC hC HO.out).mono ?_
        rintro e w2 ⟨rfl, hb2⟩
        have HB2 := Lib.hid (HBw.out.trans (hb2.mono HBw.out.size))
        clear hb2
        go_wp2
        go_roundw
        case rel => exact ⟨k + 1, by omega, by go_num, by rw [HS.out]; exact HR.out, HB2.out⟩
        case measure => simp [intOf]; omega
      · have HO := Lib.hid ho
        have hpos : 0 < zAt m.C k := by omega
        cases hhk : hi m k with
        | none =>
          rw [hhk] at hrel
          obtain ⟨rfl, rfl⟩ := hrel
          have HS := Lib.hid (hi_first hhk hpos)
          clear hhk ho hpos
          go_wp2_with fail
          refine (forb_no m a b ca cb k _ hcr.out hltC hC HO.out).mono ?_
          rintro e w2 ⟨rfl, hb2⟩
          have HB2 := Lib.hid (HBw.out.trans (hb2.mono HBw.out.size))
          clear hb2
          go_wp2
          go_quiet (fail)
          go_wp2
          go_roundw
          case rel => exact ⟨k + 1, by omega, by go_num, by rw [HS.out]; exact ⟨rfl, rfl⟩, HB2.out.trans (Still.below ⟨_, rfl⟩ _)⟩
          case measure => simp [intOf]; omega
        | some c =>
          rw [hhk] at hrel
          obtain ⟨rfl, rfl⟩ := hrel
          have hcl := hi_lt hhk
          have hcr' : c < m.R.length := by omega
          have HH := Lib.hid hhk
          clear hhk ho
          go_wp2_with fail
          refine (forb_no m a b ca cb k _ hcr.out hltC hC HO.out).mono ?_
          rintro e w2 ⟨rfl, hb2⟩
          have HB2 := Lib.hid (HBw.out.trans (hb2.mono HBw.out.size))
          have HK2 := Lib.hid (HKr.out.later hb2)
          rcases RowAt.below hrr.out hb2 with h0 | ⟨b2, off2, rfl, hc2⟩
          · omega
          have g1 := hc2 k hlt
          have g2 := hc2 c hcr'
          clear hb2 p0 p1 p2 p3 hc2
          obtain ⟨p0, p1, p2, p3, -⟩ := HK2.out.four
          by_cases hgt : zAt m.R c < zAt m.R k
          · have HS := Lib.hid (hi_more HH.out hpos hgt)
            go_wp2
            go_quiet (fail)
            go_wp2
            go_roundw
            case rel => exact ⟨k + 1, by omega, by go_num, by rw [HS.out]; exact ⟨rfl, rfl⟩, HB2.out.trans (Still.below ⟨_, rfl⟩ _)⟩
            case measure => simp [intOf]; omega
          · have HS := Lib.hid (hi_less HH.out hgt)
            have hgt' : decide (zAt m.R c < zAt m.R k) = false := by simpa using hgt
            go_wp2
            go_quiet (fail)
            go_wp2
            go_roundw
            case rel => exact ⟨k + 1, by omega, by go_num, by rw [HS.out]; exact ⟨rfl, rfl⟩, HB2.out.trans (Still.below ⟨_, rfl⟩ _)⟩
            case measure => simp [intOf]; omega
    · obtain rfl : k = m.R.length := by omega
      cases hhk : hi m m.R.length with
      | none =>
        rw [hhk] at hrel
        obtain ⟨rfl, rfl⟩ := hrel
        have HH := Lib.hid hhk
        clear hhk
        go_wp2
        go_ret2
        exact ⟨by rw [HH.out]; rfl, HBr.out⟩
      | some c =>
        rw [hhk] at hrel
        obtain ⟨rfl, rfl⟩ := hrel
        have HH := Lib.hid hhk
        clear hhk
        go_wp2
        go_ret2
        exact ⟨by rw [HH.out]; rfl, HBr.out⟩

set_option maxHeartbeats 1000000 in
theorem spec_no (m : Mp) (a b : Option Addr) (ca cb : Nat) (w : World) (hR : m.R.length ≤ maxLen) (hC : m.C.length ≤ maxLen) (hr : IRow w a m.R) (hc : IRow w b m.C) (h : ¬ m.ok) :
    Calls Try.prog 42 #[.agg #[.int .i64 m.W, .int .i64 m.H, .slice a m.R.length ca, .slice b m.C.length cb]] w fun e w' => HiPost none e ∧ Below w.heap.size w w' := by
  have HB := Lib.hid ((Below.refl w.heap.size w).alloc (Nat.le_refl _) (.cells #[.int .i64 m.W, .int .i64 m.H, .slice a m.R.length ca, .slice b m.C.length cb] 26))
  have hk := okB_no h
  clear h
  go_enter Try.func42, Try.ntmps42
  go_wp2_with fail
  refine (MapV.spec_any m a b ca cb _ hR hC (RowAt.below hr HB.out) (RowAt.below hc HB.out)).mono ?_
  rw [hk]
  rintro e w1 ⟨rfl, hb1⟩
  go_wp2
  go_ret2
  exact ⟨rfl, HB.out.trans (hb1.mono (by simp))⟩

set_option maxHeartbeats 2000000 in
theorem spec_yes (m : Mp) (a b : Option Addr) (ca cb : Nat) (w : World) (h : m.ok) (hr : IRow w a m.R) (hc : IRow w b m.C) :
    Calls Try.prog 42 #[.agg #[.int .i64 m.W, .int .i64 m.H, .slice a m.R.length ca, .slice b m.C.length cb]] w fun e w' => HiPost (hi m m.R.length) e ∧ Below w.heap.size w w' := by
  have HB := Lib.hid ((Below.refl w.heap.size w).alloc (Nat.le_refl _) (.cells #[.int .i64 m.W, .int .i64 m.H, .slice a m.R.length ca, .slice b m.C.length cb] 26))
  have HK := Lib.hid (Blk.new w 26 #[.int .i64 m.W, .int .i64 m.H, .slice a m.R.length ca, .slice b m.C.length cb])
  have hk := okB_yes h
  obtain ⟨ww, hh, g⟩ := good_of h
  have hR : m.R.length ≤ maxLen := by have := g.R; have := g.n36; unfold maxLen; omega
  have hC : m.C.length ≤ maxLen := by have := g.C; have := g.n36; unfold maxLen; omega
  have hn : m.C.length ≤ 36 := by have := g.C; have := g.n36; omega
  have HE := Lib.hid (show m.R.length = m.C.length by rw [g.R, g.C])
  have HG := Lib.hid (show ∀ i, i < m.C.length → CellOk m i from fun i hi => g.cell i (by rw [← g.C]; exact hi))
  clear h g
  go_enter Try.func42, Try.ntmps42
  go_wp2_with fail
  refine (MapV.spec_any m a b ca cb _ hR hC (RowAt.below hr HB.out) (RowAt.below hc HB.out)).mono ?_
  rw [hk]
  rintro e w1 ⟨rfl, hb1⟩
  have HB1 := Lib.hid (HB.out.trans (hb1.mono (by simp)))
  have HK1 := Lib.hid (HK.out.later hb1)
  clear hb1 hk
  obtain ⟨p0, p1, p2, p3, -⟩ := HK1.out.four
  have hrr := RowAt.below hr HB1.out
  have hcr := RowAt.below hc HB1.out
  clear hr hc
  go_wp2_with fail
  go_loopw [5, 4] (fun i h wr => ∃ k : Nat, k ≤ m.C.length ∧ i = .int .i64 k ∧ HiRelS (hi m k) h ∧ Still w1 wr) (fun i _ _ => m.C.length - (intOf i).toNat)
  case atStart => exact ⟨0, Nat.zero_le _, rfl, rfl, Still.refl _⟩
  case round =>
    obtain ⟨k, hk, rfl, hrel, hst⟩ := hrel
    obtain ⟨n, rfl⟩ := hst
    by_cases hlt : k < m.C.length
    · obtain ⟨r1, r2, r3, r4⟩ := HG.out k hlt
      have hltR : k < m.R.length := by have := HE.out; omega
      rcases hcr with h0 | ⟨b2, off2, rfl, hc2⟩
      · omega
      rcases hrr with h0 | ⟨b1, off1, rfl, hr2⟩
      · omega
      have g0 := hc2 k hlt
      have g1 := hr2 k hltR
      clear hc2
      by_cases ho : 0 < zAt m.C k
      · cases hhk : hi m k with
        | none =>
          rw [hhk] at hrel
          cases hrel
          have HS := Lib.hid (hi_first hhk ho)
          clear hhk hr2
          go_wp2
          go_quiet (fail)
          go_wp2
          go_roundw
          case rel => exact ⟨k + 1, by omega, by go_num, by rw [HS.out]; rfl, ⟨_, rfl⟩⟩
          case measure => simp [intOf]; omega
        | some c =>
          rw [hhk] at hrel
          cases hrel
          have hcl := hi_lt hhk
          have g2 := hr2 c (by omega)
          have hc0 : decide ((c : Int) < 0) = false := by simp
          have HH := Lib.hid hhk
          clear hhk hr2
          by_cases hgt : zAt m.R c < zAt m.R k
          · have HS := Lib.hid (hi_more HH.out ho hgt)
            go_wp2
            go_quiet (fail)
            go_wp2
            go_roundw
            case rel => exact ⟨k + 1, by omega, by go_num, by rw [HS.out]; rfl, ⟨_, rfl⟩⟩
            case measure => simp [intOf]; omega
          · have HS := Lib.hid (hi_less HH.out hgt)
            have hgt' : decide (zAt m.R c < zAt m.R k) = false := by simpa using hgt
            go_wp2
            go_quiet (fail)
            go_wp2
            go_roundw
            case rel => exact ⟨k + 1, by omega, by go_num, by rw [HS.out]; rfl, ⟨_, rfl⟩⟩
            case measure => simp [intOf]; omega
      · have HS := Lib.hid (hi_forb ho)
        have ho' : decide (0 < zAt m.C k) = false := by simpa using ho
        have HR := Lib.hid hrel
        clear hrel hr2 ho
        go_wp2
        go_quiet (fail)
        go_wp2
        go_roundw
        case rel => exact ⟨k + 1, by omega, by go_num, by rw [HS.out]; exact HR.out, ⟨_, rfl⟩⟩
        case measure => simp [intOf]; omega
    · obtain rfl : k = m.C.length := by omega
      cases hhk : hi m m.C.length with
      | none =>
        rw [hhk] at hrel
        cases hrel
        have HH := Lib.hid hhk
        clear hhk
        go_wp2
        go_ret2
        exact ⟨by rw [HE.out, HH.out]; rfl, HB1.out.trans (Still.below ⟨_, rfl⟩ _)⟩
      | some c =>
        rw [hhk] at hrel
        cases hrel
        have HH := Lib.hid hhk
        clear hhk
        go_wp2
        go_ret2
        exact ⟨by rw [HE.out, HH.out]; rfl, HB1.out.trans (Still.below ⟨_, rfl⟩ _)⟩

/-- Both texts answer alike. -/
theorem both (m : Mp) : ∃ o : Option Nat, (∀ b, o = some b → b < m.R.length) ∧
    (∀ a b ca cb w, m.R.length ≤ maxLen → m.C.length ≤ maxLen → IRow w a m.R → IRow w b m.C → Calls Try.prog 42 #[.agg #[.int .i64 m.W, .int .i64 m.H, .slice a m.R.length ca, .slice b m.C.length cb]] w fun e w' => HiPost o e ∧ Below w.heap.size w w') ∧
    (∀ a b ca cb w, m.R.length ≤ maxLen → m.C.length ≤ maxLen → IRow w a m.R → IRow w b m.C → Calls Try.prog 37 #[.agg #[.int .i64 m.W, .int .i64 m.H, .slice a m.R.length ca, .slice b m.C.length cb]] w fun e w' => HiPost o e ∧ Below w.heap.size w w') := by
  by_cases h : m.ok
  · exact ⟨_, fun b hb => hi_lt hb, fun a b ca cb w _ _ hr hc => spec_yes m a b ca cb w h hr hc, fun a b ca cb w _ _ hr hc => impl_yes m a b ca cb w h hr hc⟩
  · exact ⟨none, (fun b hb => by cases hb), fun a b ca cb w hR hC hr hc => spec_no m a b ca cb w hR hC hr hc h, fun a b ca cb w hR hC hr hc => impl_no m a b ca cb w hR hC hr hc h⟩

theorem both_v (m : Mp) : ∃ (n : Int) (ok : Bool),
    (∀ a b ca cb w, m.R.length ≤ maxLen → m.C.length ≤ maxLen → IRow w a m.R → IRow w b m.C → Calls Try.prog 42 #[.agg #[.int .i64 m.W, .int .i64 m.H, .slice a m.R.length ca, .slice b m.C.length cb]] w fun e w' => e = .returned (.tuple #[.int .i64 n, .bool ok]) ∧ Below w.heap.size w w') ∧
    (∀ a b ca cb w, m.R.length ≤ maxLen → m.C.length ≤ maxLen → IRow w a m.R → IRow w b m.C → Calls Try.prog 37 #[.agg #[.int .i64 m.W, .int .i64 m.H, .slice a m.R.length ca, .slice b m.C.length cb]] w fun e w' => e = .returned (.tuple #[.int .i64 n, .bool ok]) ∧ Below w.heap.size w w') := by
  obtain ⟨o, _, hS, hI⟩ := both m
  cases o with
  | none => exact ⟨0, false, hS, hI⟩
  | some b => exact ⟨b, true, hS, hI⟩

end Go.Proofs.Ytdphliobjafjaaa.High
