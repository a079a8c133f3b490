/- The laws' own helpers over lists of ints and over maps: contracts. -/
import Derived.Test.YtdphliobjafjaaaSpecB
import Derived.Test.YtdphliobjafjaaaHigh
namespace Go.Proofs.Ytdphliobjafjaaa.VHel
open Go.RowKit Lb IntS MapS SpecB High
set_option linter.unusedSimpArgs false
set_option linter.unusedVariables false

set_option maxHeartbeats 1000000 in
theorem ints_same (a b : Option Addr) (cap cap' : Nat) (zs : List Int) (w : World) (hr : IRow w a zs) (hr' : IRow w b zs) (hl : zs.length ≤ maxLen) :
    Calls Try.prog 31 #[.slice a zs.length cap, .slice b zs.length cap'] w fun e w' => e = .returned (.bool true) ∧ Below w.heap.size w w' := by
  unfold maxLen at hl
  go_enter Try.func31, Try.ntmps31
  go_wp2
  go_loopw [5] (fun i wr => ∃ k : Nat, k ≤ zs.length ∧ i = .int .i64 k ∧ Still w wr) (fun i _ => zs.length - (intOf i).toNat)
  case atStart => exact ⟨0, Nat.zero_le _, rfl, Still.refl _⟩
  case round =>
    obtain ⟨k, hk, rfl, hst⟩ := hrel
    obtain ⟨n, rfl⟩ := hst
    by_cases hlt : k < zs.length
    · rcases hr with hr | ⟨b1, off1, rfl, hc1⟩
      · omega
      rcases hr' with hr' | ⟨b2, off2, rfl, hc2⟩
      · omega
      have g1 : w.cell? ⟨b1, off1 + k, none⟩ = some (.int .i64 (zAt zs k)) := hc1 k hlt
      have g2 : w.cell? ⟨b2, off2 + k, none⟩ = some (.int .i64 (zAt zs k)) := hc2 k hlt
      clear hc1 hc2
      go_wp2
      go_quiet (fail)
      go_wp2
      go_roundw
      case rel => exact ⟨k + 1, by omega, by go_num, ⟨_, rfl⟩⟩
      case measure => simp [intOf]; omega
    · go_wp2
      go_ret
      exact ⟨rfl, Still.below ⟨_, rfl⟩ _⟩

set_option maxHeartbeats 1000000 in
theorem vmap_same (m : Mp) (a b a' b' : Option Addr) (ca cb ca' cb' : Nat) (w : World) (h1 : IRow w a m.R) (h2 : IRow w b m.C) (h3 : IRow w a' m.R) (h4 : IRow w b' m.C) (hR : m.R.length ≤ maxLen) (hC : m.C.length ≤ maxLen) :
    Calls Try.prog 18 #[.agg #[.int .i64 m.W, .int .i64 m.H, .slice a m.R.length ca, .slice b m.C.length cb], .agg #[.int .i64 m.W, .int .i64 m.H, .slice a' m.R.length ca', .slice b' m.C.length cb']] w fun e w' => e = .returned (.bool true) ∧ Below w.heap.size w w' := by
  have HB := Lib.hid (fun o o' => ((Below.refl w.heap.size w).alloc (Nat.le_refl _) o).alloc (by simp) o')
  go_enter Try.func18, Try.ntmps18
  go_wp2_with fail
  refine (ints_same _ _ _ _ m.R _ (RowAt.below h1 (HB.out _ _)) (RowAt.below h3 (HB.out _ _)) hR).mono ?_
  rintro e w1 ⟨rfl, hb1⟩
  have B0 := ((Blk.new w 26 #[.int .i64 m.W, .int .i64 m.H, .slice a m.R.length ca, .slice b m.C.length cb]).alloc (.cells #[.int .i64 m.W, .int .i64 m.H, .slice a' m.R.length ca', .slice b' m.C.length cb'] 26)).later hb1
  have B1 := (Blk.new (w.alloc (.cells #[.int .i64 m.W, .int .i64 m.H, .slice a m.R.length ca, .slice b m.C.length cb] 26)) 26 #[.int .i64 m.W, .int .i64 m.H, .slice a' m.R.length ca', .slice b' m.C.length cb']).later hb1
  simp only [World.size_alloc] at B1
  have HB1 := Lib.hid ((HB.out _ _).trans (hb1.mono (by simp; omega)))
  clear hb1
  obtain ⟨p0, p1, p2, p3, -⟩ := B0.four
  obtain ⟨q0, q1, q2, q3, -⟩ := B1.four
  go_wp2_with fail
  refine (ints_same _ _ _ _ m.C _ (RowAt.below h2 HB1.out) (RowAt.below h4 HB1.out) hC).mono ?_
  rintro e w2 ⟨rfl, hb2⟩
  go_wp2
  go_ret
  exact ⟨rfl, HB1.out.trans (hb2.mono HB1.out.size)⟩

end Go.Proofs.Ytdphliobjafjaaa.VHel
