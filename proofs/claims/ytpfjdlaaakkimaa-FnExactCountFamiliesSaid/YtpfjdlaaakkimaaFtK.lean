/- The laws' marks in lists of features: a contract. -/
import Derived.Test.YtpfjdlaaakkimaaFtL
import Derived.Test.YtpfjdlaaakkimaaMark
namespace Go.Proofs.Ytpfjdlaaakkimaa.FtK
open Go.RowKit Lb Bk FtS FtL Mrk
set_option linter.unusedSimpArgs false
set_option linter.unusedVariables false

/-- A block of so many cells, and what has turned elsewhere: nothing. -/
structure Mk (w W : World) (g n : Nat) : Prop where
  E : ∃ cs, Blk W g 26 cs ∧ n * 5 ≤ cs.size
  G : w.grownBy W (some g)
theorem Mk.later {w W W' : World} {g n : Nat} (h : Mk w W g n) (hb : Below W.heap.size W W') : Mk w W' g n := by
  obtain ⟨⟨cs, hB, hs⟩, hG⟩ := h
  exact ⟨⟨cs, hB.later hb, hs⟩, Mrk.grownBy_trans hG (Mrk.grownBy_of_below hb _)⟩
theorem Mk.set_ {w W : World} {g n : Nat} (h : Mk w W g n) (i : Nat) (v : Value) : Mk w (W.setCell ⟨g, i, none⟩ v) g n := by
  obtain ⟨⟨cs, hB, hs⟩, hG⟩ := h
  exact ⟨⟨_, hB.set_ i v, by simpa using hs⟩, ⟨hG.os, hG.tape, hG.output, by simpa using hG.size, fun k hk hr => (Below.heap_setCell W ⟨g, i, none⟩ v k (fun e => hr (by rw [e]))).trans (hG.block k hk hr)⟩⟩
theorem Mk.cell {w W : World} {g n : Nat} (h : Mk w W g n) {i j : Nat} (hi : i < n) (hj : j < 5) : ∃ u, W.cell? ⟨g, i * 5 + j, none⟩ = some u ∧ W.frozen? ⟨g, i * 5 + j, none⟩ = false := by
  obtain ⟨⟨cs, hB, hs⟩, -⟩ := h
  have hl : i * 5 + j < cs.size := by omega
  exact ⟨cs[i * 5 + j], hB.cell _ (by simp [hl]), hB.frozen _⟩

theorem Mk.of {w : World} {g n : Nat} {h : Nat → Ft} (H : BlkF w g n h) : Mk w w g n := by
  obtain ⟨cs, hB, hc⟩ := H
  refine ⟨⟨cs, hB, ?_⟩, World.grownBy.refl _ _⟩
  by_cases e : n = 0
  · omega
  · have := (Array.getElem?_eq_some_iff.1 (hc (n - 1) (by omega) 4 (by omega))).1
    omega

set_option maxHeartbeats 4000000 in
theorem mark_one (g cap n : Nat) (w : World) (h : Mk w w g n) (hn : n ≤ 1048576) :
    Calls Try.prog 31 #[.slice (some ⟨g, 0, none⟩) n cap, .int .i64 1] w fun e w' => e = .returned (.int .i64 (1 + 5 * n : Nat)) ∧ w.grownBy w' (some g) := by
  have H := Lib.hid h
  clear h
  go_enter Try.func31, Try.ntmps31
  go_wp2
  go_loopw [1, 5] (fun kk ii wr => ∃ i : Nat, i ≤ n ∧ ii = .int .i64 i ∧ kk = .int .i64 (1 + 5 * i : Nat) ∧ Mk w wr g n) (fun _ ii _ => n - (intOf ii).toNat)
  case atStart => exact ⟨0, Nat.zero_le _, rfl, rfl, H.out⟩
  case round =>
    obtain ⟨i, hi, rfl, rfl, hm⟩ := hrel
    have HM := Lib.hid hm
    clear hm
    by_cases hlt : i < n
    · obtain ⟨K, hK⟩ : ∃ K, 1 + 5 * i = K := ⟨_, rfl⟩
      have hK1 : 1 ≤ K := by omega
      have hK2 : K ≤ 5242881 := by omega
      have HK := Lib.hid hK
      rw [hK]
      clear hK
      obtain ⟨u, cu, fu⟩ := HM.out.cell hlt (show 0 < 5 by omega)
      rw [Nat.add_zero] at cu fu
      have HS1 := Lib.hid (HM.out.set_ (i * 5) (.int .i64 K))
      go_wp2_with fail
      clear cu fu
      rw [show ((K : Int) + 1) = ((K + 1 : Nat) : Int) from by omega]
      refine (markText_any (K + 1) _ (by omega) (by omega)).mono ?_
      rintro e w1 ⟨rfl, hb1⟩
      have HM1 := Lib.hid (HS1.out.later hb1)
      clear hb1
      obtain ⟨u, cu, fu⟩ := HM1.out.cell hlt (show 1 < 5 by omega)
      have HS2 := Lib.hid (HM1.out.set_ (i * 5 + 1) (.string (markOf (K + 1))))
      go_wp2_with fail
      clear cu fu
      rw [show ((K : Int) + 1 + 1) = ((K + 2 : Nat) : Int) from by omega]
      refine (markText_any (K + 2) _ (by omega) (by omega)).mono ?_
      rintro e w2 ⟨rfl, hb2⟩
      have HM2 := Lib.hid (HS2.out.later hb2)
      clear hb2
      obtain ⟨u, cu, fu⟩ := HM2.out.cell hlt (show 2 < 5 by omega)
      have HS3 := Lib.hid (HM2.out.set_ (i * 5 + 2) (.string (markOf (K + 2))))
      go_wp2_with fail
      clear cu fu
      rw [show ((K : Int) + 2 + 1) = ((K + 3 : Nat) : Int) from by omega]
      refine (markText_any (K + 3) _ (by omega) (by omega)).mono ?_
      rintro e w3 ⟨rfl, hb3⟩
      have HM3 := Lib.hid (HS3.out.later hb3)
      clear hb3
      obtain ⟨u, cu, fu⟩ := HM3.out.cell hlt (show 3 < 5 by omega)
      have HS4 := Lib.hid (HM3.out.set_ (i * 5 + 3) (.string (markOf (K + 3))))
      go_wp2_with fail
      clear cu fu
      rw [show ((K : Int) + 3 + 1) = ((K + 4 : Nat) : Int) from by omega]
      refine (markText_any (K + 4) _ (by omega) (by omega)).mono ?_
      rintro e w4 ⟨rfl, hb4⟩
      have HM4 := Lib.hid (HS4.out.later hb4)
      clear hb4
      obtain ⟨u, cu, fu⟩ := HM4.out.cell hlt (show 4 < 5 by omega)
      have HS5 := Lib.hid (HM4.out.set_ (i * 5 + 4) (.string (markOf (K + 4))))
      go_wp2
      go_roundw
      case rel => exact ⟨i + 1, by omega, by go_num, by have := HK.out; exact congrArg (Value.int IntKind.i64) (by omega), HS5.out⟩
      case measure => simp [intOf]; omega
    · obtain rfl : i = n := by omega
      go_wp2
      go_ret
      exact ⟨rfl, HM.out.G⟩

end Go.Proofs.Ytpfjdlaaakkimaa.FtK
