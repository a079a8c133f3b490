/- The distance of two cells: both texts. -/
import Derived.Test.YtfpfnnindlfgfaaCoM
import Derived.Test.YtfpfnnindlfgfaaStepT
import Derived.Deep.RegionWith
import Derived.Deep.RegionHeld3
namespace Go.Proofs.Ytfpfnnindlfgfaa.CoD
open Go.RowKit Lb IntS CtK CoM
set_option linter.unusedSimpArgs false
set_option linter.unusedVariables false

/-- The difference without its sign; the distance. -/
def dN (x y : Nat) : Nat := (x - y) + (y - x)
def apN (ww p q : Nat) : Nat := dN (p % ww) (q % ww) + dN (p / ww) (q / ww)
theorem dN_comm (x y : Nat) : dN x y = dN y x := by unfold dN; omega
theorem apN_comm (ww p q : Nat) : apN ww p q = apN ww q p := by unfold apN; rw [dN_comm, dN_comm (p / ww)]

set_option maxHeartbeats 1000000 in
theorem diff_any (x y : Nat) (hx : x ≤ 1000) (hy : y ≤ 1000) (w : World) : Calls Try.prog 145 #[.int .i64 x, .int .i64 y] w fun e w' => e = .returned (.int .i64 (dN x y : Nat)) ∧ w' = w := by
  obtain ⟨d, hd⟩ : ∃ d, dN x y = d := ⟨_, rfl⟩
  have HE := Lib.hid (show max ((x : Int) - y) ((y : Int) - x) = (d : Nat) from by rw [← hd]; unfold dN; omega)
  rw [hd]
  clear hd
  go_enter Try.func145, Try.ntmps145
  go_wp2
  go_ret
  exact ⟨ret_int HE.out, rfl⟩

theorem diff_q (x y : Nat) (hx : x ≤ 1000) (hy : y ≤ 1000) (w : World) (q : Nat) : Calls Try.prog 145 #[.int .i64 x, .int .i64 y] (w.drewN q) fun e w'' => e = .returned (.int .i64 (dN x y : Nat)) ∧ ∃ j, w'' = w.drewN j :=
  (diff_any x y hx hy _).mono fun e w' ⟨he, hw⟩ => ⟨he, q, hw⟩
set_option maxRecDepth 20000 in
set_option maxHeartbeats 1000000 in
theorem dist_any (m : Mp) (ww hh : Nat) (g : GoodM m ww hh) (p q : Nat) (hp : p < ww * hh) (hq : q < ww * hh) (a b : Option Addr) (ca cb : Nat) (w : World) :
    Calls Try.prog 113 #[.agg #[.int .i64 m.W, .int .i64 m.H, .slice a m.R.length ca, .slice b m.C.length cb], .int .i64 p, .int .i64 q] w fun e w' => e = .returned (.int .i64 (apN ww p q : Nat)) ∧ Below w.heap.size w w' := by
  have HB := Lib.hid ((Below.refl w.heap.size w).alloc (Nat.le_refl _) (.cells #[.int .i64 m.W, .int .i64 m.H, .slice a m.R.length ca, .slice b m.C.length cb] 26))
  have HK := Lib.hid (MapS.Blk.new w 26 #[.int .i64 m.W, .int .i64 m.H, .slice a m.R.length ca, .slice b m.C.length cb])
  have hW : m.W = (ww : Int) := congrArg Mp.W (Cells.mp_eq g)
  have w1 := g.w1
  have w6 := g.w6
  have n36 := g.n36
  obtain ⟨p0, p1, p2, p3, -⟩ := HK.out.four
  rw [hW] at p0
  replace HB := Lib.hid ((Below.refl w.heap.size w).alloc (Nat.le_refl _) (.cells #[.int .i64 ww, .int .i64 m.H, .slice a m.R.length ca, .slice b m.C.length cb] 26))
  obtain ⟨v1, hv1⟩ : ∃ r, p % ww = r := ⟨_, rfl⟩
  obtain ⟨v2, hv2⟩ : ∃ r, q % ww = r := ⟨_, rfl⟩
  obtain ⟨v3, hv3⟩ : ∃ r, p / ww = r := ⟨_, rfl⟩
  obtain ⟨v4, hv4⟩ : ∃ r, q / ww = r := ⟨_, rfl⟩
  have t1 : (p : Int).tmod (ww : Int) = (v1 : Int) := by rw [← hv1]; exact (Int.ofNat_tmod _ _).symm
  have t2 : (q : Int).tmod (ww : Int) = (v2 : Int) := by rw [← hv2]; exact (Int.ofNat_tmod _ _).symm
  have t3 : (p : Int).tdiv (ww : Int) = (v3 : Int) := by rw [← hv3]; exact (Int.ofNat_tdiv _ _).symm
  have t4 : (q : Int).tdiv (ww : Int) = (v4 : Int) := by rw [← hv4]; exact (Int.ofNat_tdiv _ _).symm
  have l1 : v1 ≤ 36 := by rw [← hv1]; exact Nat.le_trans (Nat.mod_le _ _) (by omega)
  have l2 : v2 ≤ 36 := by rw [← hv2]; exact Nat.le_trans (Nat.mod_le _ _) (by omega)
  have l3 : v3 ≤ 36 := by rw [← hv3]; exact Nat.le_trans (Nat.div_le_self _ _) (by omega)
  have l4 : v4 ≤ 36 := by rw [← hv4]; exact Nat.le_trans (Nat.div_le_self _ _) (by omega)
  obtain ⟨d1, hd1⟩ : ∃ d, dN v1 v2 = d := ⟨_, rfl⟩
  obtain ⟨d2, hd2⟩ : ∃ d, dN v3 v4 = d := ⟨_, rfl⟩
  obtain ⟨s, hs⟩ : ∃ s, d1 + d2 = s := ⟨_, rfl⟩
  have HW := Lib.hid (show wrap64 (((dN v1 v2 : Nat) : Int) + ((dN v3 v4 : Nat) : Int)) = (s : Int) from by rw [IntWalk.wrap64_in _ (by unfold dN; omega), hd1, hd2]; omega)
  have e1 : d1 ≤ 72 := by rw [← hd1]; unfold dN; omega
  have e2 : d2 ≤ 72 := by rw [← hd2]; unfold dN; omega
  have HE := Lib.hid (show apN ww p q = s from by unfold apN; rw [hv1, hv2, hv3, hv4, hd1, hd2, hs])
  have HSum := Lib.hid (show ((d1 : Int) + (d2 : Int)) = (s : Int) from by omega)
  rw [HE.out]
  have hz : ¬ (ww : Int) = 0 := by omega
  have hz2 : ¬ ww = 0 := by omega
  have hz3 : (ww == 0) = false := by simpa using hz2
  have hz4 : ((ww : Int) == 0) = false := by simpa using hz
  have hz5 : ¬ (ww : Int) = -1 := by omega
  clear hv1 hv2 hv3 hv4 hd1 hd2 hs
  go_enter Try.func113, Try.ntmps113
  go_upto_region 1 with (fail)
  rw [hW]
  generalize w.alloc (.cells #[.int .i64 ww, .int .i64 m.H, .slice a m.R.length ca, .slice b m.C.length cb] 26) = wz at *
  go_quiet ((go_at_call 145; exact diff_q _ _ (by omega) (by omega) _ _))
  go_wp2
  go_ret
  exact ⟨ret_int HW.out, Bk.below_drewN HB.out _⟩

set_option maxRecDepth 20000 in
set_option maxHeartbeats 4000000 in
theorem apart_any (m : Mp) (ww hh : Nat) (g : GoodM m ww hh) (p q : Nat) (hp : p < ww * hh) (hq : q < ww * hh) (a b : Option Addr) (ca cb : Nat) (w : World) :
    Calls Try.prog 114 #[.agg #[.int .i64 m.W, .int .i64 m.H, .slice a m.R.length ca, .slice b m.C.length cb], .int .i64 p, .int .i64 q] w fun e w' => e = .returned (.int .i64 (apN ww p q : Nat)) ∧ Below w.heap.size w w' := by
  have HB := Lib.hid ((Below.refl w.heap.size w).alloc (Nat.le_refl _) (.cells #[.int .i64 m.W, .int .i64 m.H, .slice a m.R.length ca, .slice b m.C.length cb] 26))
  have HK := Lib.hid (MapS.Blk.new w 26 #[.int .i64 m.W, .int .i64 m.H, .slice a m.R.length ca, .slice b m.C.length cb])
  have hW : m.W = (ww : Int) := congrArg Mp.W (Cells.mp_eq g)
  have w1 := g.w1
  have w6 := g.w6
  have n36 := g.n36
  obtain ⟨p0, p1, p2, p3, -⟩ := HK.out.four
  rw [hW] at p0
  replace HB := Lib.hid ((Below.refl w.heap.size w).alloc (Nat.le_refl _) (.cells #[.int .i64 ww, .int .i64 m.H, .slice a m.R.length ca, .slice b m.C.length cb] 26))
  obtain ⟨v1, hv1⟩ : ∃ r, p % ww = r := ⟨_, rfl⟩
  obtain ⟨v2, hv2⟩ : ∃ r, q % ww = r := ⟨_, rfl⟩
  obtain ⟨v3, hv3⟩ : ∃ r, p / ww = r := ⟨_, rfl⟩
  obtain ⟨v4, hv4⟩ : ∃ r, q / ww = r := ⟨_, rfl⟩
  have t1 : (p : Int).tmod (ww : Int) = (v1 : Int) := by rw [← hv1]; exact (Int.ofNat_tmod _ _).symm
  have t2 : (q : Int).tmod (ww : Int) = (v2 : Int) := by rw [← hv2]; exact (Int.ofNat_tmod _ _).symm
  have t3 : (p : Int).tdiv (ww : Int) = (v3 : Int) := by rw [← hv3]; exact (Int.ofNat_tdiv _ _).symm
  have t4 : (q : Int).tdiv (ww : Int) = (v4 : Int) := by rw [← hv4]; exact (Int.ofNat_tdiv _ _).symm
  have l1 : v1 ≤ 36 := by rw [← hv1]; exact Nat.le_trans (Nat.mod_le _ _) (by omega)
  have l2 : v2 ≤ 36 := by rw [← hv2]; exact Nat.le_trans (Nat.mod_le _ _) (by omega)
  have l3 : v3 ≤ 36 := by rw [← hv3]; exact Nat.le_trans (Nat.div_le_self _ _) (by omega)
  have l4 : v4 ≤ 36 := by rw [← hv4]; exact Nat.le_trans (Nat.div_le_self _ _) (by omega)
  obtain ⟨d1, hd1⟩ : ∃ d, dN v1 v2 = d := ⟨_, rfl⟩
  obtain ⟨d2, hd2⟩ : ∃ d, dN v3 v4 = d := ⟨_, rfl⟩
  obtain ⟨s, hs⟩ : ∃ s, d1 + d2 = s := ⟨_, rfl⟩
  obtain ⟨x1, hx1⟩ : ∃ x : Int, (v1 : Int) - v2 = x := ⟨_, rfl⟩
  obtain ⟨x2, hx2⟩ : ∃ x : Int, (v3 : Int) - v4 = x := ⟨_, rfl⟩
  have HX1 := Lib.hid hx1
  have HX2 := Lib.hid hx2
  have hm1 : StepT.mostOf x1 (-x1) = (d1 : Int) := by rw [← hd1]; unfold StepT.mostOf dN; split <;> omega
  have hm2 : StepT.mostOf x2 (-x2) = (d2 : Int) := by rw [← hd2]; unfold StepT.mostOf dN; split <;> omega
  have C1 := Lib.hid (fun w => hm1 ▸ StepT.most_any x1 (-x1) w)
  have C2 := Lib.hid (fun w => hm2 ▸ StepT.most_any x2 (-x2) w)
  have k1 : -36 ≤ x1 ∧ x1 ≤ 36 := by omega
  have k2 : -36 ≤ x2 ∧ x2 ≤ 36 := by omega
  obtain ⟨k11, k12⟩ := k1
  obtain ⟨k21, k22⟩ := k2
  have e1 : d1 ≤ 72 := by rw [← hd1]; unfold dN; omega
  have e2 : d2 ≤ 72 := by rw [← hd2]; unfold dN; omega
  have HE := Lib.hid (show apN ww p q = s from by unfold apN; rw [hv1, hv2, hv3, hv4, hd1, hd2, hs])
  have HSum := Lib.hid (show ((d1 : Int) + (d2 : Int)) = (s : Int) from by omega)
  rw [HE.out]
  have hz : ¬ (ww : Int) = 0 := by omega
  have hz2 : ¬ ww = 0 := by omega
  have hz3 : (ww == 0) = false := by simpa using hz2
  have hz4 : ((ww : Int) == 0) = false := by simpa using hz
  have hz5 : ¬ (ww : Int) = -1 := by omega
  clear hv1 hv2 hv3 hv4 hd1 hd2 hs hm1 hm2 hx1 hx2
  go_enter Try.func114, Try.ntmps114
  go_upto_region 1 with (fail)
  rw [hW]
  generalize w.alloc (.cells #[.int .i64 ww, .int .i64 m.H, .slice a m.R.length ca, .slice b m.C.length cb] 26) = wz at *
  go_quiet (fail)
  rw [HX1.out, HX2.out]
  go_wp2_with fail
  refine (C1.out _).mono ?_
  rintro e w2 ⟨rfl, rfl⟩
  go_wp2_with fail
  refine (C2.out _).mono ?_
  rintro e w2 ⟨rfl, rfl⟩
  go_wp2
  go_ret
  exact ⟨ret_int HSum.out, Bk.below_drewN HB.out _⟩
end Go.Proofs.Ytfpfnnindlfgfaa.CoD
