/- The sum over the steps of a route: the program, at one step function. -/
import Derived.Test.YtdfmfmndmldggaaRtM
import Derived.Test.YtdfmfmndmldggaaLtI
import Derived.Deep.RegionHeld3
namespace Go.Proofs.Ytdfmfmndmldggaa.SumC
open Go.Proofs.Ytdfmfmndmldggaa.Next (below_drewN)
open Go.RowKit Lb IntS MapS MapV High Cells StepT StpF SpecB OpnI RtI RtS LtI
set_option linter.unusedSimpArgs false
set_option linter.unusedVariables false

theorem climb_any (m : Mp) (ww hh : Nat) (g : GoodM m ww hh) (a b : Option Addr) (ca cb : Nat) (c d : Nat) (w : World) (hr : IRow w a m.R) (hc : IRow w b m.C) (h1 : c < ww * hh) (h2 : d < ww * hh) :
    Calls Try.prog 91 #[.agg #[.int .i64 m.W, .int .i64 m.H, .slice a m.R.length ca, .slice b m.C.length cb], .int .i64 c, .int .i64 d] w fun e w' => e = .returned (.int .i64 (clb m c d)) ∧ Below w.heap.size w w' := by
  have HB := Lib.hid ((Below.refl w.heap.size w).alloc (Nat.le_refl _) (.cells #[.int .i64 m.W, .int .i64 m.H, .slice a m.R.length ca, .slice b m.C.length cb] 26))
  have n36 := g.n36
  obtain ⟨c1, c2, -, -⟩ := g.cell c h1
  obtain ⟨d1, d2, -, -⟩ := g.cell d h2
  have hcR : c < m.R.length := by rw [g.R]; exact h1
  have hdR : d < m.R.length := by rw [g.R]; exact h2
  rcases RowAt.below hr HB.out with h0 | ⟨b1, off1, rfl, hr1⟩
  · omega
  have g1 := hr1 c hcR
  have g2 := hr1 d hdR
  clear hr hc hr1 g
  go_enter Try.func91, Try.ntmps91
  go_wp2
  go_quiet (fail)
  go_wp2
  go_ret
  exact ⟨ret_int rfl, below_drewN HB.out _⟩
set_option maxRecDepth 20000 in
set_option maxHeartbeats 4000000 in
theorem sum_yes (m : Mp) (ww hh : Nat) (g : GoodM m ww hh) (zs : List Int) (hrt : rtB m zs = true) (n : Nat) (hn : zs.length = n + 1) (a b : Option Addr) (ca cb cl b1 off1 : Nat) (hcap : zs.length ≤ cl) (hc1 : 1 < cl) (w : World) (hr : IRow w a m.R) (hc : IRow w b m.C) (hz : ∀ j, j < zs.length → w.cell? ⟨b1, off1 + j, none⟩ = some (.int .i64 (zAt zs j))) :
    Calls Try.prog 83 #[.agg #[.int .i64 m.W, .int .i64 m.H, .slice a m.R.length ca, .slice b m.C.length cb], .slice (some ⟨b1, off1, none⟩) (n + 1) cl, .func (.func 91) #[] #[]] w (LPost w (sm (clb m) zs n) true) := by
  have n36 := g.n36
  have hle := rt_le g hrt
  have HB := Lib.hid ((Below.refl w.heap.size w).alloc (Nat.le_refl _) (.cells #[.int .i64 m.W, .int .i64 m.H, .slice a m.R.length ca, .slice b m.C.length cb] 26))
  have HK := Lib.hid (Blk.new w 26 #[.int .i64 m.W, .int .i64 m.H, .slice a m.R.length ca, .slice b m.C.length cb])
  have HG := Lib.hid g
  have HRt := Lib.hid hrt
  have HR := Lib.hid hr
  have HC := Lib.hid hc
  have HZ := Lib.hid hz
  have HN := Lib.hid hn
  have hn35 : n ≤ 35 := by omega
  have hcl : n + 1 ≤ cl := by omega
  have hcl1 : (1 : Int) ≤ (n : Int) + 1 := by omega
  have hcl2 : (n : Int) + 1 ≤ (cl : Int) := by omega
  have HI := Lib.hid (fun W (h1 : IRow W a m.R) (h2 : IRow W b m.C) (h3 : IRow W (some ⟨b1, off1, none⟩) zs) => RtI.impl_ok m ww hh g zs (by omega) a b (some ⟨b1, off1, none⟩) ca cb cl W h1 h2 h3)
  rw [hn, hrt] at HI
  clear g hrt hr hc hz hn hle hcap
  go_enter Try.func83, Try.ntmps83
  go_wp2_with fail
  refine (HI.out _ (RowAt.below HR.out HB.out) (RowAt.below HC.out HB.out) (RowAt.below (.inr ⟨b1, off1, rfl, HZ.out⟩) HB.out)).mono ?_
  rintro e w1 ⟨rfl, hb1⟩
  have HB1 := Lib.hid (HB.out.trans (hb1.mono (by simp)))
  have HK1 := Lib.hid (HK.out.later hb1)
  clear hb1 HB HK HI
  go_wp2_with fail
  go_loopg [24, 10] n (fun q i v wr => ∃ k : Nat, k ≤ n ∧ q = n - k ∧ i = .int .i64 k ∧ v = .int .i64 (sm (clb m) zs k) ∧ Below w.heap.size w wr ∧ Blk wr w.heap.size 26 #[.int .i64 m.W, .int .i64 m.H, .slice a m.R.length ca, .slice b m.C.length cb])
  case atStart => exact ⟨0, Nat.zero_le _, rfl, rfl, rfl, HB1.out, HK1.out⟩
  case round =>
    clear HB1 HK1
    obtain ⟨k, hk, hq, rfl, rfl, hb, hkb⟩ := hrel
    have HB := Lib.hid hb
    have HK := Lib.hid hkb
    have hsm := sm_bd HG.out HRt.out (f := clb m) (fun c d h1 h2 => clb_bd HG.out h1 h2) k (by rw [HN.out]; omega)
    clear hb hkb
    by_cases hlt : k < n
    · obtain ⟨c, hc, hco⟩ := rt_cell HG.out HRt.out (i := k) (by rw [HN.out]; omega)
      obtain ⟨d, hd, hdo⟩ := rt_cell HG.out HRt.out (i := k + 1) (by rw [HN.out]; omega)
      have hcd := rt_next HG.out HRt.out (i := k) (by rw [HN.out]; omega) hc hd
      have hcl0 : c < ww * hh := hco.1
      have hdl0 : d < ww * hh := hdo.1
      obtain ⟨f1, f2⟩ := clb_bd HG.out hco hcd
      obtain ⟨s, hs⟩ : ∃ s, sm (clb m) zs k = s := ⟨_, rfl⟩
      obtain ⟨t, ht⟩ : ∃ t, clb m c d = t := ⟨_, rfl⟩
      have HSm := Lib.hid (show sm (clb m) zs (k + 1) = s + t from by rw [sm, hc, hd, Int.toNat_natCast, Int.toNat_natCast, hs, ht])
      rw [hs] at hsm ⊢
      rw [ht] at f1 f2
      obtain ⟨s1, s2⟩ := hsm
      have hwr : IntKind.i64.wrap (s + t) = s + t := IntWalk.i64_in _ (by omega)
      have g1 : wr.cell? ⟨b1, off1 + k, none⟩ = some (.int .i64 (c : Nat)) := by
        have h0 := HZ.out k (by rw [HN.out]; omega)
        rw [hc] at h0
        exact (HB.out.cell (World.block_lt_of_cell? _ _ h0)).trans h0
      have g2 : wr.cell? ⟨b1, off1 + 1 + k, none⟩ = some (.int .i64 (d : Nat)) := by
        have h0 := HZ.out (k + 1) (by rw [HN.out]; omega)
        rw [hd, show off1 + (k + 1) = off1 + 1 + k by omega] at h0
        exact (HB.out.cell (World.block_lt_of_cell? _ _ h0)).trans h0
      have HS := Lib.hid (show Sq w #[.int .i64 m.W, .int .i64 m.H, .slice a m.R.length ca, .slice b m.C.length cb] b1 (off1 + k) (off1 + k) (c : Nat) (c : Nat) wr.drew from Sq.later (W := wr) ⟨HB.out, HK.out, g1, g1⟩ (Below.refl _ _).drew)
      have HSt := Lib.hid (fun W (H : Below w.heap.size w W) => climb_any m ww hh HG.out a b ca cb c d W (RowAt.below HR.out H) (RowAt.below HC.out H) hcl0 hdl0)
      rw [ht] at HSt
      have hk0 : (0 : Int) ≤ (k : Int) := by omega
      have hk1 : (k : Int) < (n : Int) + 1 := by omega
      have hk2 : (k : Int) < (n : Int) := by omega
      clear hc hd hco hdo hcd hs ht g1
      go_upto_region 8 with (fail)
      clear g2
      go_region_held3 (fun W : World => W.cell? ⟨b1, off1 + k, none⟩ = some (.int .i64 (c : Nat)) ∧ W.cell? ⟨b1, off1 + k, none⟩ = some (.int .i64 (c : Nat)) ∧ W.cell? ⟨w.heap.size, 0, none⟩ = some (.int .i64 m.W) ∧ W.cell? ⟨w.heap.size, 1, none⟩ = some (.int .i64 m.H) ∧ W.cell? ⟨w.heap.size, 2, none⟩ = some (.slice a m.R.length ca) ∧ W.cell? ⟨w.heap.size, 3, none⟩ = some (.slice b m.C.length cb)) (first | with_reducible exact HS.out.keep) (first
        | (go_at_call 91; refine (HSt.out _ HS.out.b).mono ?_; rintro e w5 ⟨rfl, hb5⟩; have HS5 := Lib.hid (HS.out.later hb5); clear hb5; have HS := HS5))
      go_wp2_with fail
      go_roundg (n - (k + 1))
      case measure => omega
      case rel => exact ⟨k + 1, by omega, rfl, by go_num, by rw [HSm.out], HS.out.b, HS.out.box⟩
    · obtain rfl : k = n := by omega
      go_wp2_with fail
      go_ret2
      exact ⟨rfl, HB.out⟩

set_option maxHeartbeats 2000000 in
theorem sum_one (m : Mp) (ww hh : Nat) (g : GoodM m ww hh) (zs : List Int) (hrt : rtB m zs = true) (hn : zs.length = 1) (a b : Option Addr) (ca cb b1 off1 : Nat) (w : World) (hr : IRow w a m.R) (hc : IRow w b m.C) (hz : ∀ j, j < zs.length → w.cell? ⟨b1, off1 + j, none⟩ = some (.int .i64 (zAt zs j))) :
    Calls Try.prog 83 #[.agg #[.int .i64 m.W, .int .i64 m.H, .slice a m.R.length ca, .slice b m.C.length cb], .slice (some ⟨b1, off1, none⟩) 1 1, .func (.func 91) #[] #[]] w (LPost w 0 true) := by
  have HB := Lib.hid ((Below.refl w.heap.size w).alloc (Nat.le_refl _) (.cells #[.int .i64 m.W, .int .i64 m.H, .slice a m.R.length ca, .slice b m.C.length cb] 26))
  have HR := Lib.hid hr
  have HC := Lib.hid hc
  have HZ := Lib.hid hz
  have HI := Lib.hid (fun W (h1 : IRow W a m.R) (h2 : IRow W b m.C) (h3 : IRow W (some ⟨b1, off1, none⟩) zs) => RtI.impl_ok m ww hh g zs (by omega) a b (some ⟨b1, off1, none⟩) ca cb 1 W h1 h2 h3)
  rw [hn, hrt] at HI
  clear g hrt hr hc hz hn
  go_enter Try.func83, Try.ntmps83
  go_wp2_with fail
  refine (HI.out _ (RowAt.below HR.out HB.out) (RowAt.below HC.out HB.out) (RowAt.below (.inr ⟨b1, off1, rfl, HZ.out⟩) HB.out)).mono ?_
  rintro e w1 ⟨rfl, hb1⟩
  have HB1 := Lib.hid (HB.out.trans (hb1.mono (by simp)))
  clear hb1 HB HI
  go_wp2_with fail
  go_loopg [24, 10] 0 (fun q i v wr => q = 0 ∧ i = .int .i64 0 ∧ v = .int .i64 0 ∧ Below w.heap.size w wr)
  case atStart => exact ⟨rfl, rfl, rfl, HB1.out⟩
  case round =>
    clear HB1
    obtain ⟨hq, rfl, rfl, hb⟩ := hrel
    have HB := Lib.hid hb
    clear hb
    go_wp2_with fail
    go_ret2
    exact ⟨rfl, HB.out⟩

set_option maxHeartbeats 1000000 in
theorem sum_no (m : Mp) (zs : List Int) (x ok : Bool) (hx : x = false) (a b al : Option Addr) (ca cb cl : Nat) (w : World) (hr : IRow w a m.R) (hc : IRow w b m.C) (hz : IRow w al zs)
    (HI : ∀ W, IRow W a m.R → IRow W b m.C → IRow W al zs → Calls Try.prog 111 #[.agg #[.int .i64 m.W, .int .i64 m.H, .slice a m.R.length ca, .slice b m.C.length cb], .slice al zs.length cl] W (BPost W x ok)) :
    Calls Try.prog 83 #[.agg #[.int .i64 m.W, .int .i64 m.H, .slice a m.R.length ca, .slice b m.C.length cb], .slice al zs.length cl, .func (.func 91) #[] #[]] w (LPost w 0 false) := by
  subst hx
  have HB := Lib.hid ((Below.refl w.heap.size w).alloc (Nat.le_refl _) (.cells #[.int .i64 m.W, .int .i64 m.H, .slice a m.R.length ca, .slice b m.C.length cb] 26))
  have HH := Lib.hid HI
  clear HI
  go_enter Try.func83, Try.ntmps83
  go_wp2_with fail
  refine (HH.out _ (RowAt.below hr HB.out) (RowAt.below hc HB.out) (RowAt.below hz HB.out)).mono ?_
  rintro e w1 ⟨rfl, hb1⟩
  have HB1 := Lib.hid (HB.out.trans (hb1.mono (by simp)))
  clear hb1
  go_wp2_with fail
  go_ret2
  exact ⟨rfl, HB1.out⟩
end Go.Proofs.Ytdfmfmndmldggaa.SumC
