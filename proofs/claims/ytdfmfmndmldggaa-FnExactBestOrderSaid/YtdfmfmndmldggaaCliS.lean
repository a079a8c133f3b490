/- RouteClimb: the model. -/
import Derived.Test.YtdfmfmndmldggaaSumC
namespace Go.Proofs.Ytdfmfmndmldggaa.CliS
open Go.RowKit Lb IntS MapS MapV High Cells StpF SpecB OpnI RtI RtS LtI
open Go.Proofs.Ytdfmfmndmldggaa.StepT (mostOf mostOf_eq most_any)
set_option linter.unusedSimpArgs false
set_option linter.unusedVariables false

set_option maxRecDepth 20000 in
set_option maxHeartbeats 4000000 in
theorem climb_any (m : Mp) (ww hh : Nat) (g : GoodM m ww hh) (zs : List Int) (hrt : rtB m zs = true) (n : Nat) (hn : zs.length = n + 1) (a b : Option Addr) (ca cb cl b1 off1 : Nat) (w : World) (hr : IRow w a m.R) (hc : IRow w b m.C) (hz : ∀ j, j < zs.length → w.cell? ⟨b1, off1 + j, none⟩ = some (.int .i64 (zAt zs j))) :
    Calls Try.prog 63 #[.agg #[.int .i64 m.W, .int .i64 m.H, .slice a m.R.length ca, .slice b m.C.length cb], .slice (some ⟨b1, off1, none⟩) (n + 1) cl] w fun e w' => e = .returned (.int .i64 (sm (clb m) zs n)) ∧ Below w.heap.size w w' := by
  have n36 := g.n36
  have hle := rt_le g hrt
  have HB := Lib.hid ((Below.refl w.heap.size w).alloc (Nat.le_refl _) (.cells #[.int .i64 m.W, .int .i64 m.H, .slice a m.R.length ca, .slice b m.C.length cb] 26))
  have HK := Lib.hid (Blk.new w 26 #[.int .i64 m.W, .int .i64 m.H, .slice a m.R.length ca, .slice b m.C.length cb])
  have HG := Lib.hid g
  have HRt := Lib.hid hrt
  have HR := Lib.hid hr
  have HC := Lib.hid hc
  have HZ := Lib.hid hz
  have HN := Lib.hid hn
  have hn35 : n ≤ 35 := by omega
  clear g hrt hr hc hz hn hle
  go_enter Try.func63, Try.ntmps63
  go_wp2_with fail
  go_loopg [6, 5] n (fun q i v wr => ∃ k : Nat, k ≤ n ∧ q = n - k ∧ i = .int .i64 ((k : Int) + 1) ∧ v = .int .i64 (sm (clb m) zs k) ∧ Below w.heap.size w wr ∧ Blk wr w.heap.size 26 #[.int .i64 m.W, .int .i64 m.H, .slice a m.R.length ca, .slice b m.C.length cb])
  case atStart => exact ⟨0, Nat.zero_le _, rfl, rfl, rfl, HB.out, HK.out⟩
  case round =>
    clear HB HK
    obtain ⟨k, hk, hq, rfl, rfl, hb, hkb⟩ := hrel
    have HB := Lib.hid hb
    have HK := Lib.hid hkb
    have hsm := sm_bd HG.out HRt.out (f := clb m) (fun c d h1 h2 => clb_bd HG.out h1 h2) k (by rw [HN.out]; omega)
    clear hb hkb
    by_cases hlt : k < n
    · obtain ⟨c, hc, hco⟩ := rt_cell HG.out HRt.out (i := k) (by rw [HN.out]; omega)
      obtain ⟨d, hd, hdo⟩ := rt_cell HG.out HRt.out (i := k + 1) (by rw [HN.out]; omega)
      have hcd := rt_next HG.out HRt.out (i := k) (by rw [HN.out]; omega) hc hd
      have hcl0 : c < ww * hh := hco.1
      have hdl0 : d < ww * hh := hdo.1
      obtain ⟨f1, f2⟩ := clb_bd HG.out hco hcd
      obtain ⟨s, hs⟩ : ∃ s, sm (clb m) zs k = s := ⟨_, rfl⟩
      obtain ⟨t, ht⟩ : ∃ t, clb m c d = t := ⟨_, rfl⟩
      have HSm := Lib.hid (show sm (clb m) zs (k + 1) = s + t from by rw [sm, hc, hd, Int.toNat_natCast, Int.toNat_natCast, hs, ht])
      rw [hs] at hsm ⊢
      rw [ht] at f1 f2
      obtain ⟨s1, s2⟩ := hsm
      have hwr : IntKind.i64.wrap (s + t) = s + t := IntWalk.i64_in _ (by omega)
      have g1 : wr.cell? ⟨b1, off1 + k, none⟩ = some (.int .i64 (c : Nat)) := by
        have h0 := HZ.out k (by rw [HN.out]; omega)
        rw [hc] at h0
        exact (HB.out.cell (World.block_lt_of_cell? _ _ h0)).trans h0
      have g2 : wr.cell? ⟨b1, off1 + (k + 1), none⟩ = some (.int .i64 (d : Nat)) := by
        have h0 := HZ.out (k + 1) (by rw [HN.out]; omega)
        rw [hd] at h0
        exact (HB.out.cell (World.block_lt_of_cell? _ _ h0)).trans h0
      have HS := Lib.hid (show Sq w #[.int .i64 m.W, .int .i64 m.H, .slice a m.R.length ca, .slice b m.C.length cb] b1 (off1 + k) (off1 + (k + 1)) (c : Nat) (d : Nat) wr.drew from Sq.later (W := wr) ⟨HB.out, HK.out, g1, g2⟩ (Below.refl _ _).drew)
      have hcR : c < m.R.length := by rw [HG.out.R]; exact hcl0
      have hdR : d < m.R.length := by rw [HG.out.R]; exact hdl0
      rcases RowAt.below HR.out HB.out with h0 | ⟨b2, off2, rfl, hr2⟩
      · omega
      have r1 := hr2 c hcR
      have r2 := hr2 d hdR
      obtain ⟨c1, c2, -, -⟩ := HG.out.cell c hcl0
      obtain ⟨d1, d2, -, -⟩ := HG.out.cell d hdl0
      obtain ⟨u, hu⟩ : ∃ u, zAt m.R c = u := ⟨_, rfl⟩
      obtain ⟨v, hv⟩ : ∃ v, zAt m.R d = v := ⟨_, rfl⟩
      have r1' : wr.cell? ⟨b2, off2 + c, none⟩ = some (.int .i64 u) := by rw [r1]; show some (Value.int .i64 (zAt m.R c)) = _; rw [hu]
      have r2' : wr.cell? ⟨b2, off2 + d, none⟩ = some (.int .i64 v) := by rw [r2]; show some (Value.int .i64 (zAt m.R d)) = _; rw [hv]
      have hmo : mostOf 0 (v - u) = t := by
        rw [← ht]
        unfold clb
        rw [hu, hv]
        have := mostOf_eq 0 (v - u)
        omega
      have HMo := Lib.hid (fun W => most_any 0 (v - u) W)
      rw [hmo] at HMo
      rw [hu] at c1 c2
      rw [hv] at d1 d2
      have hwd : IntKind.i64.wrap (v - u) = v - u := IntWalk.i64_in _ (by omega)
      have hcR0 : (0 : Int) ≤ (c : Int) := by omega
      have hcR1 : (c : Int) < (m.R.length : Int) := by omega
      have hdR0 : (0 : Int) ≤ (d : Int) := by omega
      have hdR1 : (d : Int) < (m.R.length : Int) := by omega
      obtain ⟨p0, p1, p2, p3, -⟩ := HS.out.box.four
      have hS0 : wr.drew.cell? ⟨b1, off1 + k, none⟩ = some (.int .i64 (c : Nat)) ∧ wr.drew.cell? ⟨b1, off1 + (k + 1), none⟩ = some (.int .i64 (d : Nat)) ∧ wr.drew.cell? ⟨b2, off2 + c, none⟩ = some (.int .i64 u) ∧ wr.drew.cell? ⟨b2, off2 + d, none⟩ = some (.int .i64 v) ∧ wr.drew.cell? ⟨w.heap.size, 2, none⟩ = some (.slice (some ⟨b2, off2, none⟩) m.R.length ca) := ⟨HS.out.c1, HS.out.c2, r1', r2', p2⟩
      clear hr2 r1 r2 hu hv hmo
      have hk0 : (0 : Int) ≤ (k : Int) := by omega
      have hk1 : (k : Int) < (n : Int) + 1 := by omega
      have hk2 : (k : Int) < (n : Int) := by omega
      have hk3 : (0 : Int) ≤ (k : Int) + 1 := by omega
      have hk4 : (k : Int) + 1 < (n : Int) + 1 := by omega
      have hwk : IntKind.i64.wrap (k : Int) = (k : Int) := IntWalk.i64_in _ (by omega)
      have hwk2 : IntKind.i64.wrap ((k : Int) + 1 - 1) = (k : Int) := by rw [Int.add_sub_cancel]; exact hwk
      clear hc hd hco hdo hcd hs ht g1 g2
      go_upto_region 5 with (fail)
      go_region_held3 (fun W : World => W.cell? ⟨b1, off1 + k, none⟩ = some (.int .i64 (c : Nat)) ∧ W.cell? ⟨b1, off1 + (k + 1), none⟩ = some (.int .i64 (d : Nat)) ∧ W.cell? ⟨b2, off2 + c, none⟩ = some (.int .i64 u) ∧ W.cell? ⟨b2, off2 + d, none⟩ = some (.int .i64 v) ∧ W.cell? ⟨w.heap.size, 2, none⟩ = some (.slice (some ⟨b2, off2, none⟩) m.R.length ca)) (first | with_reducible exact hS0) (first
        | (go_at_call 92; refine (HMo.out _).mono ?_; rintro e w5 ⟨rfl, rfl⟩))
      go_wp2_with fail
      go_roundg (n - (k + 1))
      case measure => omega
      case rel => exact ⟨k + 1, by omega, rfl, by go_num, by rw [HSm.out], HS.out.b, HS.out.box⟩
    · obtain rfl : k = n := by omega
      go_wp2_with fail
      go_ret
      exact ⟨rfl, HB.out⟩
end Go.Proofs.Ytdfmfmndmldggaa.CliS
