/- RouteClimb: both texts. -/
import Derived.Test.YtbcoacbablaagaaCliS
namespace Go.Proofs.Ytbcoacbablaagaa.TibC
open Go.RowKit Lb IntS MapS MapV High Cells StepT StpF SpecB OpnI RtI RtS LtI SumC
set_option linter.unusedSimpArgs false
set_option linter.unusedVariables false

/-- The answer. -/
def aB (m : Mp) (zs : List Int) : Bool := okB m && rtB m zs
def aN (m : Mp) (zs : List Int) : Int := if aB m zs then sm (clb m) zs (zs.length - 1) else 0
theorem a_no {m : Mp} {zs : List Int} (h : aB m zs = false) : aN m zs = 0 := by unfold aN; rw [h]; rfl
theorem a_yes {m : Mp} {zs : List Int} {n : Nat} (h : aB m zs = true) (hn : zs.length = n + 1) : aN m zs = sm (clb m) zs n := by
  unfold aN
  rw [h, hn]
  rfl

theorem sum_any (m : Mp) (zs : List Int) (hl : zs.length ≤ 1048576) (a b al : Option Addr) (ca cb cl : Nat) (w : World) (hcap : zs.length ≤ cl) (hR : m.R.length ≤ maxLen) (hC : m.C.length ≤ maxLen) (hr : IRow w a m.R) (hc : IRow w b m.C) (hz : IRow w al zs) :
    Calls Try.prog 60 #[.agg #[.int .i64 m.W, .int .i64 m.H, .slice a m.R.length ca, .slice b m.C.length cb], .slice al zs.length cl, .func (.func 69) #[] #[]] w (LPost w (aN m zs) (aB m zs)) := by
  by_cases h : m.ok
  · obtain ⟨ww, hh, g⟩ := good_of h
    cases hrt : rtB m zs with
    | false =>
      have e : aB m zs = false := by unfold aB; rw [hrt]; simp
      rw [a_no e, e]
      exact sum_no m zs (rtB m zs) true hrt a b al ca cb cl w hr hc hz (fun W h1 h2 h3 => RtI.impl_ok m ww hh g zs hl a b al ca cb cl W h1 h2 h3)
    | true =>
      have e : aB m zs = true := by unfold aB; rw [hrt, okB_yes h]; rfl
      have hp := rt_pos hrt
      obtain ⟨n, hn⟩ : ∃ n, zs.length = n + 1 := ⟨zs.length - 1, by omega⟩
      rw [a_yes e hn, e]
      rcases hz with h0 | ⟨b1, off1, rfl, hz1⟩
      · omega
      by_cases h1 : 1 < cl
      · have := sum_yes m ww hh g zs hrt n hn a b ca cb cl b1 off1 hcap h1 w hr hc hz1
        rwa [hn]
      · have e1 : cl = 1 := by omega
        have e2 : n = 0 := by omega
        subst e1 e2
        have := sum_one m ww hh g zs hrt hn a b ca cb b1 off1 w hr hc hz1
        rwa [hn]
  · have e : aB m zs = false := by unfold aB; rw [okB_no h]; rfl
    rw [a_no e, e]
    exact sum_no m zs false false rfl a b al ca cb cl w hr hc hz (fun W h1 h2 h3 => RtI.impl_bad m zs h a b al ca cb cl W hR hC h1 h2)

set_option maxHeartbeats 1000000 in
theorem impl_any (m : Mp) (zs : List Int) (hl : zs.length ≤ 1048576) (a b al : Option Addr) (ca cb cl : Nat) (w : World) (hcap : zs.length ≤ cl) (hR : m.R.length ≤ maxLen) (hC : m.C.length ≤ maxLen) (hr : IRow w a m.R) (hc : IRow w b m.C) (hz : IRow w al zs) :
    Calls Try.prog 29 #[.agg #[.int .i64 m.W, .int .i64 m.H, .slice a m.R.length ca, .slice b m.C.length cb], .slice al zs.length cl] w (LPost w (aN m zs) (aB m zs)) := by
  have HB := Lib.hid ((Below.refl w.heap.size w).alloc (Nat.le_refl _) (.cells #[.int .i64 m.W, .int .i64 m.H, .slice a m.R.length ca, .slice b m.C.length cb] 26))
  have HS := Lib.hid (sum_any m zs hl a b al ca cb cl _ hcap hR hC (RowAt.below hr HB.out) (RowAt.below hc HB.out) (RowAt.below hz HB.out))
  clear hr hc hz
  go_enter Try.func29, Try.ntmps29
  go_wp2_with fail
  refine HS.out.mono ?_
  rintro e w1 ⟨rfl, hb1⟩
  have HB1 := Lib.hid (HB.out.trans (hb1.mono (by simp)))
  clear hb1
  go_wp2_with fail
  go_ret2
  exact ⟨rfl, HB1.out⟩

set_option maxHeartbeats 1000000 in
theorem spec_any (m : Mp) (zs : List Int) (hl : zs.length ≤ 1048576) (a b al : Option Addr) (ca cb cl : Nat) (w : World) (hcap : zs.length ≤ cl) (hR : m.R.length ≤ maxLen) (hC : m.C.length ≤ maxLen) (hr : IRow w a m.R) (hc : IRow w b m.C) (hz : IRow w al zs) :
    Calls Try.prog 30 #[.agg #[.int .i64 m.W, .int .i64 m.H, .slice a m.R.length ca, .slice b m.C.length cb], .slice al zs.length cl] w (LPost w (aN m zs) (aB m zs)) := by
  have HB := Lib.hid ((Below.refl w.heap.size w).alloc (Nat.le_refl _) (.cells #[.int .i64 m.W, .int .i64 m.H, .slice a m.R.length ca, .slice b m.C.length cb] 26))
  have HK := Lib.hid (Blk.new w 26 #[.int .i64 m.W, .int .i64 m.H, .slice a m.R.length ca, .slice b m.C.length cb])
  have HR := Lib.hid hr
  have HC := Lib.hid hc
  have HZ := Lib.hid hz
  by_cases h : m.ok
  · obtain ⟨ww, hh, g⟩ := good_of h
    have HG := Lib.hid g
    have hk := okB_yes h
    obtain ⟨x, hx⟩ : ∃ x, rtB m zs = x := ⟨_, rfl⟩
    have HX := Lib.hid hx
    have HA := Lib.hid (show aB m zs = x from by unfold aB; rw [hk, hx]; rfl)
    have HRt := Lib.hid (route_any m ww hh g zs hl a b al ca cb cl hcap)
    rw [hx] at HRt
    clear hr hc hz g h hx
    go_enter Try.func30, Try.ntmps30
    go_wp2_with fail
    refine (MapV.spec_any m a b ca cb _ hR hC (RowAt.below HR.out HB.out) (RowAt.below HC.out HB.out)).mono ?_
    rw [hk]
    rintro e w1 ⟨rfl, hb1⟩
    have HB1 := Lib.hid (HB.out.trans (hb1.mono (by simp)))
    have HK1 := Lib.hid (HK.out.later hb1)
    obtain ⟨p0, p1, p2, p3, -⟩ := HK1.out.four
    clear hb1 hk HB HK
    go_wp2_with fail
    refine (HRt.out _ (RowAt.below HC.out HB1.out) (RowAt.below HZ.out HB1.out)).mono ?_
    rintro e w2 ⟨rfl, hb2⟩
    have HB2 := Lib.hid (HB1.out.trans (hb2.mono HB1.out.size))
    have HK2 := Lib.hid (HK1.out.later hb2)
    clear hb2 HB1 HK1 p0 p1 p2 p3
    obtain ⟨p0, p1, p2, p3, -⟩ := HK2.out.four
    cases x with
    | false =>
      go_wp2_with fail
      go_ret2
      exact ⟨lret (a_no HA.out) HA.out, HB2.out⟩
    | true =>
      have hp := rt_pos HX.out
      obtain ⟨n, hn⟩ : ∃ n, zs.length = n + 1 := ⟨zs.length - 1, by omega⟩
      have HN := Lib.hid (a_yes HA.out hn)
      rcases RowAt.below HZ.out HB2.out with h0 | ⟨b1, off1, rfl, hz1⟩
      · omega
      have HT := Lib.hid (CliS.climb_any m ww hh HG.out zs HX.out n hn a b ca cb cl b1 off1 w2 (RowAt.below HR.out HB2.out) (RowAt.below HC.out HB2.out) hz1)
      rw [← hn] at HT
      clear hz1 hn
      go_wp2_with fail
      refine HT.out.mono ?_
      rintro e w3 ⟨rfl, hb3⟩
      have HB3 := Lib.hid (HB2.out.trans (hb3.mono HB2.out.size))
      clear hb3
      go_wp2_with fail
      go_ret2
      exact ⟨lret HN.out HA.out, HB3.out⟩
  · have hk := okB_no h
    have HA := Lib.hid (show aB m zs = false from by unfold aB; rw [hk]; rfl)
    clear hr hc hz h
    go_enter Try.func30, Try.ntmps30
    go_wp2_with fail
    refine (MapV.spec_any m a b ca cb _ hR hC (RowAt.below HR.out HB.out) (RowAt.below HC.out HB.out)).mono ?_
    rw [hk]
    rintro e w1 ⟨rfl, hb1⟩
    have HB1 := Lib.hid (HB.out.trans (hb1.mono (by simp)))
    clear hb1
    go_wp2_with fail
    go_ret2
    exact ⟨lret (a_no HA.out) HA.out, HB1.out⟩

theorem both_v (m : Mp) (zs : List Int) (hl : zs.length ≤ 1048576) : ∃ (n : Int) (ok : Bool),
    (∀ a b al ca cb cl w, zs.length ≤ cl → m.R.length ≤ maxLen → m.C.length ≤ maxLen → IRow w a m.R → IRow w b m.C → IRow w al zs → Calls Try.prog 30 #[.agg #[.int .i64 m.W, .int .i64 m.H, .slice a m.R.length ca, .slice b m.C.length cb], .slice al zs.length cl] w (LPost w n ok)) ∧
    (∀ a b al ca cb cl w, zs.length ≤ cl → m.R.length ≤ maxLen → m.C.length ≤ maxLen → IRow w a m.R → IRow w b m.C → IRow w al zs → Calls Try.prog 29 #[.agg #[.int .i64 m.W, .int .i64 m.H, .slice a m.R.length ca, .slice b m.C.length cb], .slice al zs.length cl] w (LPost w n ok)) :=
  ⟨aN m zs, aB m zs, fun a b al ca cb cl w hcap hR hC hr hc hz => spec_any m zs hl a b al ca cb cl w hcap hR hC hr hc hz, fun a b al ca cb cl w hcap hR hC hr hc hz => impl_any m zs hl a b al ca cb cl w hcap hR hC hr hc hz⟩
end Go.Proofs.Ytbcoacbablaagaa.TibC
