/- RouteTime: both texts. -/
import Derived.Test.YtdfmfmndmldggaaTimS
namespace Go.Proofs.Ytdfmfmndmldggaa.TibT
open Go.RowKit Lb IntS MapS MapV High Cells StepT StpF SpecB OpnI RtI RtS LtI SumT
set_option linter.unusedSimpArgs false
set_option linter.unusedVariables false

/-- The answer. -/
def aB (m : Mp) (zs : List Int) : Bool := okB m && rtB m zs
def aN (m : Mp) (zs : List Int) : Int := if aB m zs then sm (stp m) zs (zs.length - 1) else 0
theorem a_no {m : Mp} {zs : List Int} (h : aB m zs = false) : aN m zs = 0 := by unfold aN; rw [h]; rfl
theorem a_yes {m : Mp} {zs : List Int} {n : Nat} (h : aB m zs = true) (hn : zs.length = n + 1) : aN m zs = sm (stp m) zs n := by
  unfold aN
  rw [h, hn]
  rfl

theorem sum_any (m : Mp) (zs : List Int) (hl : zs.length ≤ 1048576) (a b al : Option Addr) (ca cb cl : Nat) (w : World) (hcap : zs.length ≤ cl) (hR : m.R.length ≤ maxLen) (hC : m.C.length ≤ maxLen) (hr : IRow w a m.R) (hc : IRow w b m.C) (hz : IRow w al zs) :
    Calls Try.prog 83 #[.agg #[.int .i64 m.W, .int .i64 m.H, .slice a m.R.length ca, .slice b m.C.length cb], .slice al zs.length cl, .func (.func 84) #[] #[]] w (LPost w (aN m zs) (aB m zs)) := by
  by_cases h : m.ok
  · obtain ⟨ww, hh, g⟩ := good_of h
    cases hrt : rtB m zs with
    | false =>
      have e : aB m zs = false := by unfold aB; rw [hrt]; simp
      rw [a_no e, e]
      exact sum_no m zs (rtB m zs) true hrt a b al ca cb cl w hr hc hz (fun W h1 h2 h3 => RtI.impl_ok m ww hh g zs hl a b al ca cb cl W h1 h2 h3)
    | true =>
      have e : aB m zs = true := by unfold aB; rw [hrt, okB_yes h]; rfl
      have hp := rt_pos hrt
      obtain ⟨n, hn⟩ : ∃ n, zs.length = n + 1 := ⟨zs.length - 1, by omega⟩
      rw [a_yes e hn, e]
      rcases hz with h0 | ⟨b1, off1, rfl, hz1⟩
      · omega
      by_cases h1 : 1 < cl
      · have := sum_yes m ww hh g zs hrt n hn a b ca cb cl b1 off1 hcap h1 w hr hc hz1
        rwa [hn]
      · have e1 : cl = 1 := by omega
        have e2 : n = 0 := by omega
        subst e1 e2
        have := sum_one m ww hh g zs hrt hn a b ca cb b1 off1 w hr hc hz1
        rwa [hn]
  · have e : aB m zs = false := by unfold aB; rw [okB_no h]; rfl
    rw [a_no e, e]
    exact sum_no m zs false false rfl a b al ca cb cl w hr hc hz (fun W h1 h2 h3 => RtI.impl_bad m zs h a b al ca cb cl W hR hC h1 h2)

set_option maxHeartbeats 1000000 in
theorem impl_any (m : Mp) (zs : List Int) (hl : zs.length ≤ 1048576) (a b al : Option Addr) (ca cb cl : Nat) (w : World) (hcap : zs.length ≤ cl) (hR : m.R.length ≤ maxLen) (hC : m.C.length ≤ maxLen) (hr : IRow w a m.R) (hc : IRow w b m.C) (hz : IRow w al zs) :
    Calls Try.prog 54 #[.agg #[.int .i64 m.W, .int .i64 m.H, .slice a m.R.length ca, .slice b m.C.length cb], .slice al zs.length cl] w (LPost w (aN m zs) (aB m zs)) := by
  have HB := Lib.hid ((Below.refl w.heap.size w).alloc (Nat.le_refl _) (.cells #[.int .i64 m.W, .int .i64 m.H, .slice a m.R.length ca, .slice b m.C.length cb] 26))
  have HS := Lib.hid (sum_any m zs hl a b al ca cb cl _ hcap hR hC (RowAt.below hr HB.out) (RowAt.below hc HB.out) (RowAt.below hz HB.out))
  clear hr hc hz
  go_enter Try.func54, Try.ntmps54
  go_wp2_with fail
  refine HS.out.mono ?_
  rintro e w1 ⟨rfl, hb1⟩
  have HB1 := Lib.hid (HB.out.trans (hb1.mono (by simp)))
  clear hb1
  go_wp2_with fail
  go_ret2
  exact ⟨rfl, HB1.out⟩

end Go.Proofs.Ytdfmfmndmldggaa.TibT
