/- 'FnRoutes': the statement's frame: the walk is in RouW.law_any; here the given row is met by it. -/
import Derived.Test.YtnenaponiahalaaCrI
import Derived.Test.YtnenaponiahalaaDtB
import Derived.Test.YtnenaponiahalaaWinI
import Derived.Test.YtnenaponiahalaaFarI
import Derived.Test.YtnenaponiahalaaSumT
import Derived.Test.YtnenaponiahalaaSumC
import Derived.Test.YtnenaponiahalaaBstS
import Derived.Test.YtnenaponiahalaaOpnD
import Derived.Test.YtnenaponiahalaaRouD
import Derived.Test.YtnenaponiahalaaDSt
import Derived.Deep.RegionHeld3
import Derived.Deep.MidRow
import Derived.Test.YtnenaponiahalaaSpecB
import Derived.Test.YtnenaponiahalaaHighF
import Derived.RegionTactic
import Derived.Test.YtnenaponiahalaaRows
import Derived.WalkKit
import Derived.ProofKit
import Derived.OpenShut
import Derived.ShutString
import Derived.ChangeOld
import Derived.Below
import Derived.Test.YtnenaponiahalaaCodM
namespace Go.Proofs.Ytnenaponiahalaa.DetM
open Go.RowKit Lb IntS MapS MapV High Cells StepT StpF SpecB DjkB OpnI TmsI LtI FarI WinI CrI
set_option linter.unusedSimpArgs false
set_option linter.unusedVariables false

theorem lt_parts {m : Mp} {T : Nat → Nat → Int} {p q : Int} (h : ltB m T p q = true) : m.ok ∧ opB m p = true ∧ opB m q = true ∧ 0 ≤ T q.toNat p.toNat := by
  unfold ltB at h
  rw [Bool.and_eq_true, decide_eq_true_iff] at h
  obtain ⟨h1, h2, h3⟩ := askB_of h.1
  exact ⟨h1, h2, h3, h.2⟩

theorem dt_nn {m : Mp} {T : Nat → Nat → Int} (hT : TT m T) (p r q : Int) : 0 ≤ dtN m T p r q := by
  cases h : dtB m T p r q with
  | false => rw [dt_false h]; exact Int.le_refl _
  | true =>
    have h' := h
    unfold dtB at h
    rw [Bool.and_eq_true, Bool.and_eq_true] at h
    obtain ⟨h1, h2, h3⟩ := h
    obtain ⟨ok, o1, o2, t1⟩ := lt_parts h1
    obtain ⟨_, _, o3, t2⟩ := lt_parts h2
    obtain ⟨ww, hh, g⟩ := good_of ok
    obtain ⟨i, rfl, hi⟩ := opB_of g o1
    obtain ⟨j, rfl, hj⟩ := opB_of g o2
    obtain ⟨k, rfl, hk⟩ := opB_of g o3
    rw [Int.toNat_natCast, Int.toNat_natCast] at t1 t2
    rw [(dt_yes g hT hi hj hk t1 t2).2]
    have := (tt_trans g hT hj hk t1 t2).2
    omega

theorem crossed {m : Mp} {T : Nat → Nat → Int} {p r q : Int} (h : dtB m T p r q = true) : crK m T p q r = true ∧ crB m T p q r = (dtN m T p r q == 0) := by
  have h' := h
  unfold dtB at h'
  rw [Bool.and_eq_true, Bool.and_eq_true] at h'
  obtain ⟨h1, h2, h3⟩ := h'
  have hk : crK m T p q r = true := by
    unfold crK
    rw [h3, (lt_parts h2).2.1]
    rfl
  refine ⟨hk, ?_⟩
  unfold crB
  rw [hk, h]
  rfl

theorem mem_ints {l : List Nat} {z : Int} : z ∈ ints l ↔ ∃ c : Nat, c ∈ l ∧ z = (c : Int) := by
  unfold ints
  rw [List.mem_map]
  exact ⟨fun ⟨c, h, e⟩ => ⟨c, h, e.symm⟩, fun ⟨c, h, e⟩ => ⟨c, h, e.symm⟩⟩

/-- The cells within a time. -/
theorem within_more {F : Nat → Int} {t : Int} {n : Nat} : ∀ z, z ∈ ints (wl F t n) → z ∈ ints (wl F (t + 1) n) := by
  intro z hz
  obtain ⟨c, h, e⟩ := mem_ints.1 hz
  obtain ⟨h1, h2, h3⟩ := mem_wl.1 h
  exact mem_ints.2 ⟨c, mem_wl.2 ⟨h1, h2, by omega⟩, e⟩
theorem within_start {F : Nat → Int} {t : Int} {n i : Nat} (hi : i < n) (h0 : F i = 0) (ht : 0 ≤ t) : ((i : Nat) : Int) ∈ ints (wl F t n) :=
  mem_ints.2 ⟨i, mem_wl.2 ⟨hi, by omega, by omega⟩, rfl⟩
theorem within_far {F : Nat → Int} {t : Int} {n i : Nat} (hi : i < n) (h0 : F i = 0) : decide ((((farK F n).1 : Nat) : Int) ∈ ints (wl F t n)) = decide ((farK F n).2 ≤ t) := by
  have hm := far_max (F := F) hi
  have hf := far_at (F := F) (k := n) (by omega)
  apply decide_eq_decide.2
  constructor
  · intro h
    obtain ⟨c, hc, e⟩ := mem_ints.1 h
    have := mem_wl.1 hc
    have e' : (farK F n).1 = c := by omega
    rw [e'] at hf
    omega
  · intro h
    exact mem_ints.2 ⟨_, mem_wl.2 ⟨hf.1, by omega, by omega⟩, rfl⟩

end Go.Proofs.Ytnenaponiahalaa.DetM

namespace Go.Proofs.Ytnenaponiahalaa.TimS
open Go.RowKit Lb IntS MapS MapV High Cells StepT StpF SpecB OpnI RtI RtS LtI SumT
set_option linter.unusedSimpArgs false
set_option linter.unusedVariables false

set_option maxRecDepth 20000 in
set_option maxHeartbeats 4000000 in
theorem time_any (m : Mp) (ww hh : Nat) (g : GoodM m ww hh) (zs : List Int) (hrt : rtB m zs = true) (n : Nat) (hn : zs.length = n + 1) (a b : Option Addr) (ca cb cl b1 off1 : Nat) (w : World) (hr : IRow w a m.R) (hc : IRow w b m.C) (hz : ∀ j, j < zs.length → w.cell? ⟨b1, off1 + j, none⟩ = some (.int .i64 (zAt zs j))) :
    Calls Try.prog 90 #[.agg #[.int .i64 m.W, .int .i64 m.H, .slice a m.R.length ca, .slice b m.C.length cb], .slice (some ⟨b1, off1, none⟩) (n + 1) cl] w fun e w' => e = .returned (.int .i64 (sm (stp m) zs n)) ∧ Below w.heap.size w w' := by
  have n36 := g.n36
  have hle := rt_le g hrt
  have HB := Lib.hid ((Below.refl w.heap.size w).alloc (Nat.le_refl _) (.cells #[.int .i64 m.W, .int .i64 m.H, .slice a m.R.length ca, .slice b m.C.length cb] 26))
  have HK := Lib.hid (Blk.new w 26 #[.int .i64 m.W, .int .i64 m.H, .slice a m.R.length ca, .slice b m.C.length cb])
  have HG := Lib.hid g
  have HRt := Lib.hid hrt
  have HR := Lib.hid hr
  have HC := Lib.hid hc
  have HZ := Lib.hid hz
  have HN := Lib.hid hn
  have hn35 : n ≤ 35 := by omega
  clear g hrt hr hc hz hn hle
  go_enter Try.func90, Try.ntmps90
  go_wp2_with fail
  go_loopg [6, 5] n (fun q i v wr => ∃ k : Nat, k ≤ n ∧ q = n - k ∧ i = .int .i64 ((k : Int) + 1) ∧ v = .int .i64 (sm (stp m) zs k) ∧ Below w.heap.size w wr ∧ Blk wr w.heap.size 26 #[.int .i64 m.W, .int .i64 m.H, .slice a m.R.length ca, .slice b m.C.length cb])
  case atStart => exact ⟨0, Nat.zero_le _, rfl, rfl, rfl, HB.out, HK.out⟩
  case round =>
    clear HB HK
    obtain ⟨k, hk, hq, rfl, rfl, hb, hkb⟩ := hrel
    have HB := Lib.hid hb
    have HK := Lib.hid hkb
    have hsm := sm_bd HG.out HRt.out (f := stp m) (fun c d h1 h2 => stp_bd0 HG.out h1 h2) k (by rw [HN.out]; omega)
    clear hb hkb
    by_cases hlt : k < n
    · obtain ⟨c, hc, hco⟩ := rt_cell HG.out HRt.out (i := k) (by rw [HN.out]; omega)
      obtain ⟨d, hd, hdo⟩ := rt_cell HG.out HRt.out (i := k + 1) (by rw [HN.out]; omega)
      have hcd := rt_next HG.out HRt.out (i := k) (by rw [HN.out]; omega) hc hd
      have hcl0 : c < ww * hh := hco.1
      have hdl0 : d < ww * hh := hdo.1
      obtain ⟨f1, f2⟩ := stp_bd0 HG.out hco hcd
      obtain ⟨s, hs⟩ : ∃ s, sm (stp m) zs k = s := ⟨_, rfl⟩
      obtain ⟨t, ht⟩ : ∃ t, stp m c d = t := ⟨_, rfl⟩
      have HSm := Lib.hid (show sm (stp m) zs (k + 1) = s + t from by rw [sm, hc, hd, Int.toNat_natCast, Int.toNat_natCast, hs, ht])
      rw [hs] at hsm ⊢
      rw [ht] at f1 f2
      obtain ⟨s1, s2⟩ := hsm
      have hwr : IntKind.i64.wrap (s + t) = s + t := IntWalk.i64_in _ (by omega)
      have g1 : wr.cell? ⟨b1, off1 + k, none⟩ = some (.int .i64 (c : Nat)) := by
        have h0 := HZ.out k (by rw [HN.out]; omega)
        rw [hc] at h0
        exact (HB.out.cell (World.block_lt_of_cell? _ _ h0)).trans h0
      have g2 : wr.cell? ⟨b1, off1 + (k + 1), none⟩ = some (.int .i64 (d : Nat)) := by
        have h0 := HZ.out (k + 1) (by rw [HN.out]; omega)
        rw [hd] at h0
        exact (HB.out.cell (World.block_lt_of_cell? _ _ h0)).trans h0
      have HS := Lib.hid (show Sq w #[.int .i64 m.W, .int .i64 m.H, .slice a m.R.length ca, .slice b m.C.length cb] b1 (off1 + k) (off1 + (k + 1)) (c : Nat) (d : Nat) wr.drew from Sq.later (W := wr) ⟨HB.out, HK.out, g1, g2⟩ (Below.refl _ _).drew)
      have HSt := Lib.hid (fun W (H : Below w.heap.size w W) => spec_step m ww hh HG.out a b ca cb c d W (RowAt.below HR.out H) (RowAt.below HC.out H) hcl0 hdl0)
      rw [ht] at HSt
      have hk0 : (0 : Int) ≤ (k : Int) := by omega
      have hk1 : (k : Int) < (n : Int) + 1 := by omega
      have hk2 : (k : Int) < (n : Int) := by omega
      have hk3 : (0 : Int) ≤ (k : Int) + 1 := by omega
      have hk4 : (k : Int) + 1 < (n : Int) + 1 := by omega
      have hwk : IntKind.i64.wrap (k : Int) = (k : Int) := IntWalk.i64_in _ (by omega)
      have hwk2 : IntKind.i64.wrap ((k : Int) + 1 - 1) = (k : Int) := by rw [Int.add_sub_cancel]; exact hwk
      clear hc hd hco hdo hcd hs ht g1 g2
      go_upto_region 5 with (fail)
      go_region_held3 (fun W : World => W.cell? ⟨b1, off1 + k, none⟩ = some (.int .i64 (c : Nat)) ∧ W.cell? ⟨b1, off1 + (k + 1), none⟩ = some (.int .i64 (d : Nat)) ∧ W.cell? ⟨w.heap.size, 0, none⟩ = some (.int .i64 m.W) ∧ W.cell? ⟨w.heap.size, 1, none⟩ = some (.int .i64 m.H) ∧ W.cell? ⟨w.heap.size, 2, none⟩ = some (.slice a m.R.length ca) ∧ W.cell? ⟨w.heap.size, 3, none⟩ = some (.slice b m.C.length cb)) (first | with_reducible exact HS.out.keep) (first
        | (go_at_call 133; refine (HSt.out _ HS.out.b).mono ?_; rintro e w5 ⟨rfl, hb5⟩; have HS5 := Lib.hid (HS.out.later hb5); clear hb5; have HS := HS5))
      go_wp2_with fail
      go_roundg (n - (k + 1))
      case measure => omega
      case rel => exact ⟨k + 1, by omega, rfl, by go_num, by rw [HSm.out], HS.out.b, HS.out.box⟩
    · obtain rfl : k = n := by omega
      go_wp2_with fail
      go_ret
      exact ⟨rfl, HB.out⟩
end Go.Proofs.Ytnenaponiahalaa.TimS

namespace Go.Proofs.Ytnenaponiahalaa.TibT
open Go.RowKit Lb IntS MapS MapV High Cells StepT StpF SpecB OpnI RtI RtS LtI SumT
set_option linter.unusedSimpArgs false
set_option linter.unusedVariables false

/-- The answer. -/
def aB (m : Mp) (zs : List Int) : Bool := okB m && rtB m zs
def aN (m : Mp) (zs : List Int) : Int := if aB m zs then sm (stp m) zs (zs.length - 1) else 0
theorem a_no {m : Mp} {zs : List Int} (h : aB m zs = false) : aN m zs = 0 := by unfold aN; rw [h]; rfl
theorem a_yes {m : Mp} {zs : List Int} {n : Nat} (h : aB m zs = true) (hn : zs.length = n + 1) : aN m zs = sm (stp m) zs n := by
  unfold aN
  rw [h, hn]
  rfl

theorem sum_any (m : Mp) (zs : List Int) (hl : zs.length ≤ 1048576) (a b al : Option Addr) (ca cb cl : Nat) (w : World) (hcap : zs.length ≤ cl) (hR : m.R.length ≤ maxLen) (hC : m.C.length ≤ maxLen) (hr : IRow w a m.R) (hc : IRow w b m.C) (hz : IRow w al zs) :
    Calls Try.prog 83 #[.agg #[.int .i64 m.W, .int .i64 m.H, .slice a m.R.length ca, .slice b m.C.length cb], .slice al zs.length cl, .func (.func 78) #[] #[]] w (LPost w (aN m zs) (aB m zs)) := by
  by_cases h : m.ok
  · obtain ⟨ww, hh, g⟩ := good_of h
    cases hrt : rtB m zs with
    | false =>
      have e : aB m zs = false := by unfold aB; rw [hrt]; simp
      rw [a_no e, e]
      exact sum_no m zs (rtB m zs) true hrt a b al ca cb cl w hr hc hz (fun W h1 h2 h3 => RtI.impl_ok m ww hh g zs hl a b al ca cb cl W h1 h2 h3)
    | true =>
      have e : aB m zs = true := by unfold aB; rw [hrt, okB_yes h]; rfl
      have hp := rt_pos hrt
      obtain ⟨n, hn⟩ : ∃ n, zs.length = n + 1 := ⟨zs.length - 1, by omega⟩
      rw [a_yes e hn, e]
      rcases hz with h0 | ⟨b1, off1, rfl, hz1⟩
      · omega
      by_cases h1 : 1 < cl
      · have := sum_yes m ww hh g zs hrt n hn a b ca cb cl b1 off1 hcap h1 w hr hc hz1
        rwa [hn]
      · have e1 : cl = 1 := by omega
        have e2 : n = 0 := by omega
        subst e1 e2
        have := sum_one m ww hh g zs hrt hn a b ca cb b1 off1 w hr hc hz1
        rwa [hn]
  · have e : aB m zs = false := by unfold aB; rw [okB_no h]; rfl
    rw [a_no e, e]
    exact sum_no m zs false false rfl a b al ca cb cl w hr hc hz (fun W h1 h2 h3 => RtI.impl_bad m zs h a b al ca cb cl W hR hC h1 h2)

set_option maxHeartbeats 1000000 in
theorem impl_any (m : Mp) (zs : List Int) (hl : zs.length ≤ 1048576) (a b al : Option Addr) (ca cb cl : Nat) (w : World) (hcap : zs.length ≤ cl) (hR : m.R.length ≤ maxLen) (hC : m.C.length ≤ maxLen) (hr : IRow w a m.R) (hc : IRow w b m.C) (hz : IRow w al zs) :
    Calls Try.prog 21 #[.agg #[.int .i64 m.W, .int .i64 m.H, .slice a m.R.length ca, .slice b m.C.length cb], .slice al zs.length cl] w (LPost w (aN m zs) (aB m zs)) := by
  have HB := Lib.hid ((Below.refl w.heap.size w).alloc (Nat.le_refl _) (.cells #[.int .i64 m.W, .int .i64 m.H, .slice a m.R.length ca, .slice b m.C.length cb] 26))
  have HS := Lib.hid (sum_any m zs hl a b al ca cb cl _ hcap hR hC (RowAt.below hr HB.out) (RowAt.below hc HB.out) (RowAt.below hz HB.out))
  clear hr hc hz
  go_enter Try.func21, Try.ntmps21
  go_wp2_with fail
  refine HS.out.mono ?_
  rintro e w1 ⟨rfl, hb1⟩
  have HB1 := Lib.hid (HB.out.trans (hb1.mono (by simp)))
  clear hb1
  go_wp2_with fail
  go_ret2
  exact ⟨rfl, HB1.out⟩

set_option maxHeartbeats 1000000 in
theorem spec_any (m : Mp) (zs : List Int) (hl : zs.length ≤ 1048576) (a b al : Option Addr) (ca cb cl : Nat) (w : World) (hcap : zs.length ≤ cl) (hR : m.R.length ≤ maxLen) (hC : m.C.length ≤ maxLen) (hr : IRow w a m.R) (hc : IRow w b m.C) (hz : IRow w al zs) :
    Calls Try.prog 25 #[.agg #[.int .i64 m.W, .int .i64 m.H, .slice a m.R.length ca, .slice b m.C.length cb], .slice al zs.length cl] w (LPost w (aN m zs) (aB m zs)) := by
  have HB := Lib.hid ((Below.refl w.heap.size w).alloc (Nat.le_refl _) (.cells #[.int .i64 m.W, .int .i64 m.H, .slice a m.R.length ca, .slice b m.C.length cb] 26))
  have HK := Lib.hid (Blk.new w 26 #[.int .i64 m.W, .int .i64 m.H, .slice a m.R.length ca, .slice b m.C.length cb])
  have HR := Lib.hid hr
  have HC := Lib.hid hc
  have HZ := Lib.hid hz
  by_cases h : m.ok
  · obtain ⟨ww, hh, g⟩ := good_of h
    have HG := Lib.hid g
    have hk := okB_yes h
    obtain ⟨x, hx⟩ : ∃ x, rtB m zs = x := ⟨_, rfl⟩
    have HX := Lib.hid hx
    have HA := Lib.hid (show aB m zs = x from by unfold aB; rw [hk, hx]; rfl)
    have HRt := Lib.hid (route_any m ww hh g zs hl a b al ca cb cl hcap)
    rw [hx] at HRt
    clear hr hc hz g h hx
    go_enter Try.func25, Try.ntmps25
    go_wp2_with fail
    refine (MapV.spec_any m a b ca cb _ hR hC (RowAt.below HR.out HB.out) (RowAt.below HC.out HB.out)).mono ?_
    rw [hk]
    rintro e w1 ⟨rfl, hb1⟩
    have HB1 := Lib.hid (HB.out.trans (hb1.mono (by simp)))
    have HK1 := Lib.hid (HK.out.later hb1)
    obtain ⟨p0, p1, p2, p3, -⟩ := HK1.out.four
    clear hb1 hk HB HK
    go_wp2_with fail
    refine (HRt.out _ (RowAt.below HC.out HB1.out) (RowAt.below HZ.out HB1.out)).mono ?_
    rintro e w2 ⟨rfl, hb2⟩
    have HB2 := Lib.hid (HB1.out.trans (hb2.mono HB1.out.size))
    have HK2 := Lib.hid (HK1.out.later hb2)
    clear hb2 HB1 HK1 p0 p1 p2 p3
    obtain ⟨p0, p1, p2, p3, -⟩ := HK2.out.four
    cases x with
    | false =>
      go_wp2_with fail
      go_ret2
      exact ⟨lret (a_no HA.out) HA.out, HB2.out⟩
    | true =>
      have hp := rt_pos HX.out
      obtain ⟨n, hn⟩ : ∃ n, zs.length = n + 1 := ⟨zs.length - 1, by omega⟩
      have HN := Lib.hid (a_yes HA.out hn)
      rcases RowAt.below HZ.out HB2.out with h0 | ⟨b1, off1, rfl, hz1⟩
      · omega
      have HT := Lib.hid (TimS.time_any m ww hh HG.out zs HX.out n hn a b ca cb cl b1 off1 w2 (RowAt.below HR.out HB2.out) (RowAt.below HC.out HB2.out) hz1)
      rw [← hn] at HT
      clear hz1 hn
      go_wp2_with fail
      refine HT.out.mono ?_
      rintro e w3 ⟨rfl, hb3⟩
      have HB3 := Lib.hid (HB2.out.trans (hb3.mono HB2.out.size))
      clear hb3
      go_wp2_with fail
      go_ret2
      exact ⟨lret HN.out HA.out, HB3.out⟩
  · have hk := okB_no h
    have HA := Lib.hid (show aB m zs = false from by unfold aB; rw [hk]; rfl)
    clear hr hc hz h
    go_enter Try.func25, Try.ntmps25
    go_wp2_with fail
    refine (MapV.spec_any m a b ca cb _ hR hC (RowAt.below HR.out HB.out) (RowAt.below HC.out HB.out)).mono ?_
    rw [hk]
    rintro e w1 ⟨rfl, hb1⟩
    have HB1 := Lib.hid (HB.out.trans (hb1.mono (by simp)))
    clear hb1
    go_wp2_with fail
    go_ret2
    exact ⟨lret (a_no HA.out) HA.out, HB1.out⟩

theorem both_v (m : Mp) (zs : List Int) (hl : zs.length ≤ 1048576) : ∃ (n : Int) (ok : Bool),
    (∀ a b al ca cb cl w, zs.length ≤ cl → m.R.length ≤ maxLen → m.C.length ≤ maxLen → IRow w a m.R → IRow w b m.C → IRow w al zs → Calls Try.prog 25 #[.agg #[.int .i64 m.W, .int .i64 m.H, .slice a m.R.length ca, .slice b m.C.length cb], .slice al zs.length cl] w (LPost w n ok)) ∧
    (∀ a b al ca cb cl w, zs.length ≤ cl → m.R.length ≤ maxLen → m.C.length ≤ maxLen → IRow w a m.R → IRow w b m.C → IRow w al zs → Calls Try.prog 21 #[.agg #[.int .i64 m.W, .int .i64 m.H, .slice a m.R.length ca, .slice b m.C.length cb], .slice al zs.length cl] w (LPost w n ok)) :=
  ⟨aN m zs, aB m zs, fun a b al ca cb cl w hcap hR hC hr hc hz => spec_any m zs hl a b al ca cb cl w hcap hR hC hr hc hz, fun a b al ca cb cl w hcap hR hC hr hc hz => impl_any m zs hl a b al ca cb cl w hcap hR hC hr hc hz⟩
end Go.Proofs.Ytnenaponiahalaa.TibT

namespace Go.Proofs.Ytnenaponiahalaa.CliS
open Go.RowKit Lb IntS MapS MapV High Cells StpF SpecB OpnI RtI RtS LtI
open Go.Proofs.Ytnenaponiahalaa.StepT (mostOf mostOf_eq most_any)
set_option linter.unusedSimpArgs false
set_option linter.unusedVariables false

set_option maxRecDepth 20000 in
set_option maxHeartbeats 4000000 in
theorem climb_any (m : Mp) (ww hh : Nat) (g : GoodM m ww hh) (zs : List Int) (hrt : rtB m zs = true) (n : Nat) (hn : zs.length = n + 1) (a b : Option Addr) (ca cb cl b1 off1 : Nat) (w : World) (hr : IRow w a m.R) (hc : IRow w b m.C) (hz : ∀ j, j < zs.length → w.cell? ⟨b1, off1 + j, none⟩ = some (.int .i64 (zAt zs j))) :
    Calls Try.prog 94 #[.agg #[.int .i64 m.W, .int .i64 m.H, .slice a m.R.length ca, .slice b m.C.length cb], .slice (some ⟨b1, off1, none⟩) (n + 1) cl] w fun e w' => e = .returned (.int .i64 (sm (clb m) zs n)) ∧ Below w.heap.size w w' := by
  have n36 := g.n36
  have hle := rt_le g hrt
  have HB := Lib.hid ((Below.refl w.heap.size w).alloc (Nat.le_refl _) (.cells #[.int .i64 m.W, .int .i64 m.H, .slice a m.R.length ca, .slice b m.C.length cb] 26))
  have HK := Lib.hid (Blk.new w 26 #[.int .i64 m.W, .int .i64 m.H, .slice a m.R.length ca, .slice b m.C.length cb])
  have HG := Lib.hid g
  have HRt := Lib.hid hrt
  have HR := Lib.hid hr
  have HC := Lib.hid hc
  have HZ := Lib.hid hz
  have HN := Lib.hid hn
  have hn35 : n ≤ 35 := by omega
  clear g hrt hr hc hz hn hle
  go_enter Try.func94, Try.ntmps94
  go_wp2_with fail
  go_loopg [6, 5] n (fun q i v wr => ∃ k : Nat, k ≤ n ∧ q = n - k ∧ i = .int .i64 ((k : Int) + 1) ∧ v = .int .i64 (sm (clb m) zs k) ∧ Below w.heap.size w wr ∧ Blk wr w.heap.size 26 #[.int .i64 m.W, .int .i64 m.H, .slice a m.R.length ca, .slice b m.C.length cb])
  case atStart => exact ⟨0, Nat.zero_le _, rfl, rfl, rfl, HB.out, HK.out⟩
  case round =>
    clear HB HK
    obtain ⟨k, hk, hq, rfl, rfl, hb, hkb⟩ := hrel
    have HB := Lib.hid hb
    have HK := Lib.hid hkb
    have hsm := sm_bd HG.out HRt.out (f := clb m) (fun c d h1 h2 => clb_bd HG.out h1 h2) k (by rw [HN.out]; omega)
    clear hb hkb
    by_cases hlt : k < n
    · obtain ⟨c, hc, hco⟩ := rt_cell HG.out HRt.out (i := k) (by rw [HN.out]; omega)
      obtain ⟨d, hd, hdo⟩ := rt_cell HG.out HRt.out (i := k + 1) (by rw [HN.out]; omega)
      have hcd := rt_next HG.out HRt.out (i := k) (by rw [HN.out]; omega) hc hd
      have hcl0 : c < ww * hh := hco.1
      have hdl0 : d < ww * hh := hdo.1
      obtain ⟨f1, f2⟩ := clb_bd HG.out hco hcd
      obtain ⟨s, hs⟩ : ∃ s, sm (clb m) zs k = s := ⟨_, rfl⟩
      obtain ⟨t, ht⟩ : ∃ t, clb m c d = t := ⟨_, rfl⟩
      have HSm := Lib.hid (show sm (clb m) zs (k + 1) = s + t from by rw [sm, hc, hd, Int.toNat_natCast, Int.toNat_natCast, hs, ht])
      rw [hs] at hsm ⊢
      rw [ht] at f1 f2
      obtain ⟨s1, s2⟩ := hsm
      have hwr : IntKind.i64.wrap (s + t) = s + t := IntWalk.i64_in _ (by omega)
      have g1 : wr.cell? ⟨b1, off1 + k, none⟩ = some (.int .i64 (c : Nat)) := by
        have h0 := HZ.out k (by rw [HN.out]; omega)
        rw [hc] at h0
        exact (HB.out.cell (World.block_lt_of_cell? _ _ h0)).trans h0
      have g2 : wr.cell? ⟨b1, off1 + (k + 1), none⟩ = some (.int .i64 (d : Nat)) := by
        have h0 := HZ.out (k + 1) (by rw [HN.out]; omega)
        rw [hd] at h0
        exact (HB.out.cell (World.block_lt_of_cell? _ _ h0)).trans h0
      have HS := Lib.hid (show Sq w #[.int .i64 m.W, .int .i64 m.H, .slice a m.R.length ca, .slice b m.C.length cb] b1 (off1 + k) (off1 + (k + 1)) (c : Nat) (d : Nat) wr.drew from Sq.later (W := wr) ⟨HB.out, HK.out, g1, g2⟩ (Below.refl _ _).drew)
      have hcR : c < m.R.length := by rw [HG.out.R]; exact hcl0
      have hdR : d < m.R.length := by rw [HG.out.R]; exact hdl0
      rcases RowAt.below HR.out HB.out with h0 | ⟨b2, off2, rfl, hr2⟩
      · omega
      have r1 := hr2 c hcR
      have r2 := hr2 d hdR
      obtain ⟨c1, c2, -, -⟩ := HG.out.cell c hcl0
      obtain ⟨d1, d2, -, -⟩ := HG.out.cell d hdl0
      obtain ⟨u, hu⟩ : ∃ u, zAt m.R c = u := ⟨_, rfl⟩
      obtain ⟨v, hv⟩ : ∃ v, zAt m.R d = v := ⟨_, rfl⟩
      have r1' : wr.cell? ⟨b2, off2 + c, none⟩ = some (.int .i64 u) := by rw [r1]; show some (Value.int .i64 (zAt m.R c)) = _; rw [hu]
      have r2' : wr.cell? ⟨b2, off2 + d, none⟩ = some (.int .i64 v) := by rw [r2]; show some (Value.int .i64 (zAt m.R d)) = _; rw [hv]
      have hmo : mostOf 0 (v - u) = t := by
        rw [← ht]
        unfold clb
        rw [hu, hv]
        have := mostOf_eq 0 (v - u)
        omega
      have HMo := Lib.hid (fun W => most_any 0 (v - u) W)
      rw [hmo] at HMo
      rw [hu] at c1 c2
      rw [hv] at d1 d2
      have hwd : IntKind.i64.wrap (v - u) = v - u := IntWalk.i64_in _ (by omega)
      have hcR0 : (0 : Int) ≤ (c : Int) := by omega
      have hcR1 : (c : Int) < (m.R.length : Int) := by omega
      have hdR0 : (0 : Int) ≤ (d : Int) := by omega
      have hdR1 : (d : Int) < (m.R.length : Int) := by omega
      obtain ⟨p0, p1, p2, p3, -⟩ := HS.out.box.four
      have hS0 : wr.drew.cell? ⟨b1, off1 + k, none⟩ = some (.int .i64 (c : Nat)) ∧ wr.drew.cell? ⟨b1, off1 + (k + 1), none⟩ = some (.int .i64 (d : Nat)) ∧ wr.drew.cell? ⟨b2, off2 + c, none⟩ = some (.int .i64 u) ∧ wr.drew.cell? ⟨b2, off2 + d, none⟩ = some (.int .i64 v) ∧ wr.drew.cell? ⟨w.heap.size, 2, none⟩ = some (.slice (some ⟨b2, off2, none⟩) m.R.length ca) := ⟨HS.out.c1, HS.out.c2, r1', r2', p2⟩
      clear hr2 r1 r2 hu hv hmo
      have hk0 : (0 : Int) ≤ (k : Int) := by omega
      have hk1 : (k : Int) < (n : Int) + 1 := by omega
      have hk2 : (k : Int) < (n : Int) := by omega
      have hk3 : (0 : Int) ≤ (k : Int) + 1 := by omega
      have hk4 : (k : Int) + 1 < (n : Int) + 1 := by omega
      have hwk : IntKind.i64.wrap (k : Int) = (k : Int) := IntWalk.i64_in _ (by omega)
      have hwk2 : IntKind.i64.wrap ((k : Int) + 1 - 1) = (k : Int) := by rw [Int.add_sub_cancel]; exact hwk
      clear hc hd hco hdo hcd hs ht g1 g2
      go_upto_region 5 with (fail)
      go_region_held3 (fun W : World => W.cell? ⟨b1, off1 + k, none⟩ = some (.int .i64 (c : Nat)) ∧ W.cell? ⟨b1, off1 + (k + 1), none⟩ = some (.int .i64 (d : Nat)) ∧ W.cell? ⟨b2, off2 + c, none⟩ = some (.int .i64 u) ∧ W.cell? ⟨b2, off2 + d, none⟩ = some (.int .i64 v) ∧ W.cell? ⟨w.heap.size, 2, none⟩ = some (.slice (some ⟨b2, off2, none⟩) m.R.length ca)) (first | with_reducible exact hS0) (first
        | (go_at_call 141; refine (HMo.out _).mono ?_; rintro e w5 ⟨rfl, rfl⟩))
      go_wp2_with fail
      go_roundg (n - (k + 1))
      case measure => omega
      case rel => exact ⟨k + 1, by omega, rfl, by go_num, by rw [HSm.out], HS.out.b, HS.out.box⟩
    · obtain rfl : k = n := by omega
      go_wp2_with fail
      go_ret
      exact ⟨rfl, HB.out⟩
end Go.Proofs.Ytnenaponiahalaa.CliS

namespace Go.Proofs.Ytnenaponiahalaa.TibC
open Go.RowKit Lb IntS MapS MapV High Cells StepT StpF SpecB OpnI RtI RtS LtI SumC
set_option linter.unusedSimpArgs false
set_option linter.unusedVariables false

/-- The answer. -/
def aB (m : Mp) (zs : List Int) : Bool := okB m && rtB m zs
def aN (m : Mp) (zs : List Int) : Int := if aB m zs then sm (clb m) zs (zs.length - 1) else 0
theorem a_no {m : Mp} {zs : List Int} (h : aB m zs = false) : aN m zs = 0 := by unfold aN; rw [h]; rfl
theorem a_yes {m : Mp} {zs : List Int} {n : Nat} (h : aB m zs = true) (hn : zs.length = n + 1) : aN m zs = sm (clb m) zs n := by
  unfold aN
  rw [h, hn]
  rfl

theorem sum_any (m : Mp) (zs : List Int) (hl : zs.length ≤ 1048576) (a b al : Option Addr) (ca cb cl : Nat) (w : World) (hcap : zs.length ≤ cl) (hR : m.R.length ≤ maxLen) (hC : m.C.length ≤ maxLen) (hr : IRow w a m.R) (hc : IRow w b m.C) (hz : IRow w al zs) :
    Calls Try.prog 83 #[.agg #[.int .i64 m.W, .int .i64 m.H, .slice a m.R.length ca, .slice b m.C.length cb], .slice al zs.length cl, .func (.func 93) #[] #[]] w (LPost w (aN m zs) (aB m zs)) := by
  by_cases h : m.ok
  · obtain ⟨ww, hh, g⟩ := good_of h
    cases hrt : rtB m zs with
    | false =>
      have e : aB m zs = false := by unfold aB; rw [hrt]; simp
      rw [a_no e, e]
      exact sum_no m zs (rtB m zs) true hrt a b al ca cb cl w hr hc hz (fun W h1 h2 h3 => RtI.impl_ok m ww hh g zs hl a b al ca cb cl W h1 h2 h3)
    | true =>
      have e : aB m zs = true := by unfold aB; rw [hrt, okB_yes h]; rfl
      have hp := rt_pos hrt
      obtain ⟨n, hn⟩ : ∃ n, zs.length = n + 1 := ⟨zs.length - 1, by omega⟩
      rw [a_yes e hn, e]
      rcases hz with h0 | ⟨b1, off1, rfl, hz1⟩
      · omega
      by_cases h1 : 1 < cl
      · have := sum_yes m ww hh g zs hrt n hn a b ca cb cl b1 off1 hcap h1 w hr hc hz1
        rwa [hn]
      · have e1 : cl = 1 := by omega
        have e2 : n = 0 := by omega
        subst e1 e2
        have := sum_one m ww hh g zs hrt hn a b ca cb b1 off1 w hr hc hz1
        rwa [hn]
  · have e : aB m zs = false := by unfold aB; rw [okB_no h]; rfl
    rw [a_no e, e]
    exact sum_no m zs false false rfl a b al ca cb cl w hr hc hz (fun W h1 h2 h3 => RtI.impl_bad m zs h a b al ca cb cl W hR hC h1 h2)

set_option maxHeartbeats 1000000 in
theorem impl_any (m : Mp) (zs : List Int) (hl : zs.length ≤ 1048576) (a b al : Option Addr) (ca cb cl : Nat) (w : World) (hcap : zs.length ≤ cl) (hR : m.R.length ≤ maxLen) (hC : m.C.length ≤ maxLen) (hr : IRow w a m.R) (hc : IRow w b m.C) (hz : IRow w al zs) :
    Calls Try.prog 29 #[.agg #[.int .i64 m.W, .int .i64 m.H, .slice a m.R.length ca, .slice b m.C.length cb], .slice al zs.length cl] w (LPost w (aN m zs) (aB m zs)) := by
  have HB := Lib.hid ((Below.refl w.heap.size w).alloc (Nat.le_refl _) (.cells #[.int .i64 m.W, .int .i64 m.H, .slice a m.R.length ca, .slice b m.C.length cb] 26))
  have HS := Lib.hid (sum_any m zs hl a b al ca cb cl _ hcap hR hC (RowAt.below hr HB.out) (RowAt.below hc HB.out) (RowAt.below hz HB.out))
  clear hr hc hz
  go_enter Try.func29, Try.ntmps29
  go_wp2_with fail
  refine HS.out.mono ?_
  rintro e w1 ⟨rfl, hb1⟩
  have HB1 := Lib.hid (HB.out.trans (hb1.mono (by simp)))
  clear hb1
  go_wp2_with fail
  go_ret2
  exact ⟨rfl, HB1.out⟩

set_option maxHeartbeats 1000000 in
theorem spec_any (m : Mp) (zs : List Int) (hl : zs.length ≤ 1048576) (a b al : Option Addr) (ca cb cl : Nat) (w : World) (hcap : zs.length ≤ cl) (hR : m.R.length ≤ maxLen) (hC : m.C.length ≤ maxLen) (hr : IRow w a m.R) (hc : IRow w b m.C) (hz : IRow w al zs) :
    Calls Try.prog 30 #[.agg #[.int .i64 m.W, .int .i64 m.H, .slice a m.R.length ca, .slice b m.C.length cb], .slice al zs.length cl] w (LPost w (aN m zs) (aB m zs)) := by
  have HB := Lib.hid ((Below.refl w.heap.size w).alloc (Nat.le_refl _) (.cells #[.int .i64 m.W, .int .i64 m.H, .slice a m.R.length ca, .slice b m.C.length cb] 26))
  have HK := Lib.hid (Blk.new w 26 #[.int .i64 m.W, .int .i64 m.H, .slice a m.R.length ca, .slice b m.C.length cb])
  have HR := Lib.hid hr
  have HC := Lib.hid hc
  have HZ := Lib.hid hz
  by_cases h : m.ok
  · obtain ⟨ww, hh, g⟩ := good_of h
    have HG := Lib.hid g
    have hk := okB_yes h
    obtain ⟨x, hx⟩ : ∃ x, rtB m zs = x := ⟨_, rfl⟩
    have HX := Lib.hid hx
    have HA := Lib.hid (show aB m zs = x from by unfold aB; rw [hk, hx]; rfl)
    have HRt := Lib.hid (route_any m ww hh g zs hl a b al ca cb cl hcap)
    rw [hx] at HRt
    clear hr hc hz g h hx
    go_enter Try.func30, Try.ntmps30
    go_wp2_with fail
    refine (MapV.spec_any m a b ca cb _ hR hC (RowAt.below HR.out HB.out) (RowAt.below HC.out HB.out)).mono ?_
    rw [hk]
    rintro e w1 ⟨rfl, hb1⟩
    have HB1 := Lib.hid (HB.out.trans (hb1.mono (by simp)))
    have HK1 := Lib.hid (HK.out.later hb1)
    obtain ⟨p0, p1, p2, p3, -⟩ := HK1.out.four
    clear hb1 hk HB HK
    go_wp2_with fail
    refine (HRt.out _ (RowAt.below HC.out HB1.out) (RowAt.below HZ.out HB1.out)).mono ?_
    rintro e w2 ⟨rfl, hb2⟩
    have HB2 := Lib.hid (HB1.out.trans (hb2.mono HB1.out.size))
    have HK2 := Lib.hid (HK1.out.later hb2)
    clear hb2 HB1 HK1 p0 p1 p2 p3
    obtain ⟨p0, p1, p2, p3, -⟩ := HK2.out.four
    cases x with
    | false =>
      go_wp2_with fail
      go_ret2
      exact ⟨lret (a_no HA.out) HA.out, HB2.out⟩
    | true =>
      have hp := rt_pos HX.out
      obtain ⟨n, hn⟩ : ∃ n, zs.length = n + 1 := ⟨zs.length - 1, by omega⟩
      have HN := Lib.hid (a_yes HA.out hn)
      rcases RowAt.below HZ.out HB2.out with h0 | ⟨b1, off1, rfl, hz1⟩
      · omega
      have HT := Lib.hid (CliS.climb_any m ww hh HG.out zs HX.out n hn a b ca cb cl b1 off1 w2 (RowAt.below HR.out HB2.out) (RowAt.below HC.out HB2.out) hz1)
      rw [← hn] at HT
      clear hz1 hn
      go_wp2_with fail
      refine HT.out.mono ?_
      rintro e w3 ⟨rfl, hb3⟩
      have HB3 := Lib.hid (HB2.out.trans (hb3.mono HB2.out.size))
      clear hb3
      go_wp2_with fail
      go_ret2
      exact ⟨lret HN.out HA.out, HB3.out⟩
  · have hk := okB_no h
    have HA := Lib.hid (show aB m zs = false from by unfold aB; rw [hk]; rfl)
    clear hr hc hz h
    go_enter Try.func30, Try.ntmps30
    go_wp2_with fail
    refine (MapV.spec_any m a b ca cb _ hR hC (RowAt.below HR.out HB.out) (RowAt.below HC.out HB.out)).mono ?_
    rw [hk]
    rintro e w1 ⟨rfl, hb1⟩
    have HB1 := Lib.hid (HB.out.trans (hb1.mono (by simp)))
    clear hb1
    go_wp2_with fail
    go_ret2
    exact ⟨lret (a_no HA.out) HA.out, HB1.out⟩

theorem both_v (m : Mp) (zs : List Int) (hl : zs.length ≤ 1048576) : ∃ (n : Int) (ok : Bool),
    (∀ a b al ca cb cl w, zs.length ≤ cl → m.R.length ≤ maxLen → m.C.length ≤ maxLen → IRow w a m.R → IRow w b m.C → IRow w al zs → Calls Try.prog 30 #[.agg #[.int .i64 m.W, .int .i64 m.H, .slice a m.R.length ca, .slice b m.C.length cb], .slice al zs.length cl] w (LPost w n ok)) ∧
    (∀ a b al ca cb cl w, zs.length ≤ cl → m.R.length ≤ maxLen → m.C.length ≤ maxLen → IRow w a m.R → IRow w b m.C → IRow w al zs → Calls Try.prog 29 #[.agg #[.int .i64 m.W, .int .i64 m.H, .slice a m.R.length ca, .slice b m.C.length cb], .slice al zs.length cl] w (LPost w n ok)) :=
  ⟨aN m zs, aB m zs, fun a b al ca cb cl w hcap hR hC hr hc hz => spec_any m zs hl a b al ca cb cl w hcap hR hC hr hc hz, fun a b al ca cb cl w hcap hR hC hr hc hz => impl_any m zs hl a b al ca cb cl w hcap hR hC hr hc hz⟩
end Go.Proofs.Ytnenaponiahalaa.TibC

namespace Go.Proofs.Ytnenaponiahalaa.RouM
open Go.RowKit Lb IntS MapS MapV High Cells StepT StpF SpecB DjkB OpnI TmsI LtI CrI RtI RtS DetM
set_option linter.unusedSimpArgs false
set_option linter.unusedVariables false

/-- A neighbour is as far as the step. -/
theorem tt_self {m : Mp} {T : Nat → Nat → Int} {ww hh : Nat} (g : GoodM m ww hh) (hT : TT m T) {j : Nat} (hj : Opn m (ww * hh) j) : T j j = 0 := IsD.self g hj (wts_to g) (hT ww hh g j hj)
theorem tt_one {m : Mp} {T : Nat → Nat → Int} {ww hh : Nat} (g : GoodM m ww hh) (hT : TT m T) {c d : Nat} (hc : Opn m (ww * hh) c) (hd : d ∈ nx m c) : Opn m (ww * hh) d ∧ 0 ≤ T d c ∧ T d c ≤ stp m c d := by
  have ho := nx_lt g hc.1 hd
  have h0 := tt_self g hT ho
  have h := (hT ww hh g d ho).step (x := d) (y := c) (by omega) (nx_sym g hc.1 hc.2 hd)
  rw [h0] at h
  exact ⟨ho, h.1, by have := h.2; simpa using this⟩
theorem tt_next {m : Mp} {T : Nat → Nat → Int} {ww hh : Nat} (g : GoodM m ww hh) (hT : TT m T) {i c d : Nat} {s : Int} (hc : Opn m (ww * hh) c) (h0 : 0 ≤ T c i) (hs : T c i ≤ s) (hd : d ∈ nx m c) : Opn m (ww * hh) d ∧ 0 ≤ T d i ∧ T d i ≤ s + stp m c d := by
  obtain ⟨ho, h1, h2⟩ := tt_one g hT hc hd
  have h3 := tt_trans g hT (i := i) (r := c) (j := d) hc ho h0 h1
  exact ⟨ho, h3.1, by omega⟩

theorem zAt_rt (m : Mp) (D : Nat → Int) (i k q : Nat) (h : q ≤ k) : zAt (ints (rt m D i k)) q = ((tr m D i q : Nat) : Int) := by
  unfold zAt ints rt
  rw [List.getD_eq_getElem?_getD]
  simp [show q < k + 1 by omega]
theorem len_rt (m : Mp) (D : Nat → Int) (i k : Nat) : (ints (rt m D i k)).length = k + 1 := by rw [ints_length, rt_len]

/-- What holds along a best way. -/
structure Along (m : Mp) (T : Nat → Nat → Int) (ww hh i j k : Nat) : Prop where
  opn : ∀ q, q ≤ k → Opn m (ww * hh) (tr m (T j) i q)
  fst : ∀ q, q ≤ k → 0 ≤ T (tr m (T j) i q) i ∧ T (tr m (T j) i q) i = T j i - T j (tr m (T j) i q)
  snd : ∀ q, q ≤ k → 0 ≤ T j (tr m (T j) i q)
  nx : ∀ q, q < k → tr m (T j) i (q + 1) ∈ nx m (tr m (T j) i q)
  sum : ∀ q, q ≤ k → sm (stp m) (ints (rt m (T j) i k)) q = T j i - T j (tr m (T j) i q)
  ne : ∀ p q, p < q → q ≤ k → tr m (T j) i p ≠ tr m (T j) i q
  tot : sm (stp m) (ints (rt m (T j) i k)) k = T j i
theorem along {m : Mp} {T : Nat → Nat → Int} (hT : TT m T) {ww hh i j k : Nat} (t : Tgt m ww hh j (T j)) (hi : Opn m (ww * hh) i) (h0 : 0 ≤ T j i) (b : Best m (T j) i j k) : Along m T ww hh i j k := by
  have hD : ∀ q, q ≤ k → 0 ≤ T j (tr m (T j) i q) := fun q hq => (b.step t h0 q hq).pos
  have ho : ∀ q, q ≤ k → Opn m (ww * hh) (tr m (T j) i q) := fun q hq => t.D.opn t.g t.ho (hD q hq)
  have hf : ∀ q, q ≤ k → 0 ≤ T (tr m (T j) i q) i ∧ T (tr m (T j) i q) i ≤ T j i - T j (tr m (T j) i q) := by
    intro q
    induction q with
    | zero =>
      intro _
      show 0 ≤ T i i ∧ T i i ≤ T j i - T j i
      rw [tt_self t.g hT hi]
      omega
    | succ q ih =>
      intro hq
      have h1 := ih (by omega)
      obtain ⟨e1, e2, e3⟩ := b.edge t h0 (q := q) (by omega)
      have h2 := tt_next t.g hT (ho q (by omega)) h1.1 h1.2 e1
      exact ⟨h2.2.1, by omega⟩
  have hs : ∀ q, q ≤ k → sm (stp m) (ints (rt m (T j) i k)) q = T j i - T j (tr m (T j) i q) := by
    intro q
    induction q with
    | zero =>
      intro _
      show 0 = T j i - T j i
      omega
    | succ q ih =>
      intro hq
      have h1 := ih (by omega)
      obtain ⟨e1, e2, e3⟩ := b.edge t h0 (q := q) (by omega)
      rw [sm, zAt_rt _ _ _ _ _ (by omega), zAt_rt _ _ _ _ _ hq, Int.toNat_natCast, Int.toNat_natCast, h1]
      omega
  refine ⟨ho, fun q hq => ⟨(hf q hq).1, ?_⟩, hD, fun q hq => (b.edge t h0 hq).1, hs, fun p q hp hq e => ?_, ?_⟩
  · have h1 := hf q hq
    have h2 := tt_trans t.g hT (i := i) (ho q hq) t.ho h1.1 (hD q hq)
    omega
  · have := b.mono t h0 hp hq
    rw [e] at this
    omega
  · have := hs k (Nat.le_refl _)
    rw [b.2, tt_self t.g hT t.ho] at this
    omega
theorem Along.route {m : Mp} {T : Nat → Nat → Int} {ww hh i j k : Nat} (g : GoodM m ww hh) (a : Along m T ww hh i j k) : rtB m (ints (rt m (T j) i k)) = true := by
  have : ∀ q, q < (ints (rt m (T j) i k)).length → okAt m (ints (rt m (T j) i k)) q = true := by
    intro q hq
    rw [len_rt] at hq
    refine ok_yes ?_ ?_ ?_
    · rw [zAt_rt _ _ _ _ _ (by omega)]
      exact opB_yes g (a.opn q (by omega))
    · intro hmem
      obtain ⟨p, hp, e⟩ := List.mem_take_iff_getElem.1 hmem
      rw [len_rt] at hp
      have e1 : zAt (ints (rt m (T j) i k)) p = (ints (rt m (T j) i k))[p]'(by rw [len_rt]; omega) := by
        unfold zAt
        rw [List.getD_eq_getElem?_getD, List.getElem?_eq_getElem (by rw [len_rt]; omega)]
        rfl
      rw [← e1, zAt_rt _ _ _ _ _ (by omega), zAt_rt _ _ _ _ _ (by omega)] at e
      exact a.ne p q (by omega) (by omega) (Int.ofNat.inj e)
    · rcases Nat.eq_zero_or_pos q with h | h
      · exact .inl h
      · refine .inr ?_
        have := a.nx (q - 1) (by omega)
        rw [show q - 1 + 1 = q by omega] at this
        rw [zAt_rt _ _ _ _ _ (by omega), zAt_rt _ _ _ _ _ (by omega), Int.toNat_natCast]
        exact mem_ints.2 ⟨_, this, rfl⟩
  rw [rt_all this]
  exact decide_eq_true (by rw [len_rt]; omega)

/-- The time of a route is at least the least time. -/
theorem route_least {m : Mp} {T : Nat → Nat → Int} (hT : TT m T) {ww hh : Nat} (g : GoodM m ww hh) {zs : List Int} (h : rtB m zs = true) {z : Nat} (hz : zAt zs 0 = (z : Int)) : ∀ k c : Nat, k < zs.length → zAt zs k = (c : Int) → 0 ≤ T c z ∧ T c z ≤ sm (stp m) zs k
  | 0, c, hk, hc => by
    obtain rfl : c = z := by omega
    obtain ⟨d, hd, ho⟩ := rt_cell g h hk
    obtain rfl : d = c := by omega
    rw [tt_self g hT ho]
    simp [sm]
  | k + 1, c, hk, hc => by
    obtain ⟨d, hd, ho⟩ := rt_cell g h (i := k) (by omega)
    have ih := route_least hT g h hz k d (by omega) hd
    have h2 := tt_next g hT ho ih.1 ih.2 (rt_next g h hk hd hc)
    rw [sm, hd, hc, Int.toNat_natCast, Int.toNat_natCast]
    exact h2.2

/-- One answer for the texts that the law of routes asks. -/
theorem rou_both (m : Mp) (p q : Int) (hR : m.R.length ≤ maxLen) (hC : m.C.length ≤ maxLen) : ∃ (zs : List Int) (ok : Bool) (n : Int), zs.length ≤ 1000 ∧
    (∀ a b ca cb w, IRow w a m.R → IRow w b m.C → Calls Try.prog 16 #[.agg #[.int .i64 m.W, .int .i64 m.H, .slice a m.R.length ca, .slice b m.C.length cb], .int .i64 p, .int .i64 q] w (Cells.NPost w zs ok)) ∧
    (∀ a b ca cb w, IRow w a m.R → IRow w b m.C → Calls Try.prog 17 #[.agg #[.int .i64 m.W, .int .i64 m.H, .slice a m.R.length ca, .slice b m.C.length cb], .int .i64 p, .int .i64 q] w (Cells.NPost w zs ok)) ∧
    (∀ a b ca cb w, IRow w a m.R → IRow w b m.C → Calls Try.prog 19 #[.agg #[.int .i64 m.W, .int .i64 m.H, .slice a m.R.length ca, .slice b m.C.length cb], .int .i64 p, .int .i64 q] w (LPost w n ok)) ∧
    (∀ a b ca cb w, IRow w a m.R → IRow w b m.C → Calls Try.prog 20 #[.agg #[.int .i64 m.W, .int .i64 m.H, .slice a m.R.length ca, .slice b m.C.length cb], .int .i64 p, .int .i64 q] w (LPost w n ok)) ∧
    (ok = true → 0 < zs.length ∧
      (∀ a b al ca cb cl w, zs.length ≤ cl → IRow w a m.R → IRow w b m.C → IRow w al zs → Calls Try.prog 21 #[.agg #[.int .i64 m.W, .int .i64 m.H, .slice a m.R.length ca, .slice b m.C.length cb], .slice al zs.length cl] w (LPost w n true)) ∧
      (∀ a b al ca cb cl w, zs.length ≤ cl → IRow w a m.R → IRow w b m.C → IRow w al zs → Calls Try.prog 22 #[.agg #[.int .i64 m.W, .int .i64 m.H, .slice a m.R.length ca, .slice b m.C.length cb], .slice al zs.length cl] w (BPost w true true)) ∧
      ∀ i, i < zs.length → ∃ x y : Int, 0 ≤ x ∧ x ≤ 972 ∧ 0 ≤ y ∧ y ≤ 972 ∧ x + y = n ∧
        (∀ a b ca cb w, IRow w a m.R → IRow w b m.C → Calls Try.prog 19 #[.agg #[.int .i64 m.W, .int .i64 m.H, .slice a m.R.length ca, .slice b m.C.length cb], .int .i64 p, .int .i64 (zAt zs i)] w (LPost w x true)) ∧
        (∀ a b ca cb w, IRow w a m.R → IRow w b m.C → Calls Try.prog 19 #[.agg #[.int .i64 m.W, .int .i64 m.H, .slice a m.R.length ca, .slice b m.C.length cb], .int .i64 (zAt zs i), .int .i64 q] w (LPost w y true)) ∧
        (∀ a b ca cb w, IRow w a m.R → IRow w b m.C → Calls Try.prog 23 #[.agg #[.int .i64 m.W, .int .i64 m.H, .slice a m.R.length ca, .slice b m.C.length cb], .int .i64 p, .int .i64 q, .int .i64 (zAt zs i)] w (CrI.CPost w true true))) := by
  obtain ⟨T, hT⟩ := tt_ex m
  obtain ⟨zs, ok, hz, hok, -, hy, hS, hI⟩ := BstS.both m T hT p q
  have hL := LtI.both m T hT p q
  rw [← hok] at hL
  refine ⟨zs, ok, _, hz, fun a b ca cb w hr hc => hI a b ca cb w hR hC hr hc, fun a b ca cb w hr hc => hS a b ca cb w hR hC hr hc, fun a b ca cb w hr hc => hL.2 a b ca cb w hR hC hr hc, fun a b ca cb w hr hc => hL.1 a b ca cb w hR hC hr hc, ?_⟩
  intro h
  obtain ⟨ww, hh, i, j, k, rfl, rfl, hi, t, h0, hb, rfl⟩ := hy h
  have al := along hT t hi h0 hb
  have hrt := al.route t.g
  have hokB : okB m = true := okB_yes (ok_of t.g)
  have hn : ltN m T (i : Nat) (j : Nat) = T j i := (lt_yes (ask_split t.g hi t.ho) h0).2
  have haB : TibT.aB m (ints (rt m (T j) i k)) = true := by unfold TibT.aB; rw [hokB, hrt]; rfl
  have haN : TibT.aN m (ints (rt m (T j) i k)) = ltN m T (i : Nat) (j : Nat) := by
    rw [TibT.a_yes (n := k) haB (len_rt _ _ _ _), hn, al.tot]
  refine ⟨by rw [len_rt]; omega, fun a b al ca cb cl w hcap hr hc hl => ?_, fun a b al ca cb cl w hcap hr hc hl => ?_, fun c hc => ?_⟩
  · have := TibT.impl_any m (ints (rt m (T j) i k)) (by omega) a b al ca cb cl w hcap hR hC hr hc hl
    rw [haB, haN] at this
    exact this
  · obtain ⟨x, o, h1, h2, -, -, h4⟩ := RtS.both m (ints (rt m (T j) i k)) (by omega)
    have ho : o = true := h1.2 (ok_of t.g)
    have hx := h2 ho
    rw [hrt] at hx
    subst ho hx
    exact h4 a b al ca cb cl w hcap hR hC hr hc hl
  · rw [len_rt] at hc
    have e := zAt_rt m (T j) i k c (by omega)
    rw [e]
    have ho := al.opn c (by omega)
    have hf := al.fst c (by omega)
    have hs := al.snd c (by omega)
    have b1 := tt_bd t.g hT ho i
    have b2 := tt_bd t.g hT t.ho (tr m (T j) i c)
    have y1 := lt_yes (ask_split t.g hi ho) hf.1
    have y2 := lt_yes (ask_split t.g ho t.ho) hs
    refine ⟨_, _, hf.1, b1.2, hs, b2.2, by rw [hn]; omega, fun a b ca cb w hr hc => ?_, fun a b ca cb w hr hc => ?_, fun a b ca cb w hr hc => ?_⟩
    · have := (LtI.both m T hT (i : Nat) (tr m (T j) i c : Nat)).2 a b ca cb w hR hC hr hc
      rw [y1.1, y1.2] at this
      exact this
    · have := (LtI.both m T hT (tr m (T j) i c : Nat) (j : Nat)).2 a b ca cb w hR hC hr hc
      rw [y2.1, y2.2] at this
      exact this
    · have d := dt_yes t.g hT hi ho t.ho hf.1 hs
      have c2 := crossed d.1
      have hz0 : (dtN m T (i : Nat) (tr m (T j) i c : Nat) (j : Nat) == 0) = true := by rw [d.2]; simp; omega
      rw [hz0] at c2
      have := CrI.impl_any m T hT (i : Nat) (j : Nat) (tr m (T j) i c : Nat) a b ca cb w hR hC hr hc
      rw [c2.1, c2.2] at this
      exact this

/-- The time of any list: where there is one, the least time of its ends is no greater. -/
theorem time_both (m : Mp) (zs : List Int) (hl : zs.length ≤ 1048576) (hR : m.R.length ≤ maxLen) (hC : m.C.length ≤ maxLen) : ∃ (n : Int) (ok : Bool),
    (∀ a b al ca cb cl w, zs.length ≤ cl → IRow w a m.R → IRow w b m.C → IRow w al zs → Calls Try.prog 21 #[.agg #[.int .i64 m.W, .int .i64 m.H, .slice a m.R.length ca, .slice b m.C.length cb], .slice al zs.length cl] w (LPost w n ok)) ∧
    (∀ a b al ca cb cl w, zs.length ≤ cl → IRow w a m.R → IRow w b m.C → IRow w al zs → Calls Try.prog 25 #[.agg #[.int .i64 m.W, .int .i64 m.H, .slice a m.R.length ca, .slice b m.C.length cb], .slice al zs.length cl] w (LPost w n ok)) ∧
    (ok = true → 0 < zs.length ∧ ∃ s : Int, s ≤ n ∧ ∀ a b ca cb w, IRow w a m.R → IRow w b m.C → Calls Try.prog 19 #[.agg #[.int .i64 m.W, .int .i64 m.H, .slice a m.R.length ca, .slice b m.C.length cb], .int .i64 (zAt zs 0), .int .i64 (zAt zs (zs.length - 1))] w (LPost w s true)) := by
  refine ⟨TibT.aN m zs, TibT.aB m zs, fun a b al ca cb cl w hcap hr hc hz => TibT.impl_any m zs hl a b al ca cb cl w hcap hR hC hr hc hz, fun a b al ca cb cl w hcap hr hc hz => TibT.spec_any m zs hl a b al ca cb cl w hcap hR hC hr hc hz, fun h => ?_⟩
  have h' := h
  unfold TibT.aB at h'
  rw [Bool.and_eq_true] at h'
  have hp := rt_pos h'.2
  obtain ⟨ww, hh, g⟩ := good_of (okB_iff.1 h'.1)
  obtain ⟨z, hz, hzo⟩ := rt_cell g h'.2 hp
  obtain ⟨c, hc, hco⟩ := rt_cell g h'.2 (i := zs.length - 1) (by omega)
  obtain ⟨T, hT⟩ := tt_ex m
  have hle := route_least hT g h'.2 hz (zs.length - 1) c (by omega) hc
  have y1 := lt_yes (ask_split g hzo hco) hle.1
  refine ⟨hp, T c z, ?_, fun a b ca cb w hr hcc => ?_⟩
  · rw [TibT.a_yes (n := zs.length - 1) h (by omega)]
    exact hle.2
  · have := (LtI.both m T hT (z : Nat) (c : Nat)).2 a b ca cb w hR hC hr hcc
    rw [y1.1, y1.2] at this
    rw [hz, hc]
    exact this

/-- Climbs are not negative. -/
theorem climb_both (m : Mp) (zs : List Int) (hl : zs.length ≤ 1048576) (hR : m.R.length ≤ maxLen) (hC : m.C.length ≤ maxLen) : ∃ (n : Int) (ok : Bool), 0 ≤ n ∧
    (∀ a b al ca cb cl w, zs.length ≤ cl → IRow w a m.R → IRow w b m.C → IRow w al zs → Calls Try.prog 29 #[.agg #[.int .i64 m.W, .int .i64 m.H, .slice a m.R.length ca, .slice b m.C.length cb], .slice al zs.length cl] w (LPost w n ok)) ∧
    (∀ a b al ca cb cl w, zs.length ≤ cl → IRow w a m.R → IRow w b m.C → IRow w al zs → Calls Try.prog 30 #[.agg #[.int .i64 m.W, .int .i64 m.H, .slice a m.R.length ca, .slice b m.C.length cb], .slice al zs.length cl] w (LPost w n ok)) := by
  refine ⟨TibC.aN m zs, TibC.aB m zs, ?_, fun a b al ca cb cl w hcap hr hc hz => TibC.impl_any m zs hl a b al ca cb cl w hcap hR hC hr hc hz, fun a b al ca cb cl w hcap hr hc hz => TibC.spec_any m zs hl a b al ca cb cl w hcap hR hC hr hc hz⟩
  cases h : TibC.aB m zs with
  | false => rw [TibC.a_no h]; exact Int.le_refl _
  | true =>
    have h' := h
    unfold TibC.aB at h'
    rw [Bool.and_eq_true] at h'
    have hp := rt_pos h'.2
    obtain ⟨ww, hh, g⟩ := good_of (okB_iff.1 h'.1)
    rw [TibC.a_yes (n := zs.length - 1) h (by omega)]
    exact (sm_bd g h'.2 (fun c d hc hd => clb_bd g hc hd) _ (by omega)).1

/-- IsRoute at any list. -/
theorem is_both (m : Mp) (zs : List Int) (hl : zs.length ≤ 1048576) (hR : m.R.length ≤ maxLen) (hC : m.C.length ≤ maxLen) : ∃ x ok : Bool,
    (∀ a b al ca cb cl w, zs.length ≤ cl → IRow w a m.R → IRow w b m.C → IRow w al zs → Calls Try.prog 22 #[.agg #[.int .i64 m.W, .int .i64 m.H, .slice a m.R.length ca, .slice b m.C.length cb], .slice al zs.length cl] w (BPost w x ok)) ∧
    (∀ a b al ca cb cl w, zs.length ≤ cl → IRow w a m.R → IRow w b m.C → IRow w al zs → Calls Try.prog 27 #[.agg #[.int .i64 m.W, .int .i64 m.H, .slice a m.R.length ca, .slice b m.C.length cb], .slice al zs.length cl] w (BPost w x ok)) := by
  obtain ⟨x, ok, h1, h2⟩ := RtS.both_v m zs hl
  exact ⟨x, ok, fun a b al ca cb cl w hcap hr hc hz => h2 a b al ca cb cl w hcap hR hC hr hc hz, fun a b al ca cb cl w hcap hr hc hz => h1 a b al ca cb cl w hcap hR hC hr hc hz⟩
end Go.Proofs.Ytnenaponiahalaa.RouM

namespace Go.Proofs.Ytnenaponiahalaa.DrwM
open Go.RowKit Lb Cur IntS MapS MapV SpecB CurM CodM
set_option linter.unusedSimpArgs false
set_option linter.unusedVariables false

/-- A map and a list that were drawn. -/
def RPost (w : World) (e : Ending) (w' : World) : Prop := ∃ (v u : Value) (zs : List Int), e = .returned (.tuple #[v, u]) ∧ (∃ m : Mp, OwnM w' w.heap.size v m ∧ m.R.length ≤ 21 ∧ m.C.length ≤ 21) ∧ OwnI w' w.heap.size u zs ∧ zs.length ≤ 1006 ∧ Below w.heap.size w w'

set_option maxRecDepth 100000 in
set_option maxHeartbeats 4000000 in
theorem isroute_draw (a : Option Addr) (n cap : Nat) (xs : Nat → Nat) (w : World) (hc : Bytes w a n xs) :
    Calls Try.prog 26 #[.slice a n cap] w (RPost w) := by
  have HB := Lib.hid ((Below.refl w.heap.size w).alloc (Nat.le_refl _) (.cells #[.int .i64 0, .int .i64 0, .slice none 0 0, .slice none 0 0] 26))
  have HQ0 := Lib.hid (Blk.new w 26 #[.int .i64 0, .int .i64 0, .slice none 0 0, .slice none 0 0])
  have c1 := Lib.hid (MapD.map_any _ 0 _ (by omega) (begin_ (hc.below HB.out) cap))
  rw [World.size_alloc] at c1
  clear hc
  go_enter Try.func26, Try.ntmps26
  go_wp2_with fail
  refine c1.out.mono ?_
  rintro e w1 ⟨⟨v, rfl, m, ho, hR, hC⟩, hok1, hg1⟩
  obtain ⟨ar, cr, ac, cc, rfl, h1, h2, hne⟩ := ho
  rw [World.size_alloc, World.size_alloc] at h1 h2
  have hz : w.heap.size + 1 < w1.heap.size := hok1.lt
  obtain ⟨B5, hB5e⟩ : ∃ B, w1.heap.size = B := ⟨_, rfl⟩
  have HS1 := Lib.hid (show DSt w m ar cr ac cc B5 200 (w1.alloc (.cells #[.int .i64 m.W, .int .i64 m.H, .slice ar m.R.length cr, .slice ac m.C.length cc] 26)) from by
    have hA : Below w1.heap.size w1 (w1.alloc (.cells #[.int .i64 m.W, .int .i64 m.H, .slice ar m.R.length cr, .slice ac m.C.length cc] 26)) := (Below.refl _ _).alloc (Nat.le_refl _) _
    have hB1 := below_of_grown (HB.out.alloc (by simp) _) hg1 (by simp; omega) (by simp)
    refine ⟨hB1.alloc hB1.size _, (blk_grown (HQ0.out.alloc _) hg1 (by simp)).alloc _, ?_, World.ownsRow.alloc h1 _, World.ownsRow.alloc h2 _, (hok1.below hA).mono (by omega)⟩
    rw [← hB5e]
    exact Blk.new w1 26 #[.int .i64 m.W, .int .i64 m.H, .slice ar m.R.length cr, .slice ac m.C.length cc])
  have HN := Lib.hid hne
  have hB5 : w.heap.size + 1 < B5 := by omega
  have hRm : m.R.length ≤ maxLen := by unfold maxLen; omega
  have hCm : m.C.length ≤ maxLen := by unfold maxLen; omega
  clear hg1 h1 h2 hne hok1 c1 HB HQ0
  obtain ⟨p0, p1, p2, p3, -⟩ := HS1.out.box.four
  rw [← hB5e] at p0 p1 p2 p3
  have HS2 := Lib.hid HS1.out.drew
  have HNR := Lib.hid (show ∀ x, ar = some x → x.block ≠ w.heap.size + 1 from fun x e => by have := (OwnI.lt HS1.out.r x e).1; omega)
  have HNC := Lib.hid (show ∀ x, ac = some x → x.block ≠ w.heap.size + 1 from fun x e => by have := (OwnI.lt HS1.out.c x e).1; omega)
  go_upto_region 3 with (fail)
  clear hB5e HS1 p0 p1 p2 p3
  obtain ⟨p0, p1, p2, p3, -⟩ := HS2.out.box.four
  refine wp_region_noPanic ?_
  refine wp_region_held_drew (S := (fun Wx : World => Wx.cell? ⟨B5, 0, none⟩ = some (.int .i64 m.W) ∧ Wx.cell? ⟨B5, 1, none⟩ = some (.int .i64 m.H) ∧ Wx.cell? ⟨B5, 2, none⟩ = some (.slice ar m.R.length cr) ∧ Wx.cell? ⟨B5, 3, none⟩ = some (.slice ac m.C.length cc))) (by kernel_rfl) ⟨p0, p1, p2, p3⟩ (fun hHeld => ?_)
  refine wpAnyH_take (i := 0) (oi := _) (v := ?_) rfl (by kernel_rfl) (by kernel_rfl) (by kernel_rfl) (fun _ _ _ h => h) (Or.inl ⟨by rfl, ?_⟩) (by assumption) ?_; rotate_left; focus (intro W hSw; (try dsimp only at hSw); go_simp; (first | done | with_reducible rfl))
  (try simp only [List.getElem_toArray, List.getElem_cons_succ, List.getElem_cons_zero, Act.put, List.setIfInBounds_toArray, List.set_cons_zero, List.set_cons_succ])
  refine wpAnyH_take (i := 1) (oi := _) (v := ?_) rfl (by kernel_rfl) (by kernel_rfl) (by kernel_rfl) (fun _ _ _ h => h) (Or.inl ⟨by rfl, ?_⟩) (by assumption) ?_; rotate_left; focus (intro W hSw; (try dsimp only at hSw); go_simp; (first | done | with_reducible rfl))
  (try simp only [List.getElem_toArray, List.getElem_cons_succ, List.getElem_cons_zero, Act.put, List.setIfInBounds_toArray, List.set_cons_zero, List.set_cons_succ])
  refine wpAnyH_take (i := 2) (oi := _) (v := ?_) rfl (by kernel_rfl) (by kernel_rfl) (by kernel_rfl) (fun _ _ _ h => h) (Or.inl ⟨by rfl, ?_⟩) (by assumption) ?_; rotate_left; focus (intro W hSw; (try dsimp only at hSw); go_simp; (first | done | with_reducible rfl))
  (try simp only [List.getElem_toArray, List.getElem_cons_succ, List.getElem_cons_zero, Act.put, List.setIfInBounds_toArray, List.set_cons_zero, List.set_cons_succ])
  refine wpAnyH_ready (rs := [3]) (by kernel_rfl) (by simp) ?_
  refine AllReadyH.cons (o := _) rfl (fun K hK => ?_) AllReadyH.nil
  go_simp
  go_at_call 92
  refine (RouD.route_any (w.heap.size + 1) 200 m ar ac cr cc _ (by omega) hR hC HS2.out.rowR HS2.out.rowC HNR.out HNC.out (fun x e => (OwnI.lt HS2.out.r x e).2) (fun x e => (OwnI.lt HS2.out.c x e).2) HS2.out.ok).mono ?_
  rintro e w3 ⟨⟨u, zs, rfl, hu, hzl⟩, hok, hg⟩
  have hs2 := HS2.out.box.lt
  have HS5 := Lib.hid (HS2.out.step hB5 hok hg)
  have HUo := Lib.hid hu
  clear hok hg hu p0 p1 p2 p3
  obtain ⟨p0, p1, p2, p3, -⟩ := HS5.out.box.four
  go_wp2_with fail
  refine hK.out _ _ ⟨p0, p1, p2, p3⟩ (fun _ => ?_)
  clear hK K hHeld
  obtain ⟨r0, r1, r2, r3, l0, l1, l2, l3⟩ := HS5.out.res.four
  have hx1 := HS5.out.res.lt
  have hx2 := HS5.out.box.lt
  refine wpAnyH_ready (rs := [4]) (by kernel_rfl) (by simp) ?_
  refine AllReadyH.cons (o := _) rfl (fun K hK => ?_) AllReadyH.nil
  go_simp
  have key : ∀ (W : World) (p : Addr) (u : Value), p.block = w.heap.size → Blk W B5 26 #[.int .i64 m.W, .int .i64 m.H, .slice ar m.R.length cr, .slice ac m.C.length cc] → Blk (W.setCell p u) B5 26 #[.int .i64 m.W, .int .i64 m.H, .slice ar m.R.length cr, .slice ac m.C.length cc] := fun W p u hp h => (Below.heap_setCell W p u B5 (by omega)).trans h
  obtain ⟨q0, q1, q2, q3, -⟩ := (key _ ⟨w.heap.size, 3, none⟩ (.slice ac m.C.length cc) rfl (key _ ⟨w.heap.size, 2, none⟩ (.slice ar m.R.length cr) rfl (key _ ⟨w.heap.size, 1, none⟩ (.int .i64 m.H) rfl (key _ ⟨w.heap.size, 0, none⟩ (.int .i64 m.W) rfl HS5.out.box)))).four
  clear key
  refine hK.out _ _ ⟨q0, q1, q2, q3⟩ (fun _ => ?_)
  clear hK K q0 q1 q2 q3
  refine wpAnyH_take (i := 5) (oi := _) (v := ?_) rfl (by kernel_rfl) (by kernel_rfl) (by kernel_rfl) (fun _ _ _ h => h) (Or.inl ⟨by rfl, ?_⟩) (by assumption) ?_; rotate_left; focus (intro W hSw; (try dsimp only at hSw); go_simp; (first | done | with_reducible rfl))
  (try simp only [List.getElem_toArray, List.getElem_cons_succ, List.getElem_cons_zero, Act.put, List.setIfInBounds_toArray, List.set_cons_zero, List.set_cons_succ])
  refine wpAnyH_done (by kernel_rfl) ?_ _
  refine NoPanic.normal ?_
  (try simp only [List.getElem_toArray, List.getElem_cons_succ, List.getElem_cons_zero, Act.put, List.setIfInBounds_toArray, List.set_cons_zero, List.set_cons_succ])
  go_wp2
  refine bodyPost_ret (v := .tuple #[.agg #[.int .i64 m.W, .int .i64 m.H, .slice ar m.R.length cr, .slice ac m.C.length cc], u]) (by simp [results, Try.results26, go_sem, r0, r1, r2, r3]) rfl ⟨_, u, zs, rfl, ⟨m, ⟨ar, cr, ac, cc, rfl, ?_, ?_, HN.out⟩, hR, hC⟩, ?_, hzl, ?_⟩
  · have h := HS5.out.r
    refine rebase (b := w.heap.size + 1 + 1) ?_ (by omega)
    iterate 4 (refine ownsRow_setCell_below ?_ (by show w.heap.size < _; omega) _)
    exact h
  · have h := HS5.out.c
    refine rebase (b := w.heap.size + 1 + 1) ?_ (by omega)
    iterate 4 (refine ownsRow_setCell_below ?_ (by show w.heap.size < _; omega) _)
    exact h
  · have h := HUo.out
    refine rebase ?_ HS2.out.b.size
    iterate 4 (refine ownsRow_setCell_below ?_ (by exact HS2.out.res.lt) _)
    exact h
  · iterate 4 (refine Below.setCell ?_ (by simp) _)
    exact HS5.out.b

end Go.Proofs.Ytnenaponiahalaa.DrwM

namespace Go.Proofs.Ytnenaponiahalaa.DrwM
open Go.RowKit Lb Cur IntS MapS MapV SpecB CurM CodM
set_option linter.unusedSimpArgs false
set_option linter.unusedVariables false

set_option maxRecDepth 100000 in
set_option maxHeartbeats 4000000 in
theorem rtime_draw (a : Option Addr) (n cap : Nat) (xs : Nat → Nat) (w : World) (hc : Bytes w a n xs) :
    Calls Try.prog 24 #[.slice a n cap] w (RPost w) := by
  have HB := Lib.hid ((Below.refl w.heap.size w).alloc (Nat.le_refl _) (.cells #[.int .i64 0, .int .i64 0, .slice none 0 0, .slice none 0 0] 26))
  have HQ0 := Lib.hid (Blk.new w 26 #[.int .i64 0, .int .i64 0, .slice none 0 0, .slice none 0 0])
  have c1 := Lib.hid (isroute_draw a n cap xs _ (hc.below HB.out))
  clear hc
  go_enter Try.func24, Try.ntmps24
  go_wp2_with fail
  refine c1.out.mono ?_
  rintro e w1 ⟨v, u, zs, rfl, ⟨m, ⟨ar, cr, ac, cc, rfl, h1, h2, hne⟩, hR, hC⟩, hu, hzl, hb⟩
  rw [World.size_alloc] at h1 h2 hb hu
  have HBx := Lib.hid (HB.out.trans (hb.mono (by omega)))
  have HQ1 := Lib.hid (HQ0.out.later (by rw [World.size_alloc]; exact hb))
  have HR := Lib.hid h1
  have HC := Lib.hid h2
  have HU := Lib.hid hu
  have HN := Lib.hid hne
  have hRm : m.R.length ≤ maxLen := by unfold maxLen; omega
  have hCm : m.C.length ≤ maxLen := by unfold maxLen; omega
  clear h1 h2 hu hb hne c1 HB HQ0
  obtain ⟨r0, r1, r2, r3, l0, l1, l2, l3⟩ := HQ1.out.four
  have hx1 := HQ1.out.lt
  go_wp2_with fail
  refine bodyPost_ret (v := .tuple #[.agg #[.int .i64 m.W, .int .i64 m.H, .slice ar m.R.length cr, .slice ac m.C.length cc], u]) (by simp [results, Try.results24, go_sem, r0, r1, r2, r3]) rfl ⟨_, u, zs, rfl, ⟨m, ⟨ar, cr, ac, cc, rfl, ?_, ?_, HN.out⟩, hR, hC⟩, ?_, hzl, ?_⟩
  · have h := HR.out
    refine rebase (b := w.heap.size + 1) ?_ (by omega)
    iterate 4 (refine ownsRow_setCell_below ?_ (by show w.heap.size < _; omega) _)
    exact h
  · have h := HC.out
    refine rebase (b := w.heap.size + 1) ?_ (by omega)
    iterate 4 (refine ownsRow_setCell_below ?_ (by show w.heap.size < _; omega) _)
    exact h
  · have h := HU.out
    refine rebase (b := w.heap.size + 1) ?_ (by omega)
    iterate 4 (refine ownsRow_setCell_below ?_ (by show w.heap.size < _; omega) _)
    exact h
  · iterate 4 (refine Below.setCell ?_ (by simp) _)
    exact HBx.out

set_option maxRecDepth 100000 in
set_option maxHeartbeats 4000000 in
theorem rclimb_draw (a : Option Addr) (n cap : Nat) (xs : Nat → Nat) (w : World) (hc : Bytes w a n xs) :
    Calls Try.prog 28 #[.slice a n cap] w (RPost w) := by
  have HB := Lib.hid ((Below.refl w.heap.size w).alloc (Nat.le_refl _) (.cells #[.int .i64 0, .int .i64 0, .slice none 0 0, .slice none 0 0] 26))
  have HQ0 := Lib.hid (Blk.new w 26 #[.int .i64 0, .int .i64 0, .slice none 0 0, .slice none 0 0])
  have c1 := Lib.hid (isroute_draw a n cap xs _ (hc.below HB.out))
  clear hc
  go_enter Try.func28, Try.ntmps28
  go_wp2_with fail
  refine c1.out.mono ?_
  rintro e w1 ⟨v, u, zs, rfl, ⟨m, ⟨ar, cr, ac, cc, rfl, h1, h2, hne⟩, hR, hC⟩, hu, hzl, hb⟩
  rw [World.size_alloc] at h1 h2 hb hu
  have HBx := Lib.hid (HB.out.trans (hb.mono (by omega)))
  have HQ1 := Lib.hid (HQ0.out.later (by rw [World.size_alloc]; exact hb))
  have HR := Lib.hid h1
  have HC := Lib.hid h2
  have HU := Lib.hid hu
  have HN := Lib.hid hne
  have hRm : m.R.length ≤ maxLen := by unfold maxLen; omega
  have hCm : m.C.length ≤ maxLen := by unfold maxLen; omega
  clear h1 h2 hu hb hne c1 HB HQ0
  obtain ⟨r0, r1, r2, r3, l0, l1, l2, l3⟩ := HQ1.out.four
  have hx1 := HQ1.out.lt
  go_wp2_with fail
  refine bodyPost_ret (v := .tuple #[.agg #[.int .i64 m.W, .int .i64 m.H, .slice ar m.R.length cr, .slice ac m.C.length cc], u]) (by simp [results, Try.results28, go_sem, r0, r1, r2, r3]) rfl ⟨_, u, zs, rfl, ⟨m, ⟨ar, cr, ac, cc, rfl, ?_, ?_, HN.out⟩, hR, hC⟩, ?_, hzl, ?_⟩
  · have h := HR.out
    refine rebase (b := w.heap.size + 1) ?_ (by omega)
    iterate 4 (refine ownsRow_setCell_below ?_ (by show w.heap.size < _; omega) _)
    exact h
  · have h := HC.out
    refine rebase (b := w.heap.size + 1) ?_ (by omega)
    iterate 4 (refine ownsRow_setCell_below ?_ (by show w.heap.size < _; omega) _)
    exact h
  · have h := HU.out
    refine rebase (b := w.heap.size + 1) ?_ (by omega)
    iterate 4 (refine ownsRow_setCell_below ?_ (by show w.heap.size < _; omega) _)
    exact h
  · iterate 4 (refine Below.setCell ?_ (by simp) _)
    exact HBx.out

end Go.Proofs.Ytnenaponiahalaa.DrwM

namespace Go.Proofs.Ytnenaponiahalaa.VHel
open Go.RowKit Lb IntS MapS SpecB High
set_option linter.unusedSimpArgs false
set_option linter.unusedVariables false

set_option maxHeartbeats 1000000 in
theorem ints_same (a b : Option Addr) (cap cap' : Nat) (zs : List Int) (w : World) (hr : IRow w a zs) (hr' : IRow w b zs) (hl : zs.length ≤ maxLen) :
    Calls Try.prog 18 #[.slice a zs.length cap, .slice b zs.length cap'] w fun e w' => e = .returned (.bool true) ∧ Below w.heap.size w w' := by
  unfold maxLen at hl
  go_enter Try.func18, Try.ntmps18
  go_wp2
  go_loopw [5] (fun i wr => ∃ k : Nat, k ≤ zs.length ∧ i = .int .i64 k ∧ Still w wr) (fun i _ => zs.length - (intOf i).toNat)
  case atStart => exact ⟨0, Nat.zero_le _, rfl, Still.refl _⟩
  case round =>
    obtain ⟨k, hk, rfl, hst⟩ := hrel
    obtain ⟨n, rfl⟩ := hst
    by_cases hlt : k < zs.length
    · rcases hr with hr | ⟨b1, off1, rfl, hc1⟩
      · omega
      rcases hr' with hr' | ⟨b2, off2, rfl, hc2⟩
      · omega
      have g1 : w.cell? ⟨b1, off1 + k, none⟩ = some (.int .i64 (zAt zs k)) := hc1 k hlt
      have g2 : w.cell? ⟨b2, off2 + k, none⟩ = some (.int .i64 (zAt zs k)) := hc2 k hlt
      clear hc1 hc2
      go_wp2
      go_quiet (fail)
      go_wp2
      go_roundw
      case rel => exact ⟨k + 1, by omega, by go_num, ⟨_, rfl⟩⟩
      case measure => simp [intOf]; omega
    · go_wp2
      go_ret
      exact ⟨rfl, Still.below ⟨_, rfl⟩ _⟩

end Go.Proofs.Ytnenaponiahalaa.VHel

namespace Go.Proofs.Ytnenaponiahalaa.RouW
open Go.RowKit Lb Cur IntS MapS MapV SpecB CodM DrwM LtI RouM
set_option linter.unusedSimpArgs false
set_option linter.unusedVariables false

/-- A map in its box. -/
structure Bx (m : Mp) (a : Option Addr) (ca : Nat) (b : Option Addr) (cb B : Nat) (wx : World) : Prop where
  x : Blk wx B 26 #[.int .i64 m.W, .int .i64 m.H, .slice a m.R.length ca, .slice b m.C.length cb]
  r : IRow wx a m.R
  c : IRow wx b m.C
section
variable {m : Mp} {a b : Option Addr} {ca cb B : Nat} {w wx w' W : World}
theorem Bx.later (h : Bx m a ca b cb B wx) (hb : Below wx.heap.size wx w') : Bx m a ca b cb B w' := ⟨h.x.later hb, RowAt.below h.r hb, RowAt.below h.c hb⟩
theorem Bx.new (hr : IRow w a m.R) (hc : IRow w b m.C) : Bx m a ca b cb w.heap.size (w.alloc (.cells #[.int .i64 m.W, .int .i64 m.H, .slice a m.R.length ca, .slice b m.C.length cb] 26)) :=
  ⟨Blk.new _ _ _, RowAt.below hr ((Below.refl _ _).alloc (Nat.le_refl _) _), RowAt.below hc ((Below.refl _ _).alloc (Nat.le_refl _) _)⟩
theorem nxt (h : Below W.heap.size W w) (hb : Below w.heap.size w w') : Below W.heap.size W w' := h.trans (hb.mono h.size)
theorem al (h : Below W.heap.size W w) (o : Obj) : Below W.heap.size W (w.alloc o) := h.alloc h.size o
theorem own_le {base n cap : Nat} {a : Option Addr} {zs : List Int} (h : OwnI w base (.slice a n cap) zs) : zs.length ≤ cap := by
  unfold OwnI at h
  rcases h.2 with ⟨h1, h0⟩ | ⟨g', c', cur, hv, _, _, h3, _⟩
  · omega
  · obtain ⟨-, -, rfl⟩ := Value.slice.inj hv
    omega
theorem row_at {rb ro : Nat} {zs : List Int} (h : IRow w (some ⟨rb, ro, none⟩) zs) {j : Nat} (hj : j < zs.length) : w.cell? ⟨rb, ro + j, none⟩ = some (.int .i64 (zAt zs j)) := by
  rcases h with h | ⟨b, off, e, hc⟩
  · omega
  · cases e
    exact hc j hj
theorem row_ad {zs : List Int} (h : IRow w a zs) (hp : 0 < zs.length) : ∃ rb ro, a = some ⟨rb, ro, none⟩ := by
  rcases h with h | ⟨b, off, e, hc⟩
  · omega
  · exact ⟨b, off, e⟩
end

set_option maxRecDepth 100000 in
set_option maxHeartbeats 8000000 in
theorem law_any (W : World) (a : Option Addr) (n cap : Nat) (xs : Nat → Nat) (hc : Bytes W a n xs) :
    Calls Try.prog 3 #[.slice a n cap] W fun e w' => e = .returned (.bool true) ∧ Below W.heap.size W w' := by
  by_cases hbig : 65536 < n
  · have hbi : (65536 : Int) < (n : Int) := by omega
    go_enter Try.func3, Try.ntmps3
    go_wp2_with (go_at_call 14; go_in)
    go_ret
    exact ⟨rfl, Below.refl _ _⟩
  have HCo := Lib.hid (show ∀ w' : World, Below W.heap.size W w' → Bytes w' a n xs from fun w' h => hc.below h)
  have c1 := Lib.hid (best_draw a n cap xs W hc)
  have hbi : ¬ (65536 : Int) < (n : Int) := by omega
  clear hc hbig
  go_enter Try.func3, Try.ntmps3
  go_wp2_with (go_at_call 14; go_in)
  refine c1.out.mono ?_
  rintro e w1 ⟨v, p, q, rfl, ⟨m, ho, hR, hC⟩, hb1⟩
  obtain ⟨ar, cr, ac, cc, rfl, h1, h2, -⟩ := ho
  have hRm : m.R.length ≤ maxLen := by unfold maxLen; omega
  have hCm : m.C.length ≤ maxLen := by unfold maxLen; omega
  have WW := Lib.hid (al hb1 (.cells #[.int .i64 m.W, .int .i64 m.H, .slice ar m.R.length cr, .slice ac m.C.length cc] 26))
  have MM := Lib.hid (Bx.new (ca := cr) (cb := cc) (OwnI.row h1) (OwnI.row h2))
  clear hb1 h1 h2 c1 hR hC
  obtain ⟨zs, ok, t, hzl, hBI, hBS, hLI, hLS, hY⟩ := rou_both m p q hRm hCm
  have HBI := Lib.hid hBI
  have HBS := Lib.hid hBS
  have HLI := Lib.hid hLI
  have HLS := Lib.hid hLS
  have HY := Lib.hid hY
  have hzm : zs.length ≤ maxLen := by unfold maxLen; omega
  clear hBI hBS hLI hLS hY
  go_wp2_with fail
  refine (HBI.out ar ac cr cc _ MM.out.r MM.out.c).mono ?_
  rintro e wz ⟨v2, rfl, ho, hb⟩
  replace WW := Lib.hid (nxt WW.out hb)
  replace MM := Lib.hid (MM.out.later hb)
  obtain ⟨a2, c2, rfl, hr, -⟩ := OwnI.slice ho
  have hcap2 := own_le ho
  have RR := Lib.hid hr
  clear ho hr
  clear hb
  obtain ⟨p0, p1, p2, p3, -⟩ := MM.out.x.four
  go_wp2_with fail
  refine (HBS.out ar ac cr cc _ MM.out.r MM.out.c).mono ?_
  rintro e wz ⟨v3, rfl, ho, hb⟩
  replace WW := Lib.hid (nxt WW.out hb)
  replace MM := Lib.hid (MM.out.later hb)
  replace RR := Lib.hid (RowAt.below RR.out hb)
  obtain ⟨a3, c3, rfl, hr, -⟩ := OwnI.slice ho
  have SS := Lib.hid hr
  clear ho hr
  clear hb p0 p1 p2 p3
  have hne : (ok != ok) = false := by simp
  go_wp2_with fail
  refine (VHel.ints_same a2 a3 c2 c3 zs _ RR.out SS.out hzm).mono ?_
  rintro e wz ⟨rfl, hb⟩
  clear SS
  replace WW := Lib.hid (nxt WW.out hb)
  replace MM := Lib.hid (MM.out.later hb)
  replace RR := Lib.hid (RowAt.below RR.out hb)
  clear hb
  obtain ⟨p0, p1, p2, p3, -⟩ := MM.out.x.four
  go_wp2_with fail
  refine (HLI.out ar ac cr cc _ MM.out.r MM.out.c).mono ?_
  rintro e wz ⟨rfl, hb⟩
  replace WW := Lib.hid (nxt WW.out hb)
  replace MM := Lib.hid (MM.out.later hb)
  replace RR := Lib.hid (RowAt.below RR.out hb)
  clear hb p0 p1 p2 p3
  obtain ⟨p0, p1, p2, p3, -⟩ := MM.out.x.four
  go_wp2_with fail
  refine (HLS.out ar ac cr cc _ MM.out.r MM.out.c).mono ?_
  rintro e wz ⟨rfl, hb⟩
  replace WW := Lib.hid (nxt WW.out hb)
  replace MM := Lib.hid (MM.out.later hb)
  replace RR := Lib.hid (RowAt.below RR.out hb)
  clear hb p0 p1 p2 p3
  clear HBI HBS HLI HLS
  cases ok with
  | false =>
    clear HY MM RR hne
    have c9 := Lib.hid (rtime_draw a n cap xs _ (HCo.out _ WW.out))
    go_wp2_with fail
    refine c9.out.mono ?_
    rintro e wz ⟨v9, u9, ts, rfl, ⟨x9, ho, hR, hC⟩, hu, hul, hb⟩
    obtain ⟨a9, ca9, b9, cb9, rfl, h1, h2, -⟩ := ho
    have hR9 : x9.R.length ≤ maxLen := by unfold maxLen; omega
    have hC9 : x9.C.length ≤ maxLen := by unfold maxLen; omega
    obtain ⟨aa, cA, rfl, hr, -⟩ := OwnI.slice hu
    have hcapA := own_le hu
    obtain ⟨B9, hB9⟩ : ∃ B, wz.heap.size = B := ⟨_, rfl⟩
    replace WW := Lib.hid (al (nxt WW.out hb) (.cells #[.int .i64 x9.W, .int .i64 x9.H, .slice a9 x9.R.length ca9, .slice b9 x9.C.length cb9] 26))
    have MM9 := Lib.hid (show Bx x9 a9 ca9 b9 cb9 B9 (wz.alloc (.cells #[.int .i64 x9.W, .int .i64 x9.H, .slice a9 x9.R.length ca9, .slice b9 x9.C.length cb9] 26)) from hB9 ▸ Bx.new (ca := ca9) (cb := cb9) (OwnI.row h1) (OwnI.row h2))
    have RR9 := Lib.hid (show IRow (wz.alloc (.cells #[.int .i64 x9.W, .int .i64 x9.H, .slice a9 x9.R.length ca9, .slice b9 x9.C.length cb9] 26)) aa ts from RowAt.below hr ((Below.refl _ _).alloc (Nat.le_refl _) _))
    obtain ⟨rt9, rok, hI, hS, hF⟩ := time_both x9 ts (by omega) hR9 hC9
    have HI9 := Lib.hid hI
    have HS9 := Lib.hid hS
    have HF9 := Lib.hid hF
    clear hb h1 h2 c9 hR hC hu hr hI hS hF
    go_wp2_with fail
    refine (HI9.out a9 b9 aa ca9 cb9 cA _ hcapA MM9.out.r MM9.out.c RR9.out).mono ?_
    rintro e wz ⟨rfl, hb⟩
    replace WW := Lib.hid (nxt WW.out hb)
    replace MM9 := Lib.hid (MM9.out.later hb)
    replace RR9 := Lib.hid (RowAt.below RR9.out hb)
    clear hb
    obtain ⟨p0, p1, p2, p3, -⟩ := MM9.out.x.four
    go_wp2_with fail
    refine (HS9.out a9 b9 aa ca9 cb9 cA _ hcapA MM9.out.r MM9.out.c RR9.out).mono ?_
    rintro e wz ⟨rfl, hb⟩
    replace WW := Lib.hid (nxt WW.out hb)
    replace MM9 := Lib.hid (MM9.out.later hb)
    replace RR9 := Lib.hid (RowAt.below RR9.out hb)
    clear hb p0 p1 p2 p3
    have hr2 : (rok != rok) = false := by simp
    clear HI9 HS9 hB9
    cases rok with
    | false =>
      clear MM9 RR9 HF9 hr2 hul
      have c7 := Lib.hid (isroute_draw a n cap xs _ (HCo.out _ WW.out))
      go_wp2_with fail
      refine c7.out.mono ?_
      rintro e wz ⟨v7, u7, ws, rfl, ⟨x7, ho, hR, hC⟩, hu, hul, hb⟩
      obtain ⟨a7, ca7, b7, cb7, rfl, h1, h2, -⟩ := ho
      have hR7 : x7.R.length ≤ maxLen := by unfold maxLen; omega
      have hC7 : x7.C.length ≤ maxLen := by unfold maxLen; omega
      obtain ⟨a8, c8, rfl, hr, -⟩ := OwnI.slice hu
      have hcap8 := own_le hu
      replace WW := Lib.hid (al (nxt WW.out hb) (.cells #[.int .i64 x7.W, .int .i64 x7.H, .slice a7 x7.R.length ca7, .slice b7 x7.C.length cb7] 26))
      have MM7 := Lib.hid (Bx.new (ca := ca7) (cb := cb7) (OwnI.row h1) (OwnI.row h2))
      have RR7 := Lib.hid (show IRow (wz.alloc (.cells #[.int .i64 x7.W, .int .i64 x7.H, .slice a7 x7.R.length ca7, .slice b7 x7.C.length cb7] 26)) a8 ws from RowAt.below hr ((Below.refl _ _).alloc (Nat.le_refl _) _))
      obtain ⟨iy, iok, hI, hS⟩ := is_both x7 ws (by omega) hR7 hC7
      have HI7 := Lib.hid hI
      have HS7 := Lib.hid hS
      clear hb h1 h2 c7 hR hC hu hul hr hI hS
      go_wp2_with fail
      refine (HI7.out a7 b7 a8 ca7 cb7 c8 _ hcap8 MM7.out.r MM7.out.c RR7.out).mono ?_
      rintro e wz ⟨rfl, hb⟩
      replace WW := Lib.hid (nxt WW.out hb)
      replace MM7 := Lib.hid (MM7.out.later hb)
      replace RR7 := Lib.hid (RowAt.below RR7.out hb)
      clear hb
      obtain ⟨p0, p1, p2, p3, -⟩ := MM7.out.x.four
      go_wp2_with fail
      refine (HS7.out a7 b7 a8 ca7 cb7 c8 _ hcap8 MM7.out.r MM7.out.c RR7.out).mono ?_
      rintro e wz ⟨rfl, hb⟩
      replace WW := Lib.hid (nxt WW.out hb)
      replace MM7 := Lib.hid (MM7.out.later hb)
      replace RR7 := Lib.hid (RowAt.below RR7.out hb)
      clear hb p0 p1 p2 p3
      have hi1 : (iy != iy) = false := by simp
      have hi2 : (iok != iok) = false := by simp
      clear MM7 RR7 HI7 HS7
      have c5 := Lib.hid (rclimb_draw a n cap xs _ (HCo.out _ WW.out))
      go_wp2_with fail
      refine c5.out.mono ?_
      rintro e wz ⟨v5, u5, ys, rfl, ⟨x5, ho, hR, hC⟩, hu, hul, hb⟩
      obtain ⟨a5, ca5, b5, cb5, rfl, h1, h2, -⟩ := ho
      have hR5 : x5.R.length ≤ maxLen := by unfold maxLen; omega
      have hC5 : x5.C.length ≤ maxLen := by unfold maxLen; omega
      obtain ⟨a6, c6, rfl, hr, -⟩ := OwnI.slice hu
      have hcap6 := own_le hu
      replace WW := Lib.hid (al (nxt WW.out hb) (.cells #[.int .i64 x5.W, .int .i64 x5.H, .slice a5 x5.R.length ca5, .slice b5 x5.C.length cb5] 26))
      have MM5 := Lib.hid (Bx.new (ca := ca5) (cb := cb5) (OwnI.row h1) (OwnI.row h2))
      have RR5 := Lib.hid (show IRow (wz.alloc (.cells #[.int .i64 x5.W, .int .i64 x5.H, .slice a5 x5.R.length ca5, .slice b5 x5.C.length cb5] 26)) a6 ys from RowAt.below hr ((Below.refl _ _).alloc (Nat.le_refl _) _))
      obtain ⟨cn, cok, hcn, hI, hS⟩ := climb_both x5 ys (by omega) hR5 hC5
      have HI5 := Lib.hid hI
      have HS5 := Lib.hid hS
      clear hb h1 h2 c5 hR hC hu hul hr hI hS
      go_wp2_with fail
      refine (HI5.out a5 b5 a6 ca5 cb5 c6 _ hcap6 MM5.out.r MM5.out.c RR5.out).mono ?_
      rintro e wz ⟨rfl, hb⟩
      replace WW := Lib.hid (nxt WW.out hb)
      replace MM5 := Lib.hid (MM5.out.later hb)
      replace RR5 := Lib.hid (RowAt.below RR5.out hb)
      clear hb
      obtain ⟨p0, p1, p2, p3, -⟩ := MM5.out.x.four
      go_wp2_with fail
      refine (HS5.out a5 b5 a6 ca5 cb5 c6 _ hcap6 MM5.out.r MM5.out.c RR5.out).mono ?_
      rintro e wz ⟨rfl, hb⟩
      replace WW := Lib.hid (nxt WW.out hb)
      replace MM5 := Lib.hid (MM5.out.later hb)
      replace RR5 := Lib.hid (RowAt.below RR5.out hb)
      clear hb p0 p1 p2 p3
      have hce : (cok == cok) = true := by simp
      have hcp : decide (0 ≤ cn) = true := decide_eq_true hcn
      go_wp2
      go_ret
      exact ⟨by first | rfl | simp [hcn], WW.out⟩
    | true =>
      obtain ⟨hpos, sh, hsh, hL9⟩ := HF9.out rfl
      have HL9 := Lib.hid hL9
      have hgt : decide (rt9 < sh) = false := decide_eq_false (by omega)
      clear hL9 HF9
      rcases RR9.out with hz | ⟨rb, ro, rfl, hrc⟩
      · omega
      have d0 : _ = some (Value.int .i64 (zAt ts 0)) := hrc 0 hpos
      rw [Nat.add_zero] at d0
      have d1 : _ = some (Value.int .i64 (zAt ts (ts.length - 1))) := hrc (ts.length - 1) (by omega)
      obtain ⟨k1, hk1⟩ : ∃ k, ts.length - 1 = k := ⟨_, rfl⟩
      rw [hk1] at d1 HL9
      obtain ⟨e0, he0⟩ : ∃ z, zAt ts 0 = z := ⟨_, rfl⟩
      obtain ⟨e1, he1⟩ : ∃ z, zAt ts k1 = z := ⟨_, rfl⟩
      rw [he0] at d0 HL9
      rw [he1] at d1 HL9
      have hx0 : (0 : Int) < (ts.length : Int) := by omega
      have hx1 : ((ts.length : Int) - 1) = (k1 : Int) := by omega
      have hx2 : (k1 : Int) < (ts.length : Int) := by omega
      have hx3 : IntKind.i64.wrap (k1 : Int) = (k1 : Int) := IntWalk.i64_in _ (by omega)
      clear hrc he0 he1 hk1 RR9 hul
      obtain ⟨p0, p1, p2, p3, -⟩ := MM9.out.x.four
      go_upto_region 32 with (fail)
      replace WW := Lib.hid (nxt WW.out (Below.refl _ _).drew)
      replace MM9 := Lib.hid (MM9.out.later (Below.refl _ _).drew)
      have hL_d0 := World.block_lt_of_cell? _ _ d0
      have hL_d1 := World.block_lt_of_cell? _ _ d1
      refine wp_region_noPanic ?_
      refine wp_region_held_drew (S := (fun Wx : World => Wx.cell? ⟨B9, 0, none⟩ = some (.int .i64 x9.W) ∧ Wx.cell? ⟨B9, 1, none⟩ = some (.int .i64 x9.H) ∧ Wx.cell? ⟨B9, 2, none⟩ = some (.slice a9 x9.R.length ca9) ∧ Wx.cell? ⟨B9, 3, none⟩ = some (.slice b9 x9.C.length cb9) ∧ Wx.cell? ⟨rb, ro, none⟩ = some (.int .i64 e0) ∧ Wx.cell? ⟨rb, ro + k1, none⟩ = some (.int .i64 e1))) (by kernel_rfl) ⟨p0, p1, p2, p3, d0, d1⟩ (fun hHeld => ?_)
      refine wpAnyH_take (i := 0) (oi := _) (v := ?_) rfl (by kernel_rfl) (by kernel_rfl) (by kernel_rfl) (fun _ _ _ h => h) (Or.inl ⟨by rfl, ?_⟩) (by assumption) ?_; rotate_left; focus (intro W hSw; (try dsimp only at hSw); go_simp; (first | done | with_reducible rfl))
      (try simp only [List.getElem_toArray, List.getElem_cons_succ, List.getElem_cons_zero, Act.put, List.setIfInBounds_toArray, List.set_cons_zero, List.set_cons_succ])
      refine wpAnyH_take (i := 1) (oi := _) (v := ?_) rfl (by kernel_rfl) (by kernel_rfl) (by kernel_rfl) (fun _ _ _ h => h) (Or.inl ⟨by rfl, ?_⟩) (by assumption) ?_; rotate_left; focus (intro W hSw; (try dsimp only at hSw); go_simp; (first | done | with_reducible rfl))
      (try simp only [List.getElem_toArray, List.getElem_cons_succ, List.getElem_cons_zero, Act.put, List.setIfInBounds_toArray, List.set_cons_zero, List.set_cons_succ])
      refine wpAnyH_take (i := 2) (oi := _) (v := ?_) rfl (by kernel_rfl) (by kernel_rfl) (by kernel_rfl) (fun _ _ _ h => h) (Or.inl ⟨by rfl, ?_⟩) (by assumption) ?_; rotate_left; focus (intro W hSw; (try dsimp only at hSw); go_simp; (first | done | with_reducible rfl))
      (try simp only [List.getElem_toArray, List.getElem_cons_succ, List.getElem_cons_zero, Act.put, List.setIfInBounds_toArray, List.set_cons_zero, List.set_cons_succ])
      refine wpAnyH_take (i := 3) (oi := _) (v := ?_) rfl (by kernel_rfl) (by kernel_rfl) (by kernel_rfl) (fun _ _ _ h => h) (Or.inl ⟨by rfl, ?_⟩) (by assumption) ?_; rotate_left; focus (intro W hSw; (try dsimp only at hSw); go_simp; (first | done | with_reducible rfl))
      (try simp only [List.getElem_toArray, List.getElem_cons_succ, List.getElem_cons_zero, Act.put, List.setIfInBounds_toArray, List.set_cons_zero, List.set_cons_succ])
      refine wpAnyH_take (i := 4) (oi := _) (v := ?_) rfl (by kernel_rfl) (by kernel_rfl) (by kernel_rfl) (fun _ _ _ h => h) (Or.inl ⟨by rfl, ?_⟩) (by assumption) ?_; rotate_left; focus (intro W hSw; (try dsimp only at hSw); go_simp; (first | done | with_reducible rfl))
      (try simp only [List.getElem_toArray, List.getElem_cons_succ, List.getElem_cons_zero, Act.put, List.setIfInBounds_toArray, List.set_cons_zero, List.set_cons_succ])
      refine wpAnyH_take (i := 5) (oi := _) (v := ?_) rfl (by kernel_rfl) (by kernel_rfl) (by kernel_rfl) (fun _ _ _ h => h) (Or.inl ⟨by rfl, ?_⟩) (by assumption) ?_; rotate_left; focus (intro W hSw; (try dsimp only at hSw); go_simp; (first | done | with_reducible rfl))
      (try simp only [List.getElem_toArray, List.getElem_cons_succ, List.getElem_cons_zero, Act.put, List.setIfInBounds_toArray, List.set_cons_zero, List.set_cons_succ])
      refine wpAnyH_take (i := 6) (oi := _) (v := ?_) rfl (by kernel_rfl) (by kernel_rfl) (by kernel_rfl) (fun _ _ _ h => h) (Or.inl ⟨by rfl, ?_⟩) (by assumption) ?_; rotate_left; focus (intro W hSw; (try dsimp only at hSw); go_simp; (first | done | with_reducible rfl))
      (try simp only [List.getElem_toArray, List.getElem_cons_succ, List.getElem_cons_zero, Act.put, List.setIfInBounds_toArray, List.set_cons_zero, List.set_cons_succ])
      refine wpAnyH_take (i := 7) (oi := _) (v := ?_) rfl (by kernel_rfl) (by kernel_rfl) (by kernel_rfl) (fun _ _ _ h => h) (Or.inl ⟨by rfl, ?_⟩) (by assumption) ?_; rotate_left; focus (intro W hSw; (try dsimp only at hSw); go_simp; (first | done | with_reducible rfl))
      (try simp only [List.getElem_toArray, List.getElem_cons_succ, List.getElem_cons_zero, Act.put, List.setIfInBounds_toArray, List.set_cons_zero, List.set_cons_succ])
      refine wpAnyH_take (i := 8) (oi := _) (v := ?_) rfl (by kernel_rfl) (by kernel_rfl) (by kernel_rfl) (fun _ _ _ h => h) (Or.inl ⟨by rfl, ?_⟩) (by assumption) ?_; rotate_left; focus (intro W hSw; (try dsimp only at hSw); go_simp; (first | done | with_reducible rfl))
      (try simp only [List.getElem_toArray, List.getElem_cons_succ, List.getElem_cons_zero, Act.put, List.setIfInBounds_toArray, List.set_cons_zero, List.set_cons_succ])
      refine wpAnyH_take (i := 9) (oi := _) (v := ?_) rfl (by kernel_rfl) (by kernel_rfl) (by kernel_rfl) (fun _ _ _ h => h) (Or.inl ⟨by rfl, ?_⟩) (by assumption) ?_; rotate_left; focus (intro W hSw; (try dsimp only at hSw); go_simp; (first | done | with_reducible rfl))
      (try simp only [List.getElem_toArray, List.getElem_cons_succ, List.getElem_cons_zero, Act.put, List.setIfInBounds_toArray, List.set_cons_zero, List.set_cons_succ])
      refine wpAnyH_ready (rs := [10]) (by kernel_rfl) (by simp) ?_
      refine AllReadyH.cons (o := _) rfl (fun K hK => ?_) AllReadyH.nil
      go_simp
      go_at_call 19
      refine (HL9.out a9 b9 ca9 cb9 _ MM9.out.r MM9.out.c).mono ?_
      rintro e wz ⟨rfl, hb⟩
      obtain ⟨q0, q1, q2, q3, -⟩ := (MM9.out.later hb).x.four
      have g_d0 := (hb.cell hL_d0).trans d0
      have g_d1 := (hb.cell hL_d1).trans d1
      replace WW := Lib.hid (nxt WW.out hb)
      replace MM9 := Lib.hid (MM9.out.later hb)
      clear hb
      go_wp2_with fail
      refine hK.out _ _ ⟨q0, q1, q2, q3, g_d0, g_d1⟩ (fun hsA => ?_)
      clear hK K hHeld
      refine wpAnyH_take (i := 11) (oi := _) (v := ?_) rfl (by kernel_rfl) (by kernel_rfl) (by kernel_rfl) (fun _ _ _ h => h) (Or.inl ⟨by rfl, ?_⟩) (by assumption) ?_; rotate_left; focus (intro W hSw; (try dsimp only at hSw); go_simp; (first | done | with_reducible rfl))
      (try simp only [List.getElem_toArray, List.getElem_cons_succ, List.getElem_cons_zero, Act.put, List.setIfInBounds_toArray, List.set_cons_zero, List.set_cons_succ])
      refine wpAnyH_take (i := 12) (oi := _) (v := ?_) rfl (by kernel_rfl) (by kernel_rfl) (by kernel_rfl) (fun _ _ _ h => h) (Or.inl ⟨by rfl, ?_⟩) (by assumption) ?_; rotate_left; focus (intro W hSw; (try dsimp only at hSw); go_simp; (first | done | with_reducible rfl))
      (try simp only [List.getElem_toArray, List.getElem_cons_succ, List.getElem_cons_zero, Act.put, List.setIfInBounds_toArray, List.set_cons_zero, List.set_cons_succ])
      refine wpAnyH_take (i := 13) (oi := _) (v := ?_) rfl (by kernel_rfl) (by kernel_rfl) (by kernel_rfl) (fun _ _ _ h => h) (Or.inl ⟨by rfl, ?_⟩) (by assumption) ?_; rotate_left; focus (intro W hSw; (try dsimp only at hSw); go_simp; (first | done | with_reducible rfl))
      (try simp only [List.getElem_toArray, List.getElem_cons_succ, List.getElem_cons_zero, Act.put, List.setIfInBounds_toArray, List.set_cons_zero, List.set_cons_succ])
      refine wpAnyH_take (i := 14) (oi := _) (v := ?_) rfl (by kernel_rfl) (by kernel_rfl) (by kernel_rfl) (fun _ _ _ h => h) (Or.inl ⟨by rfl, ?_⟩) (by assumption) ?_; rotate_left; focus (intro W hSw; (try dsimp only at hSw); go_simp; (first | done | with_reducible rfl))
      (try simp only [List.getElem_toArray, List.getElem_cons_succ, List.getElem_cons_zero, Act.put, List.setIfInBounds_toArray, List.set_cons_zero, List.set_cons_succ])
      refine wpAnyH_take (i := 15) (oi := _) (v := ?_) rfl (by kernel_rfl) (by kernel_rfl) (by kernel_rfl) (fun _ _ _ h => h) (Or.inl ⟨by rfl, ?_⟩) (by assumption) ?_; rotate_left; focus (intro W hSw; (try dsimp only at hSw); go_simp; (first | done | with_reducible rfl))
      (try simp only [List.getElem_toArray, List.getElem_cons_succ, List.getElem_cons_zero, Act.put, List.setIfInBounds_toArray, List.set_cons_zero, List.set_cons_succ])
      refine wpAnyH_done (by kernel_rfl) ?_ _
      refine NoPanic.normal ?_
      (try simp only [List.getElem_toArray, List.getElem_cons_succ, List.getElem_cons_zero, Act.put, List.setIfInBounds_toArray, List.set_cons_zero, List.set_cons_succ])
      clear hsA q0 q1 q2 q3 g_d0 g_d1 p0 p1 p2 p3 d0 d1 hL_d0 hL_d1 MM9 HL9
      have c7 := Lib.hid (isroute_draw a n cap xs _ (HCo.out _ WW.out))
      go_wp2_with fail
      refine c7.out.mono ?_
      rintro e wz ⟨v7, u7, ws, rfl, ⟨x7, ho, hR, hC⟩, hu, hul, hb⟩
      obtain ⟨a7, ca7, b7, cb7, rfl, h1, h2, -⟩ := ho
      have hR7 : x7.R.length ≤ maxLen := by unfold maxLen; omega
      have hC7 : x7.C.length ≤ maxLen := by unfold maxLen; omega
      obtain ⟨a8, c8, rfl, hr, -⟩ := OwnI.slice hu
      have hcap8 := own_le hu
      replace WW := Lib.hid (al (nxt WW.out hb) (.cells #[.int .i64 x7.W, .int .i64 x7.H, .slice a7 x7.R.length ca7, .slice b7 x7.C.length cb7] 26))
      have MM7 := Lib.hid (Bx.new (ca := ca7) (cb := cb7) (OwnI.row h1) (OwnI.row h2))
      have RR7 := Lib.hid (show IRow (wz.alloc (.cells #[.int .i64 x7.W, .int .i64 x7.H, .slice a7 x7.R.length ca7, .slice b7 x7.C.length cb7] 26)) a8 ws from RowAt.below hr ((Below.refl _ _).alloc (Nat.le_refl _) _))
      obtain ⟨iy, iok, hI, hS⟩ := is_both x7 ws (by omega) hR7 hC7
      have HI7 := Lib.hid hI
      have HS7 := Lib.hid hS
      clear hb h1 h2 c7 hR hC hu hul hr hI hS
      go_wp2_with fail
      refine (HI7.out a7 b7 a8 ca7 cb7 c8 _ hcap8 MM7.out.r MM7.out.c RR7.out).mono ?_
      rintro e wz ⟨rfl, hb⟩
      replace WW := Lib.hid (nxt WW.out hb)
      replace MM7 := Lib.hid (MM7.out.later hb)
      replace RR7 := Lib.hid (RowAt.below RR7.out hb)
      clear hb
      obtain ⟨p0, p1, p2, p3, -⟩ := MM7.out.x.four
      go_wp2_with fail
      refine (HS7.out a7 b7 a8 ca7 cb7 c8 _ hcap8 MM7.out.r MM7.out.c RR7.out).mono ?_
      rintro e wz ⟨rfl, hb⟩
      replace WW := Lib.hid (nxt WW.out hb)
      replace MM7 := Lib.hid (MM7.out.later hb)
      replace RR7 := Lib.hid (RowAt.below RR7.out hb)
      clear hb p0 p1 p2 p3
      have hi1 : (iy != iy) = false := by simp
      have hi2 : (iok != iok) = false := by simp
      clear MM7 RR7 HI7 HS7
      have c5 := Lib.hid (rclimb_draw a n cap xs _ (HCo.out _ WW.out))
      go_wp2_with fail
      refine c5.out.mono ?_
      rintro e wz ⟨v5, u5, ys, rfl, ⟨x5, ho, hR, hC⟩, hu, hul, hb⟩
      obtain ⟨a5, ca5, b5, cb5, rfl, h1, h2, -⟩ := ho
      have hR5 : x5.R.length ≤ maxLen := by unfold maxLen; omega
      have hC5 : x5.C.length ≤ maxLen := by unfold maxLen; omega
      obtain ⟨a6, c6, rfl, hr, -⟩ := OwnI.slice hu
      have hcap6 := own_le hu
      replace WW := Lib.hid (al (nxt WW.out hb) (.cells #[.int .i64 x5.W, .int .i64 x5.H, .slice a5 x5.R.length ca5, .slice b5 x5.C.length cb5] 26))
      have MM5 := Lib.hid (Bx.new (ca := ca5) (cb := cb5) (OwnI.row h1) (OwnI.row h2))
      have RR5 := Lib.hid (show IRow (wz.alloc (.cells #[.int .i64 x5.W, .int .i64 x5.H, .slice a5 x5.R.length ca5, .slice b5 x5.C.length cb5] 26)) a6 ys from RowAt.below hr ((Below.refl _ _).alloc (Nat.le_refl _) _))
      obtain ⟨cn, cok, hcn, hI, hS⟩ := climb_both x5 ys (by omega) hR5 hC5
      have HI5 := Lib.hid hI
      have HS5 := Lib.hid hS
      clear hb h1 h2 c5 hR hC hu hul hr hI hS
      go_wp2_with fail
      refine (HI5.out a5 b5 a6 ca5 cb5 c6 _ hcap6 MM5.out.r MM5.out.c RR5.out).mono ?_
      rintro e wz ⟨rfl, hb⟩
      replace WW := Lib.hid (nxt WW.out hb)
      replace MM5 := Lib.hid (MM5.out.later hb)
      replace RR5 := Lib.hid (RowAt.below RR5.out hb)
      clear hb
      obtain ⟨p0, p1, p2, p3, -⟩ := MM5.out.x.four
      go_wp2_with fail
      refine (HS5.out a5 b5 a6 ca5 cb5 c6 _ hcap6 MM5.out.r MM5.out.c RR5.out).mono ?_
      rintro e wz ⟨rfl, hb⟩
      replace WW := Lib.hid (nxt WW.out hb)
      replace MM5 := Lib.hid (MM5.out.later hb)
      replace RR5 := Lib.hid (RowAt.below RR5.out hb)
      clear hb p0 p1 p2 p3
      have hce : (cok == cok) = true := by simp
      have hcp : decide (0 ≤ cn) = true := decide_eq_true hcn
      go_wp2
      go_ret
      exact ⟨by first | rfl | simp [hcn], WW.out⟩
  | true =>
    obtain ⟨hpos, hT, hI, hE⟩ := HY.out rfl
    have HT := Lib.hid hT
    have HI := Lib.hid hI
    have HE := Lib.hid hE
    clear HY hT hI hE
    obtain ⟨p0, p1, p2, p3, -⟩ := MM.out.x.four
    go_wp2_with fail
    refine (HT.out ar ac a2 cr cc c2 _ hcap2 MM.out.r MM.out.c RR.out).mono ?_
    rintro e wz ⟨rfl, hb⟩
    replace WW := Lib.hid (nxt WW.out hb)
    replace MM := Lib.hid (MM.out.later hb)
    replace RR := Lib.hid (RowAt.below RR.out hb)
    clear hb p0 p1 p2 p3
    obtain ⟨p0, p1, p2, p3, -⟩ := MM.out.x.four
    go_wp2_with fail
    refine (HI.out ar ac a2 cr cc c2 _ hcap2 MM.out.r MM.out.c RR.out).mono ?_
    rintro e wz ⟨rfl, hb⟩
    replace WW := Lib.hid (nxt WW.out hb)
    replace MM := Lib.hid (MM.out.later hb)
    replace RR := Lib.hid (RowAt.below RR.out hb)
    clear hb p0 p1 p2 p3
    clear HT HI
    obtain ⟨rb, ro, rfl⟩ := row_ad RR.out hpos
    obtain ⟨k, hk⟩ : ∃ k, zs.length / 2 = k := ⟨_, rfl⟩
    have hkl : k < zs.length := by omega
    obtain ⟨x, y, hx0, hx1, hy0, hy1, hxy, hA, hB, -⟩ := HE.out k hkl
    obtain ⟨e, he⟩ : ∃ z, zAt zs k = z := ⟨_, rfl⟩
    rw [he] at hA hB
    have HA := Lib.hid hA
    have HB := Lib.hid hB
    have HEq := Lib.hid he
    have hkd : ((zs.length : Int)).tdiv 2 = (k : Int) := by rw [← hk]; exact (Int.ofNat_tdiv _ 2).symm
    have hkw : IntKind.i64.wrap (k : Int) = (k : Int) := IntWalk.i64_in _ (by omega)
    have hk2 : (k : Int) < (zs.length : Int) := by omega
    have htw : IntKind.i64.wrap t = t := IntWalk.i64_in _ (by omega)
    clear hA hB he hk
    go_upto_region 16 with (fail)
    have d := row_at RR.out hkl
    rw [HEq.out] at d
    obtain ⟨p0, p1, p2, p3, -⟩ := MM.out.x.four
    replace WW := Lib.hid (nxt WW.out (Below.refl _ _).drew)
    replace MM := Lib.hid (MM.out.later (Below.refl _ _).drew)
    replace RR := Lib.hid (RowAt.below RR.out (Below.refl _ _).drew)
    have hL_d := World.block_lt_of_cell? _ _ d
    refine wp_region_noPanic ?_
    refine wp_region_held_drew (S := (fun Wx : World => Wx.cell? ⟨w1.heap.size, 0, none⟩ = some (.int .i64 m.W) ∧ Wx.cell? ⟨w1.heap.size, 1, none⟩ = some (.int .i64 m.H) ∧ Wx.cell? ⟨w1.heap.size, 2, none⟩ = some (.slice ar m.R.length cr) ∧ Wx.cell? ⟨w1.heap.size, 3, none⟩ = some (.slice ac m.C.length cc) ∧ Wx.cell? ⟨rb, ro + k, none⟩ = some (.int .i64 e))) (by kernel_rfl) ⟨p0, p1, p2, p3, d⟩ (fun hHeld => ?_)
    refine wpAnyH_take (i := 0) (oi := _) (v := ?_) rfl (by kernel_rfl) (by kernel_rfl) (by kernel_rfl) (fun _ _ _ h => h) (Or.inl ⟨by rfl, ?_⟩) (by assumption) ?_; rotate_left; focus (intro W hSw; (try dsimp only at hSw); go_simp; (first | done | with_reducible rfl))
    (try simp only [List.getElem_toArray, List.getElem_cons_succ, List.getElem_cons_zero, Act.put, List.setIfInBounds_toArray, List.set_cons_zero, List.set_cons_succ])
    refine wpAnyH_take (i := 1) (oi := _) (v := ?_) rfl (by kernel_rfl) (by kernel_rfl) (by kernel_rfl) (fun _ _ _ h => h) (Or.inl ⟨by rfl, ?_⟩) (by assumption) ?_; rotate_left; focus (intro W hSw; (try dsimp only at hSw); go_simp; (first | done | with_reducible rfl))
    (try simp only [List.getElem_toArray, List.getElem_cons_succ, List.getElem_cons_zero, Act.put, List.setIfInBounds_toArray, List.set_cons_zero, List.set_cons_succ])
    refine wpAnyH_take (i := 2) (oi := _) (v := ?_) rfl (by kernel_rfl) (by kernel_rfl) (by kernel_rfl) (fun _ _ _ h => h) (Or.inl ⟨by rfl, ?_⟩) (by assumption) ?_; rotate_left; focus (intro W hSw; (try dsimp only at hSw); go_simp; (first | done | with_reducible rfl))
    (try simp only [List.getElem_toArray, List.getElem_cons_succ, List.getElem_cons_zero, Act.put, List.setIfInBounds_toArray, List.set_cons_zero, List.set_cons_succ])
    refine wpAnyH_take (i := 3) (oi := _) (v := ?_) rfl (by kernel_rfl) (by kernel_rfl) (by kernel_rfl) (fun _ _ _ h => h) (Or.inl ⟨by rfl, ?_⟩) (by assumption) ?_; rotate_left; focus (intro W hSw; (try dsimp only at hSw); go_simp; (first | done | with_reducible rfl))
    (try simp only [List.getElem_toArray, List.getElem_cons_succ, List.getElem_cons_zero, Act.put, List.setIfInBounds_toArray, List.set_cons_zero, List.set_cons_succ])
    refine wpAnyH_take (i := 4) (oi := _) (v := ?_) rfl (by kernel_rfl) (by kernel_rfl) (by kernel_rfl) (fun _ _ _ h => h) (Or.inl ⟨by rfl, ?_⟩) (by assumption) ?_; rotate_left; focus (intro W hSw; (try dsimp only at hSw); go_simp; (first | done | with_reducible rfl))
    (try simp only [List.getElem_toArray, List.getElem_cons_succ, List.getElem_cons_zero, Act.put, List.setIfInBounds_toArray, List.set_cons_zero, List.set_cons_succ])
    refine wpAnyH_take (i := 5) (oi := _) (v := ?_) rfl (by kernel_rfl) (by kernel_rfl) (by kernel_rfl) (fun _ _ _ h => h) (Or.inl ⟨by rfl, ?_⟩) (by assumption) ?_; rotate_left; focus (intro W hSw; (try dsimp only at hSw); go_simp; (first | done | with_reducible rfl))
    (try simp only [List.getElem_toArray, List.getElem_cons_succ, List.getElem_cons_zero, Act.put, List.setIfInBounds_toArray, List.set_cons_zero, List.set_cons_succ])
    refine wpAnyH_ready (rs := [6]) (by kernel_rfl) (by simp) ?_
    refine AllReadyH.cons (o := _) rfl (fun K hK => ?_) AllReadyH.nil
    go_simp
    go_at_call 19
    refine (HA.out ar ac cr cc _ MM.out.r MM.out.c).mono ?_
    rintro e wz ⟨rfl, hb⟩
    obtain ⟨q0, q1, q2, q3, -⟩ := (MM.out.later hb).x.four
    have g_d := (hb.cell hL_d).trans d
    replace WW := Lib.hid (nxt WW.out hb)
    replace MM := Lib.hid (MM.out.later hb)
    replace RR := Lib.hid (RowAt.below RR.out hb)
    clear hb
    go_wp2_with fail
    refine hK.out _ _ ⟨q0, q1, q2, q3, g_d⟩ (fun hsA => ?_)
    clear hK K hHeld
    refine wpAnyH_take (i := 7) (oi := _) (v := ?_) rfl (by kernel_rfl) (by kernel_rfl) (by kernel_rfl) (fun _ _ _ h => h) (Or.inl ⟨by rfl, ?_⟩) (by assumption) ?_; rotate_left; focus (intro W hSw; (try dsimp only at hSw); go_simp; (first | done | with_reducible rfl))
    (try simp only [List.getElem_toArray, List.getElem_cons_succ, List.getElem_cons_zero, Act.put, List.setIfInBounds_toArray, List.set_cons_zero, List.set_cons_succ])
    refine wpAnyH_take (i := 8) (oi := _) (v := ?_) rfl (by kernel_rfl) (by kernel_rfl) (by kernel_rfl) (fun _ _ _ h => h) (Or.inl ⟨by rfl, ?_⟩) (by assumption) ?_; rotate_left; focus (intro W hSw; (try dsimp only at hSw); go_simp; (first | done | with_reducible rfl))
    (try simp only [List.getElem_toArray, List.getElem_cons_succ, List.getElem_cons_zero, Act.put, List.setIfInBounds_toArray, List.set_cons_zero, List.set_cons_succ])
    refine wpAnyH_take (i := 9) (oi := _) (v := ?_) rfl (by kernel_rfl) (by kernel_rfl) (by kernel_rfl) (fun _ _ _ h => h) (Or.inl ⟨by rfl, ?_⟩) (by assumption) ?_; rotate_left; focus (intro W hSw; (try dsimp only at hSw); go_simp; (first | done | with_reducible rfl))
    (try simp only [List.getElem_toArray, List.getElem_cons_succ, List.getElem_cons_zero, Act.put, List.setIfInBounds_toArray, List.set_cons_zero, List.set_cons_succ])
    refine wpAnyH_take (i := 10) (oi := _) (v := ?_) rfl (by kernel_rfl) (by kernel_rfl) (by kernel_rfl) (fun _ _ _ h => h) (Or.inl ⟨by rfl, ?_⟩) (by assumption) ?_; rotate_left; focus (intro W hSw; (try dsimp only at hSw); go_simp; (first | done | with_reducible rfl))
    (try simp only [List.getElem_toArray, List.getElem_cons_succ, List.getElem_cons_zero, Act.put, List.setIfInBounds_toArray, List.set_cons_zero, List.set_cons_succ])
    refine wpAnyH_take (i := 11) (oi := _) (v := ?_) rfl (by kernel_rfl) (by kernel_rfl) (by kernel_rfl) (fun _ _ _ h => h) (Or.inl ⟨by rfl, ?_⟩) (by assumption) ?_; rotate_left; focus (intro W hSw; (try dsimp only at hSw); go_simp; (first | done | with_reducible rfl))
    (try simp only [List.getElem_toArray, List.getElem_cons_succ, List.getElem_cons_zero, Act.put, List.setIfInBounds_toArray, List.set_cons_zero, List.set_cons_succ])
    refine wpAnyH_done (by kernel_rfl) ?_ _
    refine NoPanic.normal ?_
    (try simp only [List.getElem_toArray, List.getElem_cons_succ, List.getElem_cons_zero, Act.put, List.setIfInBounds_toArray, List.set_cons_zero, List.set_cons_succ])
    clear hsA q0 q1 q2 q3 g_d p0 p1 p2 p3 d hL_d HA
    go_upto_region 17 with (fail)
    have d := row_at RR.out hkl
    rw [HEq.out] at d
    obtain ⟨p0, p1, p2, p3, -⟩ := MM.out.x.four
    replace WW := Lib.hid (nxt WW.out (Below.refl _ _).drew)
    replace MM := Lib.hid (MM.out.later (Below.refl _ _).drew)
    replace RR := Lib.hid (RowAt.below RR.out (Below.refl _ _).drew)
    have hL_d := World.block_lt_of_cell? _ _ d
    refine wp_region_noPanic ?_
    refine wp_region_held_drew (S := (fun Wx : World => Wx.cell? ⟨w1.heap.size, 0, none⟩ = some (.int .i64 m.W) ∧ Wx.cell? ⟨w1.heap.size, 1, none⟩ = some (.int .i64 m.H) ∧ Wx.cell? ⟨w1.heap.size, 2, none⟩ = some (.slice ar m.R.length cr) ∧ Wx.cell? ⟨w1.heap.size, 3, none⟩ = some (.slice ac m.C.length cc) ∧ Wx.cell? ⟨rb, ro + k, none⟩ = some (.int .i64 e))) (by kernel_rfl) ⟨p0, p1, p2, p3, d⟩ (fun hHeld => ?_)
    refine wpAnyH_take (i := 0) (oi := _) (v := ?_) rfl (by kernel_rfl) (by kernel_rfl) (by kernel_rfl) (fun _ _ _ h => h) (Or.inl ⟨by rfl, ?_⟩) (by assumption) ?_; rotate_left; focus (intro W hSw; (try dsimp only at hSw); go_simp; (first | done | with_reducible rfl))
    (try simp only [List.getElem_toArray, List.getElem_cons_succ, List.getElem_cons_zero, Act.put, List.setIfInBounds_toArray, List.set_cons_zero, List.set_cons_succ])
    refine wpAnyH_take (i := 1) (oi := _) (v := ?_) rfl (by kernel_rfl) (by kernel_rfl) (by kernel_rfl) (fun _ _ _ h => h) (Or.inl ⟨by rfl, ?_⟩) (by assumption) ?_; rotate_left; focus (intro W hSw; (try dsimp only at hSw); go_simp; (first | done | with_reducible rfl))
    (try simp only [List.getElem_toArray, List.getElem_cons_succ, List.getElem_cons_zero, Act.put, List.setIfInBounds_toArray, List.set_cons_zero, List.set_cons_succ])
    refine wpAnyH_take (i := 2) (oi := _) (v := ?_) rfl (by kernel_rfl) (by kernel_rfl) (by kernel_rfl) (fun _ _ _ h => h) (Or.inl ⟨by rfl, ?_⟩) (by assumption) ?_; rotate_left; focus (intro W hSw; (try dsimp only at hSw); go_simp; (first | done | with_reducible rfl))
    (try simp only [List.getElem_toArray, List.getElem_cons_succ, List.getElem_cons_zero, Act.put, List.setIfInBounds_toArray, List.set_cons_zero, List.set_cons_succ])
    refine wpAnyH_take (i := 3) (oi := _) (v := ?_) rfl (by kernel_rfl) (by kernel_rfl) (by kernel_rfl) (fun _ _ _ h => h) (Or.inl ⟨by rfl, ?_⟩) (by assumption) ?_; rotate_left; focus (intro W hSw; (try dsimp only at hSw); go_simp; (first | done | with_reducible rfl))
    (try simp only [List.getElem_toArray, List.getElem_cons_succ, List.getElem_cons_zero, Act.put, List.setIfInBounds_toArray, List.set_cons_zero, List.set_cons_succ])
    refine wpAnyH_take (i := 4) (oi := _) (v := ?_) rfl (by kernel_rfl) (by kernel_rfl) (by kernel_rfl) (fun _ _ _ h => h) (Or.inl ⟨by rfl, ?_⟩) (by assumption) ?_; rotate_left; focus (intro W hSw; (try dsimp only at hSw); go_simp; (first | done | with_reducible rfl))
    (try simp only [List.getElem_toArray, List.getElem_cons_succ, List.getElem_cons_zero, Act.put, List.setIfInBounds_toArray, List.set_cons_zero, List.set_cons_succ])
    refine wpAnyH_take (i := 5) (oi := _) (v := ?_) rfl (by kernel_rfl) (by kernel_rfl) (by kernel_rfl) (fun _ _ _ h => h) (Or.inl ⟨by rfl, ?_⟩) (by assumption) ?_; rotate_left; focus (intro W hSw; (try dsimp only at hSw); go_simp; (first | done | with_reducible rfl))
    (try simp only [List.getElem_toArray, List.getElem_cons_succ, List.getElem_cons_zero, Act.put, List.setIfInBounds_toArray, List.set_cons_zero, List.set_cons_succ])
    refine wpAnyH_ready (rs := [6]) (by kernel_rfl) (by simp) ?_
    refine AllReadyH.cons (o := _) rfl (fun K hK => ?_) AllReadyH.nil
    go_simp
    go_at_call 19
    refine (HB.out ar ac cr cc _ MM.out.r MM.out.c).mono ?_
    rintro e wz ⟨rfl, hb⟩
    obtain ⟨q0, q1, q2, q3, -⟩ := (MM.out.later hb).x.four
    have g_d := (hb.cell hL_d).trans d
    replace WW := Lib.hid (nxt WW.out hb)
    replace MM := Lib.hid (MM.out.later hb)
    replace RR := Lib.hid (RowAt.below RR.out hb)
    clear hb
    go_wp2_with fail
    refine hK.out _ _ ⟨q0, q1, q2, q3, g_d⟩ (fun hsA => ?_)
    clear hK K hHeld
    refine wpAnyH_take (i := 7) (oi := _) (v := ?_) rfl (by kernel_rfl) (by kernel_rfl) (by kernel_rfl) (fun _ _ _ h => h) (Or.inl ⟨by rfl, ?_⟩) (by assumption) ?_; rotate_left; focus (intro W hSw; (try dsimp only at hSw); go_simp; (first | done | with_reducible rfl))
    (try simp only [List.getElem_toArray, List.getElem_cons_succ, List.getElem_cons_zero, Act.put, List.setIfInBounds_toArray, List.set_cons_zero, List.set_cons_succ])
    refine wpAnyH_take (i := 8) (oi := _) (v := ?_) rfl (by kernel_rfl) (by kernel_rfl) (by kernel_rfl) (fun _ _ _ h => h) (Or.inl ⟨by rfl, ?_⟩) (by assumption) ?_; rotate_left; focus (intro W hSw; (try dsimp only at hSw); go_simp; (first | done | with_reducible rfl))
    (try simp only [List.getElem_toArray, List.getElem_cons_succ, List.getElem_cons_zero, Act.put, List.setIfInBounds_toArray, List.set_cons_zero, List.set_cons_succ])
    refine wpAnyH_take (i := 9) (oi := _) (v := ?_) rfl (by kernel_rfl) (by kernel_rfl) (by kernel_rfl) (fun _ _ _ h => h) (Or.inl ⟨by rfl, ?_⟩) (by assumption) ?_; rotate_left; focus (intro W hSw; (try dsimp only at hSw); go_simp; (first | done | with_reducible rfl))
    (try simp only [List.getElem_toArray, List.getElem_cons_succ, List.getElem_cons_zero, Act.put, List.setIfInBounds_toArray, List.set_cons_zero, List.set_cons_succ])
    refine wpAnyH_take (i := 10) (oi := _) (v := ?_) rfl (by kernel_rfl) (by kernel_rfl) (by kernel_rfl) (fun _ _ _ h => h) (Or.inl ⟨by rfl, ?_⟩) (by assumption) ?_; rotate_left; focus (intro W hSw; (try dsimp only at hSw); go_simp; (first | done | with_reducible rfl))
    (try simp only [List.getElem_toArray, List.getElem_cons_succ, List.getElem_cons_zero, Act.put, List.setIfInBounds_toArray, List.set_cons_zero, List.set_cons_succ])
    refine wpAnyH_take (i := 11) (oi := _) (v := ?_) rfl (by kernel_rfl) (by kernel_rfl) (by kernel_rfl) (fun _ _ _ h => h) (Or.inl ⟨by rfl, ?_⟩) (by assumption) ?_; rotate_left; focus (intro W hSw; (try dsimp only at hSw); go_simp; (first | done | with_reducible rfl))
    (try simp only [List.getElem_toArray, List.getElem_cons_succ, List.getElem_cons_zero, Act.put, List.setIfInBounds_toArray, List.set_cons_zero, List.set_cons_succ])
    refine wpAnyH_done (by kernel_rfl) ?_ _
    refine NoPanic.normal ?_
    (try simp only [List.getElem_toArray, List.getElem_cons_succ, List.getElem_cons_zero, Act.put, List.setIfInBounds_toArray, List.set_cons_zero, List.set_cons_succ])
    clear hsA q0 q1 q2 q3 g_d p0 p1 p2 p3 d hL_d HB HEq
    go_wp2_with fail
    go_loopw [23] (fun i wr => ∃ j : Nat, j ≤ zs.length ∧ i = .int .i64 j ∧ Below W.heap.size W wr ∧ Bx m ar cr ac cc w1.heap.size wr ∧ IRow wr (some ⟨rb, ro, none⟩) zs) (fun i _ => zs.length - (intOf i).toNat)
    case atStart => exact ⟨0, Nat.zero_le _, rfl, WW.out, MM.out, RR.out⟩
    case round =>
      clear WW MM RR
      obtain ⟨j, hj, rfl, hW, hM, hR⟩ := hrel
      have WW := Lib.hid hW
      have MM := Lib.hid hM
      have RR := Lib.hid hR
      clear hW hM hR
      by_cases hlt : j < zs.length
      · obtain ⟨x', y', -, -, -, -, -, -, -, hC⟩ := HE.out j hlt
        obtain ⟨e', he'⟩ : ∃ z, zAt zs j = z := ⟨_, rfl⟩
        rw [he'] at hC
        have HC := Lib.hid hC
        have d := row_at RR.out hlt
        rw [he'] at d
        have hj2 : (j : Int) < (zs.length : Int) := by omega
        clear hC he' x' y' hkd hkw hk2 htw hxy
        obtain ⟨p0, p1, p2, p3, -⟩ := MM.out.x.four
        go_upto_region 23 with (fail)
        replace WW := Lib.hid (nxt WW.out (Below.refl _ _).drew)
        replace MM := Lib.hid (MM.out.later (Below.refl _ _).drew)
        replace RR := Lib.hid (RowAt.below RR.out (Below.refl _ _).drew)
        have hL_d := World.block_lt_of_cell? _ _ d
        refine wp_region_noPanic ?_
        refine wp_region_held_drew (S := (fun Wx : World => Wx.cell? ⟨w1.heap.size, 0, none⟩ = some (.int .i64 m.W) ∧ Wx.cell? ⟨w1.heap.size, 1, none⟩ = some (.int .i64 m.H) ∧ Wx.cell? ⟨w1.heap.size, 2, none⟩ = some (.slice ar m.R.length cr) ∧ Wx.cell? ⟨w1.heap.size, 3, none⟩ = some (.slice ac m.C.length cc) ∧ Wx.cell? ⟨rb, ro + j, none⟩ = some (.int .i64 e'))) (by kernel_rfl) ⟨p0, p1, p2, p3, d⟩ (fun hHeld => ?_)
        refine wpAnyH_take (i := 0) (oi := _) (v := ?_) rfl (by kernel_rfl) (by kernel_rfl) (by kernel_rfl) (fun _ _ _ h => h) (Or.inl ⟨by rfl, ?_⟩) (by assumption) ?_; rotate_left; focus (intro W hSw; (try dsimp only at hSw); go_simp; (first | done | with_reducible rfl))
        (try simp only [List.getElem_toArray, List.getElem_cons_succ, List.getElem_cons_zero, Act.put, List.setIfInBounds_toArray, List.set_cons_zero, List.set_cons_succ])
        refine wpAnyH_take (i := 1) (oi := _) (v := ?_) rfl (by kernel_rfl) (by kernel_rfl) (by kernel_rfl) (fun _ _ _ h => h) (Or.inl ⟨by rfl, ?_⟩) (by assumption) ?_; rotate_left; focus (intro W hSw; (try dsimp only at hSw); go_simp; (first | done | with_reducible rfl))
        (try simp only [List.getElem_toArray, List.getElem_cons_succ, List.getElem_cons_zero, Act.put, List.setIfInBounds_toArray, List.set_cons_zero, List.set_cons_succ])
        refine wpAnyH_take (i := 2) (oi := _) (v := ?_) rfl (by kernel_rfl) (by kernel_rfl) (by kernel_rfl) (fun _ _ _ h => h) (Or.inl ⟨by rfl, ?_⟩) (by assumption) ?_; rotate_left; focus (intro W hSw; (try dsimp only at hSw); go_simp; (first | done | with_reducible rfl))
        (try simp only [List.getElem_toArray, List.getElem_cons_succ, List.getElem_cons_zero, Act.put, List.setIfInBounds_toArray, List.set_cons_zero, List.set_cons_succ])
        refine wpAnyH_take (i := 3) (oi := _) (v := ?_) rfl (by kernel_rfl) (by kernel_rfl) (by kernel_rfl) (fun _ _ _ h => h) (Or.inl ⟨by rfl, ?_⟩) (by assumption) ?_; rotate_left; focus (intro W hSw; (try dsimp only at hSw); go_simp; (first | done | with_reducible rfl))
        (try simp only [List.getElem_toArray, List.getElem_cons_succ, List.getElem_cons_zero, Act.put, List.setIfInBounds_toArray, List.set_cons_zero, List.set_cons_succ])
        refine wpAnyH_take (i := 4) (oi := _) (v := ?_) rfl (by kernel_rfl) (by kernel_rfl) (by kernel_rfl) (fun _ _ _ h => h) (Or.inl ⟨by rfl, ?_⟩) (by assumption) ?_; rotate_left; focus (intro W hSw; (try dsimp only at hSw); go_simp; (first | done | with_reducible rfl))
        (try simp only [List.getElem_toArray, List.getElem_cons_succ, List.getElem_cons_zero, Act.put, List.setIfInBounds_toArray, List.set_cons_zero, List.set_cons_succ])
        refine wpAnyH_take (i := 5) (oi := _) (v := ?_) rfl (by kernel_rfl) (by kernel_rfl) (by kernel_rfl) (fun _ _ _ h => h) (Or.inl ⟨by rfl, ?_⟩) (by assumption) ?_; rotate_left; focus (intro W hSw; (try dsimp only at hSw); go_simp; (first | done | with_reducible rfl))
        (try simp only [List.getElem_toArray, List.getElem_cons_succ, List.getElem_cons_zero, Act.put, List.setIfInBounds_toArray, List.set_cons_zero, List.set_cons_succ])
        refine wpAnyH_take (i := 6) (oi := _) (v := ?_) rfl (by kernel_rfl) (by kernel_rfl) (by kernel_rfl) (fun _ _ _ h => h) (Or.inl ⟨by rfl, ?_⟩) (by assumption) ?_; rotate_left; focus (intro W hSw; (try dsimp only at hSw); go_simp; (first | done | with_reducible rfl))
        (try simp only [List.getElem_toArray, List.getElem_cons_succ, List.getElem_cons_zero, Act.put, List.setIfInBounds_toArray, List.set_cons_zero, List.set_cons_succ])
        refine wpAnyH_ready (rs := [7]) (by kernel_rfl) (by simp) ?_
        refine AllReadyH.cons (o := _) rfl (fun K hK => ?_) AllReadyH.nil
        go_simp
        go_at_call 23
        refine (HC.out ar ac cr cc _ MM.out.r MM.out.c).mono ?_
        rintro e wz ⟨rfl, hb⟩
        obtain ⟨q0, q1, q2, q3, -⟩ := (MM.out.later hb).x.four
        have g_d := (hb.cell hL_d).trans d
        replace WW := Lib.hid (nxt WW.out hb)
        replace MM := Lib.hid (MM.out.later hb)
        replace RR := Lib.hid (RowAt.below RR.out hb)
        clear hb
        go_wp2_with fail
        refine hK.out _ _ ⟨q0, q1, q2, q3, g_d⟩ (fun hsA => ?_)
        clear hK K hHeld
        refine wpAnyH_take (i := 8) (oi := _) (v := ?_) rfl (by kernel_rfl) (by kernel_rfl) (by kernel_rfl) (fun _ _ _ h => h) (Or.inl ⟨by rfl, ?_⟩) (by assumption) ?_; rotate_left; focus (intro W hSw; (try dsimp only at hSw); go_simp; (first | done | with_reducible rfl))
        (try simp only [List.getElem_toArray, List.getElem_cons_succ, List.getElem_cons_zero, Act.put, List.setIfInBounds_toArray, List.set_cons_zero, List.set_cons_succ])
        refine wpAnyH_take (i := 9) (oi := _) (v := ?_) rfl (by kernel_rfl) (by kernel_rfl) (by kernel_rfl) (fun _ _ _ h => h) (Or.inl ⟨by rfl, ?_⟩) (by assumption) ?_; rotate_left; focus (intro W hSw; (try dsimp only at hSw); go_simp; (first | done | with_reducible rfl))
        (try simp only [List.getElem_toArray, List.getElem_cons_succ, List.getElem_cons_zero, Act.put, List.setIfInBounds_toArray, List.set_cons_zero, List.set_cons_succ])
        refine wpAnyH_take (i := 10) (oi := _) (v := ?_) rfl (by kernel_rfl) (by kernel_rfl) (by kernel_rfl) (fun _ _ _ h => h) (Or.inl ⟨by rfl, ?_⟩) (by assumption) ?_; rotate_left; focus (intro W hSw; (try dsimp only at hSw); go_simp; (first | done | with_reducible rfl))
        (try simp only [List.getElem_toArray, List.getElem_cons_succ, List.getElem_cons_zero, Act.put, List.setIfInBounds_toArray, List.set_cons_zero, List.set_cons_succ])
        refine wpAnyH_take (i := 11) (oi := _) (v := ?_) rfl (by kernel_rfl) (by kernel_rfl) (by kernel_rfl) (fun _ _ _ h => h) (Or.inl ⟨by rfl, ?_⟩) (by assumption) ?_; rotate_left; focus (intro W hSw; (try dsimp only at hSw); go_simp; (first | done | with_reducible rfl))
        (try simp only [List.getElem_toArray, List.getElem_cons_succ, List.getElem_cons_zero, Act.put, List.setIfInBounds_toArray, List.set_cons_zero, List.set_cons_succ])
        refine wpAnyH_take (i := 12) (oi := _) (v := ?_) rfl (by kernel_rfl) (by kernel_rfl) (by kernel_rfl) (fun _ _ _ h => h) (Or.inl ⟨by rfl, ?_⟩) (by assumption) ?_; rotate_left; focus (intro W hSw; (try dsimp only at hSw); go_simp; (first | done | with_reducible rfl))
        (try simp only [List.getElem_toArray, List.getElem_cons_succ, List.getElem_cons_zero, Act.put, List.setIfInBounds_toArray, List.set_cons_zero, List.set_cons_succ])
        refine wpAnyH_done (by kernel_rfl) ?_ _
        refine NoPanic.normal ?_
        (try simp only [List.getElem_toArray, List.getElem_cons_succ, List.getElem_cons_zero, Act.put, List.setIfInBounds_toArray, List.set_cons_zero, List.set_cons_succ])
        clear hsA q0 q1 q2 q3 g_d p0 p1 p2 p3 d hL_d HC
        go_wp2
        go_roundw
        case rel => exact ⟨j + 1, by omega, by go_num, WW.out, MM.out, RR.out⟩
        case measure => simp [intOf]; omega
      · obtain rfl : j = zs.length := by omega
        clear HE MM RR hkd hkw hk2 htw hxy hne
        have c9 := Lib.hid (rtime_draw a n cap xs _ (HCo.out _ WW.out))
        go_wp2_with fail
        refine c9.out.mono ?_
        rintro e wz ⟨v9, u9, ts, rfl, ⟨x9, ho, hR, hC⟩, hu, hul, hb⟩
        obtain ⟨a9, ca9, b9, cb9, rfl, h1, h2, -⟩ := ho
        have hR9 : x9.R.length ≤ maxLen := by unfold maxLen; omega
        have hC9 : x9.C.length ≤ maxLen := by unfold maxLen; omega
        obtain ⟨aa, cA, rfl, hr, -⟩ := OwnI.slice hu
        have hcapA := own_le hu
        obtain ⟨B9, hB9⟩ : ∃ B, wz.heap.size = B := ⟨_, rfl⟩
        replace WW := Lib.hid (al (nxt WW.out hb) (.cells #[.int .i64 x9.W, .int .i64 x9.H, .slice a9 x9.R.length ca9, .slice b9 x9.C.length cb9] 26))
        have MM9 := Lib.hid (show Bx x9 a9 ca9 b9 cb9 B9 (wz.alloc (.cells #[.int .i64 x9.W, .int .i64 x9.H, .slice a9 x9.R.length ca9, .slice b9 x9.C.length cb9] 26)) from hB9 ▸ Bx.new (ca := ca9) (cb := cb9) (OwnI.row h1) (OwnI.row h2))
        have RR9 := Lib.hid (show IRow (wz.alloc (.cells #[.int .i64 x9.W, .int .i64 x9.H, .slice a9 x9.R.length ca9, .slice b9 x9.C.length cb9] 26)) aa ts from RowAt.below hr ((Below.refl _ _).alloc (Nat.le_refl _) _))
        obtain ⟨rt9, rok, hI, hS, hF⟩ := time_both x9 ts (by omega) hR9 hC9
        have HI9 := Lib.hid hI
        have HS9 := Lib.hid hS
        have HF9 := Lib.hid hF
        clear hb h1 h2 c9 hR hC hu hr hI hS hF
        go_wp2_with fail
        refine (HI9.out a9 b9 aa ca9 cb9 cA _ hcapA MM9.out.r MM9.out.c RR9.out).mono ?_
        rintro e wz ⟨rfl, hb⟩
        replace WW := Lib.hid (nxt WW.out hb)
        replace MM9 := Lib.hid (MM9.out.later hb)
        replace RR9 := Lib.hid (RowAt.below RR9.out hb)
        clear hb
        obtain ⟨p0, p1, p2, p3, -⟩ := MM9.out.x.four
        go_wp2_with fail
        refine (HS9.out a9 b9 aa ca9 cb9 cA _ hcapA MM9.out.r MM9.out.c RR9.out).mono ?_
        rintro e wz ⟨rfl, hb⟩
        replace WW := Lib.hid (nxt WW.out hb)
        replace MM9 := Lib.hid (MM9.out.later hb)
        replace RR9 := Lib.hid (RowAt.below RR9.out hb)
        clear hb p0 p1 p2 p3
        have hr2 : (rok != rok) = false := by simp
        clear HI9 HS9 hB9
        cases rok with
        | false =>
          clear MM9 RR9 HF9 hr2 hul
          have c7 := Lib.hid (isroute_draw a n cap xs _ (HCo.out _ WW.out))
          go_wp2_with fail
          refine c7.out.mono ?_
          rintro e wz ⟨v7, u7, ws, rfl, ⟨x7, ho, hR, hC⟩, hu, hul, hb⟩
          obtain ⟨a7, ca7, b7, cb7, rfl, h1, h2, -⟩ := ho
          have hR7 : x7.R.length ≤ maxLen := by unfold maxLen; omega
          have hC7 : x7.C.length ≤ maxLen := by unfold maxLen; omega
          obtain ⟨a8, c8, rfl, hr, -⟩ := OwnI.slice hu
          have hcap8 := own_le hu
          replace WW := Lib.hid (al (nxt WW.out hb) (.cells #[.int .i64 x7.W, .int .i64 x7.H, .slice a7 x7.R.length ca7, .slice b7 x7.C.length cb7] 26))
          have MM7 := Lib.hid (Bx.new (ca := ca7) (cb := cb7) (OwnI.row h1) (OwnI.row h2))
          have RR7 := Lib.hid (show IRow (wz.alloc (.cells #[.int .i64 x7.W, .int .i64 x7.H, .slice a7 x7.R.length ca7, .slice b7 x7.C.length cb7] 26)) a8 ws from RowAt.below hr ((Below.refl _ _).alloc (Nat.le_refl _) _))
          obtain ⟨iy, iok, hI, hS⟩ := is_both x7 ws (by omega) hR7 hC7
          have HI7 := Lib.hid hI
          have HS7 := Lib.hid hS
          clear hb h1 h2 c7 hR hC hu hul hr hI hS
          go_wp2_with fail
          refine (HI7.out a7 b7 a8 ca7 cb7 c8 _ hcap8 MM7.out.r MM7.out.c RR7.out).mono ?_
          rintro e wz ⟨rfl, hb⟩
          replace WW := Lib.hid (nxt WW.out hb)
          replace MM7 := Lib.hid (MM7.out.later hb)
          replace RR7 := Lib.hid (RowAt.below RR7.out hb)
          clear hb
          obtain ⟨p0, p1, p2, p3, -⟩ := MM7.out.x.four
          go_wp2_with fail
          refine (HS7.out a7 b7 a8 ca7 cb7 c8 _ hcap8 MM7.out.r MM7.out.c RR7.out).mono ?_
          rintro e wz ⟨rfl, hb⟩
          replace WW := Lib.hid (nxt WW.out hb)
          replace MM7 := Lib.hid (MM7.out.later hb)
          replace RR7 := Lib.hid (RowAt.below RR7.out hb)
          clear hb p0 p1 p2 p3
          have hi1 : (iy != iy) = false := by simp
          have hi2 : (iok != iok) = false := by simp
          clear MM7 RR7 HI7 HS7
          have c5 := Lib.hid (rclimb_draw a n cap xs _ (HCo.out _ WW.out))
          go_wp2_with fail
          refine c5.out.mono ?_
          rintro e wz ⟨v5, u5, ys, rfl, ⟨x5, ho, hR, hC⟩, hu, hul, hb⟩
          obtain ⟨a5, ca5, b5, cb5, rfl, h1, h2, -⟩ := ho
          have hR5 : x5.R.length ≤ maxLen := by unfold maxLen; omega
          have hC5 : x5.C.length ≤ maxLen := by unfold maxLen; omega
          obtain ⟨a6, c6, rfl, hr, -⟩ := OwnI.slice hu
          have hcap6 := own_le hu
          replace WW := Lib.hid (al (nxt WW.out hb) (.cells #[.int .i64 x5.W, .int .i64 x5.H, .slice a5 x5.R.length ca5, .slice b5 x5.C.length cb5] 26))
          have MM5 := Lib.hid (Bx.new (ca := ca5) (cb := cb5) (OwnI.row h1) (OwnI.row h2))
          have RR5 := Lib.hid (show IRow (wz.alloc (.cells #[.int .i64 x5.W, .int .i64 x5.H, .slice a5 x5.R.length ca5, .slice b5 x5.C.length cb5] 26)) a6 ys from RowAt.below hr ((Below.refl _ _).alloc (Nat.le_refl _) _))
          obtain ⟨cn, cok, hcn, hI, hS⟩ := climb_both x5 ys (by omega) hR5 hC5
          have HI5 := Lib.hid hI
          have HS5 := Lib.hid hS
          clear hb h1 h2 c5 hR hC hu hul hr hI hS
          go_wp2_with fail
          refine (HI5.out a5 b5 a6 ca5 cb5 c6 _ hcap6 MM5.out.r MM5.out.c RR5.out).mono ?_
          rintro e wz ⟨rfl, hb⟩
          replace WW := Lib.hid (nxt WW.out hb)
          replace MM5 := Lib.hid (MM5.out.later hb)
          replace RR5 := Lib.hid (RowAt.below RR5.out hb)
          clear hb
          obtain ⟨p0, p1, p2, p3, -⟩ := MM5.out.x.four
          go_wp2_with fail
          refine (HS5.out a5 b5 a6 ca5 cb5 c6 _ hcap6 MM5.out.r MM5.out.c RR5.out).mono ?_
          rintro e wz ⟨rfl, hb⟩
          replace WW := Lib.hid (nxt WW.out hb)
          replace MM5 := Lib.hid (MM5.out.later hb)
          replace RR5 := Lib.hid (RowAt.below RR5.out hb)
          clear hb p0 p1 p2 p3
          have hce : (cok == cok) = true := by simp
          have hcp : decide (0 ≤ cn) = true := decide_eq_true hcn
          go_wp2
          go_ret
          exact ⟨by first | rfl | simp [hcn], WW.out⟩
        | true =>
          obtain ⟨hpos, sh, hsh, hL9⟩ := HF9.out rfl
          have HL9 := Lib.hid hL9
          have hgt : decide (rt9 < sh) = false := decide_eq_false (by omega)
          clear hL9 HF9
          rcases RR9.out with hz | ⟨rb, ro, rfl, hrc⟩
          · omega
          have d0 : _ = some (Value.int .i64 (zAt ts 0)) := hrc 0 hpos
          rw [Nat.add_zero] at d0
          have d1 : _ = some (Value.int .i64 (zAt ts (ts.length - 1))) := hrc (ts.length - 1) (by omega)
          obtain ⟨k1, hk1⟩ : ∃ k, ts.length - 1 = k := ⟨_, rfl⟩
          rw [hk1] at d1 HL9
          obtain ⟨e0, he0⟩ : ∃ z, zAt ts 0 = z := ⟨_, rfl⟩
          obtain ⟨e1, he1⟩ : ∃ z, zAt ts k1 = z := ⟨_, rfl⟩
          rw [he0] at d0 HL9
          rw [he1] at d1 HL9
          have hx0 : (0 : Int) < (ts.length : Int) := by omega
          have hx1 : ((ts.length : Int) - 1) = (k1 : Int) := by omega
          have hx2 : (k1 : Int) < (ts.length : Int) := by omega
          have hx3 : IntKind.i64.wrap (k1 : Int) = (k1 : Int) := IntWalk.i64_in _ (by omega)
          clear hrc he0 he1 hk1 RR9 hul
          obtain ⟨p0, p1, p2, p3, -⟩ := MM9.out.x.four
          go_upto_region 32 with (fail)
          replace WW := Lib.hid (nxt WW.out (Below.refl _ _).drew)
          replace MM9 := Lib.hid (MM9.out.later (Below.refl _ _).drew)
          have hL_d0 := World.block_lt_of_cell? _ _ d0
          have hL_d1 := World.block_lt_of_cell? _ _ d1
          refine wp_region_noPanic ?_
          refine wp_region_held_drew (S := (fun Wx : World => Wx.cell? ⟨B9, 0, none⟩ = some (.int .i64 x9.W) ∧ Wx.cell? ⟨B9, 1, none⟩ = some (.int .i64 x9.H) ∧ Wx.cell? ⟨B9, 2, none⟩ = some (.slice a9 x9.R.length ca9) ∧ Wx.cell? ⟨B9, 3, none⟩ = some (.slice b9 x9.C.length cb9) ∧ Wx.cell? ⟨rb, ro, none⟩ = some (.int .i64 e0) ∧ Wx.cell? ⟨rb, ro + k1, none⟩ = some (.int .i64 e1))) (by kernel_rfl) ⟨p0, p1, p2, p3, d0, d1⟩ (fun hHeld => ?_)
          refine wpAnyH_take (i := 0) (oi := _) (v := ?_) rfl (by kernel_rfl) (by kernel_rfl) (by kernel_rfl) (fun _ _ _ h => h) (Or.inl ⟨by rfl, ?_⟩) (by assumption) ?_; rotate_left; focus (intro W hSw; (try dsimp only at hSw); go_simp; (first | done | with_reducible rfl))
          (try simp only [List.getElem_toArray, List.getElem_cons_succ, List.getElem_cons_zero, Act.put, List.setIfInBounds_toArray, List.set_cons_zero, List.set_cons_succ])
          refine wpAnyH_take (i := 1) (oi := _) (v := ?_) rfl (by kernel_rfl) (by kernel_rfl) (by kernel_rfl) (fun _ _ _ h => h) (Or.inl ⟨by rfl, ?_⟩) (by assumption) ?_; rotate_left; focus (intro W hSw; (try dsimp only at hSw); go_simp; (first | done | with_reducible rfl))
          (try simp only [List.getElem_toArray, List.getElem_cons_succ, List.getElem_cons_zero, Act.put, List.setIfInBounds_toArray, List.set_cons_zero, List.set_cons_succ])
          refine wpAnyH_take (i := 2) (oi := _) (v := ?_) rfl (by kernel_rfl) (by kernel_rfl) (by kernel_rfl) (fun _ _ _ h => h) (Or.inl ⟨by rfl, ?_⟩) (by assumption) ?_; rotate_left; focus (intro W hSw; (try dsimp only at hSw); go_simp; (first | done | with_reducible rfl))
          (try simp only [List.getElem_toArray, List.getElem_cons_succ, List.getElem_cons_zero, Act.put, List.setIfInBounds_toArray, List.set_cons_zero, List.set_cons_succ])
          refine wpAnyH_take (i := 3) (oi := _) (v := ?_) rfl (by kernel_rfl) (by kernel_rfl) (by kernel_rfl) (fun _ _ _ h => h) (Or.inl ⟨by rfl, ?_⟩) (by assumption) ?_; rotate_left; focus (intro W hSw; (try dsimp only at hSw); go_simp; (first | done | with_reducible rfl))
          (try simp only [List.getElem_toArray, List.getElem_cons_succ, List.getElem_cons_zero, Act.put, List.setIfInBounds_toArray, List.set_cons_zero, List.set_cons_succ])
          refine wpAnyH_take (i := 4) (oi := _) (v := ?_) rfl (by kernel_rfl) (by kernel_rfl) (by kernel_rfl) (fun _ _ _ h => h) (Or.inl ⟨by rfl, ?_⟩) (by assumption) ?_; rotate_left; focus (intro W hSw; (try dsimp only at hSw); go_simp; (first | done | with_reducible rfl))
          (try simp only [List.getElem_toArray, List.getElem_cons_succ, List.getElem_cons_zero, Act.put, List.setIfInBounds_toArray, List.set_cons_zero, List.set_cons_succ])
          refine wpAnyH_take (i := 5) (oi := _) (v := ?_) rfl (by kernel_rfl) (by kernel_rfl) (by kernel_rfl) (fun _ _ _ h => h) (Or.inl ⟨by rfl, ?_⟩) (by assumption) ?_; rotate_left; focus (intro W hSw; (try dsimp only at hSw); go_simp; (first | done | with_reducible rfl))
          (try simp only [List.getElem_toArray, List.getElem_cons_succ, List.getElem_cons_zero, Act.put, List.setIfInBounds_toArray, List.set_cons_zero, List.set_cons_succ])
          refine wpAnyH_take (i := 6) (oi := _) (v := ?_) rfl (by kernel_rfl) (by kernel_rfl) (by kernel_rfl) (fun _ _ _ h => h) (Or.inl ⟨by rfl, ?_⟩) (by assumption) ?_; rotate_left; focus (intro W hSw; (try dsimp only at hSw); go_simp; (first | done | with_reducible rfl))
          (try simp only [List.getElem_toArray, List.getElem_cons_succ, List.getElem_cons_zero, Act.put, List.setIfInBounds_toArray, List.set_cons_zero, List.set_cons_succ])
          refine wpAnyH_take (i := 7) (oi := _) (v := ?_) rfl (by kernel_rfl) (by kernel_rfl) (by kernel_rfl) (fun _ _ _ h => h) (Or.inl ⟨by rfl, ?_⟩) (by assumption) ?_; rotate_left; focus (intro W hSw; (try dsimp only at hSw); go_simp; (first | done | with_reducible rfl))
          (try simp only [List.getElem_toArray, List.getElem_cons_succ, List.getElem_cons_zero, Act.put, List.setIfInBounds_toArray, List.set_cons_zero, List.set_cons_succ])
          refine wpAnyH_take (i := 8) (oi := _) (v := ?_) rfl (by kernel_rfl) (by kernel_rfl) (by kernel_rfl) (fun _ _ _ h => h) (Or.inl ⟨by rfl, ?_⟩) (by assumption) ?_; rotate_left; focus (intro W hSw; (try dsimp only at hSw); go_simp; (first | done | with_reducible rfl))
          (try simp only [List.getElem_toArray, List.getElem_cons_succ, List.getElem_cons_zero, Act.put, List.setIfInBounds_toArray, List.set_cons_zero, List.set_cons_succ])
          refine wpAnyH_take (i := 9) (oi := _) (v := ?_) rfl (by kernel_rfl) (by kernel_rfl) (by kernel_rfl) (fun _ _ _ h => h) (Or.inl ⟨by rfl, ?_⟩) (by assumption) ?_; rotate_left; focus (intro W hSw; (try dsimp only at hSw); go_simp; (first | done | with_reducible rfl))
          (try simp only [List.getElem_toArray, List.getElem_cons_succ, List.getElem_cons_zero, Act.put, List.setIfInBounds_toArray, List.set_cons_zero, List.set_cons_succ])
          refine wpAnyH_ready (rs := [10]) (by kernel_rfl) (by simp) ?_
          refine AllReadyH.cons (o := _) rfl (fun K hK => ?_) AllReadyH.nil
          go_simp
          go_at_call 19
          refine (HL9.out a9 b9 ca9 cb9 _ MM9.out.r MM9.out.c).mono ?_
          rintro e wz ⟨rfl, hb⟩
          obtain ⟨q0, q1, q2, q3, -⟩ := (MM9.out.later hb).x.four
          have g_d0 := (hb.cell hL_d0).trans d0
          have g_d1 := (hb.cell hL_d1).trans d1
          replace WW := Lib.hid (nxt WW.out hb)
          replace MM9 := Lib.hid (MM9.out.later hb)
          clear hb
          go_wp2_with fail
          refine hK.out _ _ ⟨q0, q1, q2, q3, g_d0, g_d1⟩ (fun hsA => ?_)
          clear hK K hHeld
          refine wpAnyH_take (i := 11) (oi := _) (v := ?_) rfl (by kernel_rfl) (by kernel_rfl) (by kernel_rfl) (fun _ _ _ h => h) (Or.inl ⟨by rfl, ?_⟩) (by assumption) ?_; rotate_left; focus (intro W hSw; (try dsimp only at hSw); go_simp; (first | done | with_reducible rfl))
          (try simp only [List.getElem_toArray, List.getElem_cons_succ, List.getElem_cons_zero, Act.put, List.setIfInBounds_toArray, List.set_cons_zero, List.set_cons_succ])
          refine wpAnyH_take (i := 12) (oi := _) (v := ?_) rfl (by kernel_rfl) (by kernel_rfl) (by kernel_rfl) (fun _ _ _ h => h) (Or.inl ⟨by rfl, ?_⟩) (by assumption) ?_; rotate_left; focus (intro W hSw; (try dsimp only at hSw); go_simp; (first | done | with_reducible rfl))
          (try simp only [List.getElem_toArray, List.getElem_cons_succ, List.getElem_cons_zero, Act.put, List.setIfInBounds_toArray, List.set_cons_zero, List.set_cons_succ])
          refine wpAnyH_take (i := 13) (oi := _) (v := ?_) rfl (by kernel_rfl) (by kernel_rfl) (by kernel_rfl) (fun _ _ _ h => h) (Or.inl ⟨by rfl, ?_⟩) (by assumption) ?_; rotate_left; focus (intro W hSw; (try dsimp only at hSw); go_simp; (first | done | with_reducible rfl))
          (try simp only [List.getElem_toArray, List.getElem_cons_succ, List.getElem_cons_zero, Act.put, List.setIfInBounds_toArray, List.set_cons_zero, List.set_cons_succ])
          refine wpAnyH_take (i := 14) (oi := _) (v := ?_) rfl (by kernel_rfl) (by kernel_rfl) (by kernel_rfl) (fun _ _ _ h => h) (Or.inl ⟨by rfl, ?_⟩) (by assumption) ?_; rotate_left; focus (intro W hSw; (try dsimp only at hSw); go_simp; (first | done | with_reducible rfl))
          (try simp only [List.getElem_toArray, List.getElem_cons_succ, List.getElem_cons_zero, Act.put, List.setIfInBounds_toArray, List.set_cons_zero, List.set_cons_succ])
          refine wpAnyH_take (i := 15) (oi := _) (v := ?_) rfl (by kernel_rfl) (by kernel_rfl) (by kernel_rfl) (fun _ _ _ h => h) (Or.inl ⟨by rfl, ?_⟩) (by assumption) ?_; rotate_left; focus (intro W hSw; (try dsimp only at hSw); go_simp; (first | done | with_reducible rfl))
          (try simp only [List.getElem_toArray, List.getElem_cons_succ, List.getElem_cons_zero, Act.put, List.setIfInBounds_toArray, List.set_cons_zero, List.set_cons_succ])
          refine wpAnyH_done (by kernel_rfl) ?_ _
          refine NoPanic.normal ?_
          (try simp only [List.getElem_toArray, List.getElem_cons_succ, List.getElem_cons_zero, Act.put, List.setIfInBounds_toArray, List.set_cons_zero, List.set_cons_succ])
          clear hsA q0 q1 q2 q3 g_d0 g_d1 p0 p1 p2 p3 d0 d1 hL_d0 hL_d1 MM9 HL9
          have c7 := Lib.hid (isroute_draw a n cap xs _ (HCo.out _ WW.out))
          go_wp2_with fail
          refine c7.out.mono ?_
          rintro e wz ⟨v7, u7, ws, rfl, ⟨x7, ho, hR, hC⟩, hu, hul, hb⟩
          obtain ⟨a7, ca7, b7, cb7, rfl, h1, h2, -⟩ := ho
          have hR7 : x7.R.length ≤ maxLen := by unfold maxLen; omega
          have hC7 : x7.C.length ≤ maxLen := by unfold maxLen; omega
          obtain ⟨a8, c8, rfl, hr, -⟩ := OwnI.slice hu
          have hcap8 := own_le hu
          replace WW := Lib.hid (al (nxt WW.out hb) (.cells #[.int .i64 x7.W, .int .i64 x7.H, .slice a7 x7.R.length ca7, .slice b7 x7.C.length cb7] 26))
          have MM7 := Lib.hid (Bx.new (ca := ca7) (cb := cb7) (OwnI.row h1) (OwnI.row h2))
          have RR7 := Lib.hid (show IRow (wz.alloc (.cells #[.int .i64 x7.W, .int .i64 x7.H, .slice a7 x7.R.length ca7, .slice b7 x7.C.length cb7] 26)) a8 ws from RowAt.below hr ((Below.refl _ _).alloc (Nat.le_refl _) _))
          obtain ⟨iy, iok, hI, hS⟩ := is_both x7 ws (by omega) hR7 hC7
          have HI7 := Lib.hid hI
          have HS7 := Lib.hid hS
          clear hb h1 h2 c7 hR hC hu hul hr hI hS
          go_wp2_with fail
          refine (HI7.out a7 b7 a8 ca7 cb7 c8 _ hcap8 MM7.out.r MM7.out.c RR7.out).mono ?_
          rintro e wz ⟨rfl, hb⟩
          replace WW := Lib.hid (nxt WW.out hb)
          replace MM7 := Lib.hid (MM7.out.later hb)
          replace RR7 := Lib.hid (RowAt.below RR7.out hb)
          clear hb
          obtain ⟨p0, p1, p2, p3, -⟩ := MM7.out.x.four
          go_wp2_with fail
          refine (HS7.out a7 b7 a8 ca7 cb7 c8 _ hcap8 MM7.out.r MM7.out.c RR7.out).mono ?_
          rintro e wz ⟨rfl, hb⟩
          replace WW := Lib.hid (nxt WW.out hb)
          replace MM7 := Lib.hid (MM7.out.later hb)
          replace RR7 := Lib.hid (RowAt.below RR7.out hb)
          clear hb p0 p1 p2 p3
          have hi1 : (iy != iy) = false := by simp
          have hi2 : (iok != iok) = false := by simp
          clear MM7 RR7 HI7 HS7
          have c5 := Lib.hid (rclimb_draw a n cap xs _ (HCo.out _ WW.out))
          go_wp2_with fail
          refine c5.out.mono ?_
          rintro e wz ⟨v5, u5, ys, rfl, ⟨x5, ho, hR, hC⟩, hu, hul, hb⟩
          obtain ⟨a5, ca5, b5, cb5, rfl, h1, h2, -⟩ := ho
          have hR5 : x5.R.length ≤ maxLen := by unfold maxLen; omega
          have hC5 : x5.C.length ≤ maxLen := by unfold maxLen; omega
          obtain ⟨a6, c6, rfl, hr, -⟩ := OwnI.slice hu
          have hcap6 := own_le hu
          replace WW := Lib.hid (al (nxt WW.out hb) (.cells #[.int .i64 x5.W, .int .i64 x5.H, .slice a5 x5.R.length ca5, .slice b5 x5.C.length cb5] 26))
          have MM5 := Lib.hid (Bx.new (ca := ca5) (cb := cb5) (OwnI.row h1) (OwnI.row h2))
          have RR5 := Lib.hid (show IRow (wz.alloc (.cells #[.int .i64 x5.W, .int .i64 x5.H, .slice a5 x5.R.length ca5, .slice b5 x5.C.length cb5] 26)) a6 ys from RowAt.below hr ((Below.refl _ _).alloc (Nat.le_refl _) _))
          obtain ⟨cn, cok, hcn, hI, hS⟩ := climb_both x5 ys (by omega) hR5 hC5
          have HI5 := Lib.hid hI
          have HS5 := Lib.hid hS
          clear hb h1 h2 c5 hR hC hu hul hr hI hS
          go_wp2_with fail
          refine (HI5.out a5 b5 a6 ca5 cb5 c6 _ hcap6 MM5.out.r MM5.out.c RR5.out).mono ?_
          rintro e wz ⟨rfl, hb⟩
          replace WW := Lib.hid (nxt WW.out hb)
          replace MM5 := Lib.hid (MM5.out.later hb)
          replace RR5 := Lib.hid (RowAt.below RR5.out hb)
          clear hb
          obtain ⟨p0, p1, p2, p3, -⟩ := MM5.out.x.four
          go_wp2_with fail
          refine (HS5.out a5 b5 a6 ca5 cb5 c6 _ hcap6 MM5.out.r MM5.out.c RR5.out).mono ?_
          rintro e wz ⟨rfl, hb⟩
          replace WW := Lib.hid (nxt WW.out hb)
          replace MM5 := Lib.hid (MM5.out.later hb)
          replace RR5 := Lib.hid (RowAt.below RR5.out hb)
          clear hb p0 p1 p2 p3
          have hce : (cok == cok) = true := by simp
          have hcp : decide (0 ≤ cn) = true := decide_eq_true hcn
          go_wp2
          go_ret
          exact ⟨by first | rfl | simp [hcn], WW.out⟩
end Go.Proofs.Ytnenaponiahalaa.RouW

namespace Go.Proofs.Ytnenaponiahalaa.fnRoutesFr
open Go.ChangeShapes Go.WideShapes Go.ChangeAt Go.RowKit
open Go.ChangeMaps (open_string shut_string)
set_option linter.unusedVariables false

theorem own : ownKnob Try.prog.godebug = none := by kernel_rfl
theorem laidOut : laidOutB Try.prog = true := by kernel_rfl

set_option maxRecDepth 100000 in
theorem lifted (os : Os) (started : os.Started) (H : Type) (enc : TypeId × Value → H) :
    ReturnsInHanded {} Try.checked os 3 .any (Rows.fnRoutesSpec.pre6 enc Try.prog Try.f3 Rows.fnRoutesRow.domain false) (Rows.fnRoutesSpec.post enc Try.prog Try.f3 false true false false) := by
  refine returnsInHanded_of_change (C := Try.checked) own started (by kernel_rfl) Try.func3
    (ChangeSpec.witness6 (enc := enc) (C := Try.checked) false ⟨#[], #[.slice none 0 0], []⟩ 8 (by kernel_rfl) (by kernel_rfl) (by kernel_rfl) (by kernel_rfl)) ?_
  intro W base args ds gs before hval0 hW hcnd _
  have hval : ∀ (j : Nat) t v, Try.f3.params[j]? = some t → args[j]? = some v → Value.okWide Try.prog W .any base t v := hval0
  have hW' := hW
  obtain ⟨p, q, hA0, hV, rfl, hfz, hnd⟩ := hW
  have hA : DataW.TrodAll enc Try.prog W 0 (fun _ => true) true Try.f3.params.toList args.toList ds p := hA0
  rw [Try.params3] at hA hval
  obtain ⟨v0, vs0, d0, ds0, p0, q0, hargs, rfl, rfl, h0, r0⟩ := trodAll_cons hA
  obtain ⟨rfl, rfl, rfl⟩ := trodAll_nil r0
  obtain rfl : args = #[v0] := by cases args; simp_all
  obtain ⟨rfl, rfl⟩ := trodVars_none hV
  have k0 := h0
  have lt0 : ∀ x ∈ p0, x.block < W.heap.size := by obtain ⟨m, hm⟩ := k0; exact DataW.trod_lt m _ _ _ hm
  obtain ⟨x0_0, x0_1, x0_2, x0_3, rfl, w0⟩ := (CodM.open_bytes Try.underlying22 Try.underlying5 (by kernel_rfl)) (hval 0 22 v0 rfl rfl) h0
  clear hA0 hval0
  refine (RouW.law_any W x0_0 x0_1 x0_2 x0_3 w0).mono fun e W' ⟨he, bel⟩ => ?_
  subst he
  exact ⟨_, rfl, _, _, _, [], _, [], hW', trodAll_mk1 (shut_bool Try.underlying4 _), (trodAll_cons_mk (Below.trod laidOut (by kernel_rfl) (of_decide_eq_true (by kernel_rfl)) k0 bel lt0) trodAll_mk0), rfl, bel.frame _, fun h => by cases h⟩

theorem over : Rows.fnRoutesRow.holds Try.pinned (OpenSpec.ofChange Rows.fnRoutesSpec) :=
  OpenClaim.holds_of_wide 3 Try.f3 rfl rfl rfl rfl rfl rfl rfl ⟨rfl, rfl, rfl, rfl, rfl⟩ rfl rfl rfl rfl rfl (by kernel_rfl) Try.func3 (by kernel_rfl)
    (of_decide_eq_true (by kernel_rfl)) (by unfold Func.isWrapper; first | (rw [if_pos (by decide +kernel)]; kernel_rfl) | (rw [if_neg (by decide +kernel)]; exact ⟨rfl, rfl⟩))
    (fun os started H enc _ => lifted os started H enc)

theorem proved : Rows.FnRoutesSaid := over
end Go.Proofs.Ytnenaponiahalaa.fnRoutesFr
