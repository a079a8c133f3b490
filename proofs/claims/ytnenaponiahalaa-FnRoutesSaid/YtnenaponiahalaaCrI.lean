/- CrossedBy: the program and the model. -/
import Derived.Test.YtnenaponiahalaaDtB
namespace Go.Proofs.Ytnenaponiahalaa.CrI
open Go.RowKit Lb IntS MapS MapV High Cells StepT StpF SpecB DjkB OpnI TmsI LtI
open Go.Proofs.Ytnenaponiahalaa.BfoB (oL oL_len oL_at own_at own_cell)
set_option linter.unusedSimpArgs false
set_option linter.unusedVariables false

/-- The answer. -/
def crK (m : Mp) (T : Nat → Nat → Int) (p q r : Int) : Bool := ltB m T p q && opB m r
def crB (m : Mp) (T : Nat → Nat → Int) (p q r : Int) : Bool := crK m T p q r && (dtB m T p r q && dtN m T p r q == 0)
def CPost (w : World) (x ok : Bool) (e : Ending) (w' : World) : Prop := e = .returned (.tuple #[.bool x, .bool ok]) ∧ Below w.heap.size w w'
theorem cret {x y : Bool} {b b' : Bool} (h1 : y = x) (h2 : b' = b) : Ending.returned (.tuple #[.bool x, .bool b]) = .returned (.tuple #[.bool y, .bool b']) := by rw [h1, h2]

set_option maxHeartbeats 2000000 in
theorem impl_any (m : Mp) (T : Nat → Nat → Int) (hT : TT m T) (p q r : Int) (a b : Option Addr) (ca cb : Nat) (w : World) (hR : m.R.length ≤ maxLen) (hC : m.C.length ≤ maxLen) (hr : IRow w a m.R) (hc : IRow w b m.C) :
    Calls Try.prog 23 #[.agg #[.int .i64 m.W, .int .i64 m.H, .slice a m.R.length ca, .slice b m.C.length cb], .int .i64 p, .int .i64 q, .int .i64 r] w (CPost w (crB m T p q r) (crK m T p q r)) := by
  have HB := Lib.hid ((Below.refl w.heap.size w).alloc (Nat.le_refl _) (.cells #[.int .i64 m.W, .int .i64 m.H, .slice a m.R.length ca, .slice b m.C.length cb] 26))
  have HK := Lib.hid (Blk.new w 26 #[.int .i64 m.W, .int .i64 m.H, .slice a m.R.length ca, .slice b m.C.length cb])
  have HR := Lib.hid hr
  have HC := Lib.hid hc
  obtain ⟨n1, hn1⟩ : ∃ n, ltN m T p q = n := ⟨_, rfl⟩
  obtain ⟨o1, ho1⟩ : ∃ n, ltB m T p q = n := ⟨_, rfl⟩
  obtain ⟨n2, hn2⟩ : ∃ n, dtN m T p r q = n := ⟨_, rfl⟩
  obtain ⟨o2, ho2⟩ : ∃ n, dtB m T p r q = n := ⟨_, rfl⟩
  obtain ⟨o3, ho3⟩ : ∃ n, opB m r = n := ⟨_, rfl⟩
  have H1 := Lib.hid (LtI.both m T hT p q).2
  have H2 := Lib.hid (fun w hr hc => DtI.impl_any m T hT p r q a b ca cb w hR hC hr hc)
  rw [hn1, ho1] at H1
  rw [hn2, ho2] at H2
  have HV := Lib.hid (show crK m T p q r = (o1 && o3) ∧ crB m T p q r = ((o1 && o3) && (o2 && n2 == 0)) from by
    have : crK m T p q r = (o1 && o3) := by unfold crK; rw [ho1, ho3]
    exact ⟨this, by unfold crB; rw [this, ho2, hn2]⟩)
  have HO := Lib.hid ho3
  have HG := Lib.hid (show o1 = true → m.ok from fun e => by
    rw [← ho1] at e
    unfold ltB at e
    rw [Bool.and_eq_true] at e
    exact (askB_of e.1).1)
  clear hr hc hn1 hn2 ho1 ho2 ho3
  go_enter Try.func23, Try.ntmps23
  go_wp2_with fail
  refine (H1.out a b ca cb _ hR hC (RowAt.below HR.out HB.out) (RowAt.below HC.out HB.out)).mono ?_
  rintro e w1 ⟨rfl, hb1⟩
  have HB1 := Lib.hid (HB.out.trans (hb1.mono (by simp)))
  have HK1 := Lib.hid (HK.out.later hb1)
  clear hb1 HB HK
  obtain ⟨p0, p1, p2, p3, -⟩ := HK1.out.four
  cases o1 with
  | false =>
    go_wp2_with fail
    go_ret2
    exact ⟨cret HV.out.2 HV.out.1, HB1.out⟩
  | true =>
    obtain ⟨ww, hh, g⟩ := good_of (HG.out rfl)
    have HGd := Lib.hid g
    clear g
    go_wp2_with fail
    refine (impl_open m ww hh HGd.out r a b ca cb _ (RowAt.below HC.out HB1.out)).mono ?_
    rw [HO.out]
    rintro e w2 ⟨rfl, hb2⟩
    have HB2 := Lib.hid (HB1.out.trans (hb2.mono HB1.out.size))
    have HK2 := Lib.hid (HK1.out.later hb2)
    clear hb2 HB1 HK1 p0 p1 p2 p3
    obtain ⟨p0, p1, p2, p3, -⟩ := HK2.out.four
    cases o3 with
    | false =>
      go_wp2_with fail
      go_ret2
      exact ⟨cret HV.out.2 HV.out.1, HB2.out⟩
    | true =>
      go_wp2_with fail
      refine (H2.out _ (RowAt.below HR.out HB2.out) (RowAt.below HC.out HB2.out)).mono ?_
      rintro e w3 ⟨rfl, hb3⟩
      have HB3 := Lib.hid (HB2.out.trans (hb3.mono HB2.out.size))
      clear hb3 HB2 HK2 p0 p1 p2 p3 H1 H2
      cases o2 with
      | false =>
        go_wp2_with fail
        go_ret2
        exact ⟨cret HV.out.2 HV.out.1, HB3.out⟩
      | true =>
        go_wp2_with fail
        go_ret2
        exact ⟨cret (by rw [HV.out.2]; simp) HV.out.1, HB3.out⟩

end Go.Proofs.Ytnenaponiahalaa.CrI
