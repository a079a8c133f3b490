/- 'FnExactAreClasses' answers as its model, at every argument: the walk of the law. -/
import Derived.Test.YtnenaponiahalaaKaG
import Derived.Test.YtnenaponiahalaaKlO
import Derived.Test.YtnenaponiahalaaKlK
import Derived.Test.YtnenaponiahalaaLwK
import Derived.RegionTactic
import Derived.Deep.RegionWith
namespace Go.Proofs.Ytnenaponiahalaa.AreKL
open Go.RowKit Lb Bk LwK
set_option linter.unusedSimpArgs false
set_option linter.unusedVariables false

set_option maxRecDepth 100000 in
set_option maxHeartbeats 8000000 in
theorem law_any (W : World) (a0 : Option Addr) (cap0 : Nat) (rs0 : List Kl) (hi0 : KlK.IsS W a0 rs0) :
    Calls Try.prog 6 #[.slice a0 rs0.length cap0] W fun e w' => e = .returned (.bool true) ∧ Below W.heap.size W w' := by
  have hB := Lib.hid (show Below W.heap.size W W from (Below.refl _ _))
  have hR0 := Lib.hid hi0.R
  have hF0 := Lib.hid hi0.f
  have hL0 := Lib.hid hi0.l
  clear hi0
  go_enter Try.func6, Try.ntmps6
  go_wp2_with fail
  refine (KlK.szS_any a0 cap0 rs0 _ _ (KlK.Row.later hR0.out hB.out) hF0.out hL0.out (by omega) (by omega)).mono ?_
  rintro e w1 ⟨⟨r0, rfl, hr⟩, hb⟩
  replace hB := Lib.hid (hB.out.trans (hb.mono hB.out.size))
  clear hb
  rcases hr with rfl | ⟨h0, hr⟩
  · go_wp2
    go_ret
    exact ⟨rfl, hB.out⟩
  have ht := KlK.tot_nn rs0 rs0.length
  have hn0 : rs0.length ≤ 1048576 := by omega
  have hneg0 : decide (r0 < 0) = false := decide_eq_false (by omega)
  have hu0 : 0 ≤ r0 ∧ r0 ≤ 1048576 := by omega
  obtain ⟨hv0, hw0⟩ := hu0
  clear hr ht h0
  obtain ⟨u0, HS, HI⟩ := KaG.are rs0 hF0.out hn0
  replace HS := Lib.hid HS
  replace HI := Lib.hid HI
  go_wp2_with fail
  refine (KlK.toS_any a0 cap0 rs0 _ (KlK.Row.later hR0.out hB.out) hn0).mono ?_
  rintro e w1 ⟨v, rfl, ho, hb⟩
  replace hB := Lib.hid (hB.out.trans (hb.mono hB.out.size))
  obtain ⟨wa0, wc0, rfl, -, wl0⟩ := KlK.Own.slice ho
  have wX0 := Lib.hid ho
  clear ho hb
  go_wp2_with fail
  refine (HS.out _ _ _ (KlK.Own.le wX0.out) (KlK.Own.row wX0.out)).mono ?_
  rintro e w1 ⟨rfl, hb⟩
  replace hB := Lib.hid (hB.out.trans (hb.mono hB.out.size))
  replace wX0 := Lib.hid (KlK.Own.below wX0.out hb)
  clear hb
  try clear wX0
  go_wp2_with fail
  refine (KlK.toS_any a0 cap0 rs0 _ (KlK.Row.later hR0.out hB.out) hn0).mono ?_
  rintro e w1 ⟨v, rfl, ho, hb⟩
  obtain ⟨xa0, xc0, rfl, -, xl⟩ := KlK.Own.slice ho
  replace hB := Lib.hid (hB.out.trans (hb.mono hB.out.size))
  have xX0 := Lib.hid ho
  clear ho hb xl
  go_wp2_with fail
  refine (HI.out _ _ _ (KlK.Own.le xX0.out) (KlK.Own.row xX0.out)).mono ?_
  rintro e w1 ⟨rfl, hb⟩
  replace hB := Lib.hid (hB.out.trans (hb.mono hB.out.size))
  replace xX0 := Lib.hid (KlK.Own.below xX0.out hb)
  clear hb
  go_wp2_with fail
  refine (KlK.toS_any a0 cap0 rs0 _ (KlK.Row.later hR0.out hB.out) hn0).mono ?_
  rintro e w1 ⟨v, rfl, ho, hb⟩
  obtain ⟨ya, yc, rfl, hyr, -⟩ := KlK.Own.slice ho
  replace hB := Lib.hid (hB.out.trans (hb.mono hB.out.size))
  replace xX0 := Lib.hid (KlK.Own.below xX0.out hb)
  clear ho hb
  go_wp2_with fail
  refine (KlK.eqS_same _ _ _ _ rs0 _ (KlK.Own.row xX0.out) hyr (by unfold maxLen; omega)).mono ?_
  rintro e w1 ⟨rfl, hb⟩
  replace hB := Lib.hid (hB.out.trans (hb.mono hB.out.size))
  replace xX0 := Lib.hid (KlK.Own.below xX0.out hb)
  clear hb hyr
  go_wp2
  go_ret
  exact ⟨rfl, hB.out⟩

end Go.Proofs.Ytnenaponiahalaa.AreKL
