/- 'FnExactBestClass' answers as its model, at every argument: the walk of the law. -/
import Derived.Test.YtnenaponiahalaaKaJ
import Derived.Test.YtnenaponiahalaaKlO
import Derived.Test.YtnenaponiahalaaKlK
import Derived.Test.YtnenaponiahalaaRuO
import Derived.Test.YtnenaponiahalaaRuK
import Derived.Test.YtnenaponiahalaaLwK
import Derived.RegionTactic
import Derived.Deep.RegionWith
namespace Go.Proofs.Ytnenaponiahalaa.BesL
open Go.RowKit Lb Bk LwK
set_option linter.unusedSimpArgs false
set_option linter.unusedVariables false

set_option maxRecDepth 100000 in
set_option maxHeartbeats 8000000 in
theorem law_any (W : World) (a0 : Option Addr) (cap0 : Nat) (rs0 : List Kl) (hi0 : KlK.IsS W a0 rs0) (f1 : Ru) (hi1 : RuK.Is f1) :
    Calls Try.prog 9 #[.slice a0 rs0.length cap0, .agg #[.int .i64 f1.id, .string f1.nm, .string f1.cl, .int .i64 f1.bo, .bool f1.wo, .int .i64 f1.ca]] W fun e w' => e = .returned (.bool true) ∧ Below W.heap.size W w' := by
  have hB := Lib.hid (show Below W.heap.size W (W.alloc (.cells #[.int .i64 f1.id, .string f1.nm, .string f1.cl, .int .i64 f1.bo, .bool f1.wo, .int .i64 f1.ca] 72)) from ((Below.refl _ _).alloc (by simp) _))
  have hK1 := Lib.hid (Blk.new W 72 #[.int .i64 f1.id, .string f1.nm, .string f1.cl, .int .i64 f1.bo, .bool f1.wo, .int .i64 f1.ca])
  have hR0 := Lib.hid hi0.R
  have hF0 := Lib.hid hi0.f
  have hL0 := Lib.hid hi0.l
  clear hi0
  have hF1 := Lib.hid hi1
  clear hi1
  go_enter Try.func9, Try.ntmps9
  go_wp2_with fail
  refine (KlK.szS_any a0 cap0 rs0 _ _ (KlK.Row.later hR0.out hB.out) hF0.out hL0.out (by omega) (by omega)).mono ?_
  rintro e w1 ⟨⟨r0, rfl, hr⟩, hb⟩
  replace hB := Lib.hid (hB.out.trans (hb.mono hB.out.size))
  replace hK1 := Lib.hid (hK1.out.later hb)
  clear hb
  rcases hr with rfl | ⟨h0, hr⟩
  · go_wp2
    go_ret
    exact ⟨rfl, hB.out⟩
  have ht := KlK.tot_nn rs0 rs0.length
  have hn0 : rs0.length ≤ 1048576 := by omega
  have hneg0 : decide (r0 < 0) = false := decide_eq_false (by omega)
  have hu0 : 0 ≤ r0 ∧ r0 ≤ 1048576 := by omega
  obtain ⟨hv0, hw0⟩ := hu0
  clear hr ht h0
  obtain ⟨⟨p0, p1, p2, p3, p4, p5⟩, -⟩ := RuK.blk_cells hK1.out
  have hsn1 := RuK.sz_nn f1
  by_cases hfit1 : RuK.sz f1 ≤ r0
  case neg =>
    go_wp2_with fail
    refine (RuK.sz_no f1 hF1.out _ _ (by omega) (by omega) (by omega)).mono ?_
    rintro e w1 ⟨rfl, hb⟩
    replace hB := Lib.hid (hB.out.trans (hb.mono hB.out.size))
    go_wp2
    go_ret
    exact ⟨rfl, hB.out⟩
  obtain ⟨r1, hr1⟩ : ∃ r, r0 - RuK.sz f1 = r := ⟨_, rfl⟩
  have hz := Lib.hid (fun w => hr1 ▸ RuK.sz_yes f1 r0 w (by omega) hfit1)
  have hneg1 : decide (r1 < 0) = false := decide_eq_false (by omega)
  have hv1 : 0 ≤ r1 := by omega
  have hw1 : r1 ≤ 1048576 := by omega
  clear hr1 hfit1
  go_wp2_with fail
  refine (hz.out _).mono ?_
  rintro e w1 ⟨rfl, hb⟩
  replace hB := Lib.hid (hB.out.trans (hb.mono hB.out.size))
  replace hK1 := Lib.hid (hK1.out.later hb)
  clear hb hz
  clear p0 p1 p2 p3 p4 p5
  obtain ⟨u0, u1, HS, HI⟩ := KaJ.both rs0 hF0.out hn0 f1 hF1.out
  replace HS := Lib.hid HS
  replace HI := Lib.hid HI
  go_wp2_with fail
  replace hB := Lib.hid (show Below W.heap.size W (World.drew _) from hB.out.drew)
  replace hK1 := Lib.hid (hK1.out.drew)
  obtain ⟨⟨q1_0, q1_1, q1_2, q1_3, q1_4, q1_5⟩, -⟩ := RuK.blk_cells hK1.out
  go_region_held3 (fun Wx : World => (Wx.cell? ⟨W.heap.size, 0, none⟩ = some (.int .i64 f1.id) ∧ Wx.cell? ⟨W.heap.size, 1, none⟩ = some (.string f1.nm) ∧ Wx.cell? ⟨W.heap.size, 2, none⟩ = some (.string f1.cl) ∧ Wx.cell? ⟨W.heap.size, 3, none⟩ = some (.int .i64 f1.bo) ∧ Wx.cell? ⟨W.heap.size, 4, none⟩ = some (.bool f1.wo) ∧ Wx.cell? ⟨W.heap.size, 5, none⟩ = some (.int .i64 f1.ca))) ((first | with_reducible exact ((RuK.blk_cells hK1.out).1) | with_reducible exact ((RuK.blk_cells hK1.out).1))) (first
      | (go_at_call 54; refine (KlK.toS_any a0 cap0 rs0 _ (KlK.Row.later hR0.out hB.out) hn0).mono ?_; rintro e w2 ⟨v, rfl, ho, hb⟩; replace hB := Lib.hid (hB.out.trans (hb.mono hB.out.size)); replace hK1 := Lib.hid (hK1.out.later hb); obtain ⟨wa0, wc0, rfl, -, wl0⟩ := KlK.Own.slice ho; have wX0 := Lib.hid ho; clear ho hb)
      | (go_at_call 58; refine (RuK.to_any f1 _).mono ?_; rintro e w2 ⟨rfl, hb⟩; replace hB := Lib.hid (hB.out.trans (hb.mono hB.out.size)); replace hK1 := Lib.hid (hK1.out.later hb); (try (replace wX0 := Lib.hid (KlK.Own.below wX0.out hb))); clear hb)
      | (go_at_call 65; refine (HS.out _ _ _ (KlK.Own.le wX0.out) (KlK.Own.row wX0.out)).mono ?_; rintro e w1 ⟨rfl, hb⟩; replace hB := Lib.hid (hB.out.trans (hb.mono hB.out.size)); replace hK1 := Lib.hid (hK1.out.later hb); clear hb))
  all_goals clear q1_0 q1_1 q1_2 q1_3 q1_4 q1_5
  all_goals skip
  go_wp2_with fail
  refine (KlK.toS_any a0 cap0 rs0 _ (KlK.Row.later hR0.out hB.out) hn0).mono ?_
  rintro e w1 ⟨v, rfl, ho, hb⟩
  obtain ⟨xa0, xc0, rfl, -, xl⟩ := KlK.Own.slice ho
  replace hB := Lib.hid (hB.out.trans (hb.mono hB.out.size))
  replace hK1 := Lib.hid (hK1.out.later hb)
  have xX0 := Lib.hid ho
  clear ho hb xl
  obtain ⟨⟨p0, p1, p2, p3, p4, p5⟩, -⟩ := RuK.blk_cells hK1.out
  go_wp2_with fail
  refine (RuK.to_any f1 _).mono ?_
  rintro e w1 ⟨rfl, hb⟩
  replace hB := Lib.hid (hB.out.trans (hb.mono hB.out.size))
  replace hK1 := Lib.hid (hK1.out.later hb)
  replace xX0 := Lib.hid (KlK.Own.below xX0.out hb)
  clear hb
  clear p0 p1 p2 p3 p4 p5
  go_wp2_with fail
  refine (HI.out _ _ _ (KlK.Own.le xX0.out) (KlK.Own.row xX0.out)).mono ?_
  rintro e w1 ⟨rfl, hb⟩
  replace hB := Lib.hid (hB.out.trans (hb.mono hB.out.size))
  replace hK1 := Lib.hid (hK1.out.later hb)
  replace xX0 := Lib.hid (KlK.Own.below xX0.out hb)
  clear hb
  go_wp2_with fail
  refine (KlK.toS_any a0 cap0 rs0 _ (KlK.Row.later hR0.out hB.out) hn0).mono ?_
  rintro e w1 ⟨v, rfl, ho, hb⟩
  obtain ⟨ya, yc, rfl, hyr, -⟩ := KlK.Own.slice ho
  replace hB := Lib.hid (hB.out.trans (hb.mono hB.out.size))
  replace hK1 := Lib.hid (hK1.out.later hb)
  replace xX0 := Lib.hid (KlK.Own.below xX0.out hb)
  clear ho hb
  go_wp2_with fail
  refine (KlK.eqS_same _ _ _ _ rs0 _ (KlK.Own.row xX0.out) hyr (by unfold maxLen; omega)).mono ?_
  rintro e w1 ⟨rfl, hb⟩
  replace hB := Lib.hid (hB.out.trans (hb.mono hB.out.size))
  replace hK1 := Lib.hid (hK1.out.later hb)
  replace xX0 := Lib.hid (KlK.Own.below xX0.out hb)
  clear hb hyr
  go_wp2
  go_ret
  exact ⟨rfl, hB.out⟩

end Go.Proofs.Ytnenaponiahalaa.BesL
