/- 'FnExactDoesAdmit' answers as its model, at every argument: the walk of the law. -/
import Derived.Test.YtnenaponiahalaaKaD
import Derived.Test.YtnenaponiahalaaKlO
import Derived.Test.YtnenaponiahalaaKlK
import Derived.Test.YtnenaponiahalaaRuO
import Derived.Test.YtnenaponiahalaaRuK
import Derived.Test.YtnenaponiahalaaLwK
import Derived.RegionTactic
import Derived.Deep.RegionWith
namespace Go.Proofs.Ytnenaponiahalaa.DoeL
open Go.RowKit Lb Bk LwK
set_option linter.unusedSimpArgs false
set_option linter.unusedVariables false

set_option maxRecDepth 100000 in
set_option maxHeartbeats 8000000 in
theorem law_any (W : World) (f0 : Kl) (hi0 : KlK.Is f0) (f1 : Ru) (hi1 : RuK.Is f1) :
    Calls Try.prog 7 #[.agg #[.int .i64 f0.id, .string f0.nm, .int .i64 f0.lo, .int .i64 f0.hi, .bool f0.wo, .bool f0.me, .int .i64 f0.co, .int .i64 f0.mo], .agg #[.int .i64 f1.id, .string f1.nm, .string f1.cl, .int .i64 f1.bo, .bool f1.wo, .int .i64 f1.ca]] W fun e w' => e = .returned (.bool true) ∧ Below W.heap.size W w' := by
  have hB := Lib.hid (show Below W.heap.size W ((W.alloc (.cells #[.int .i64 f0.id, .string f0.nm, .int .i64 f0.lo, .int .i64 f0.hi, .bool f0.wo, .bool f0.me, .int .i64 f0.co, .int .i64 f0.mo] 62)).alloc (.cells #[.int .i64 f1.id, .string f1.nm, .string f1.cl, .int .i64 f1.bo, .bool f1.wo, .int .i64 f1.ca] 72)) from (((Below.refl _ _).alloc (by simp) _).alloc (by simp <;> omega) _))
  have hK0 := Lib.hid (show Blk ((W.alloc (.cells #[.int .i64 f0.id, .string f0.nm, .int .i64 f0.lo, .int .i64 f0.hi, .bool f0.wo, .bool f0.me, .int .i64 f0.co, .int .i64 f0.mo] 62)).alloc (.cells #[.int .i64 f1.id, .string f1.nm, .string f1.cl, .int .i64 f1.bo, .bool f1.wo, .int .i64 f1.ca] 72)) (W.heap.size) 62 #[.int .i64 f0.id, .string f0.nm, .int .i64 f0.lo, .int .i64 f0.hi, .bool f0.wo, .bool f0.me, .int .i64 f0.co, .int .i64 f0.mo] from by simpa using (Blk.alloc (Blk.new W 62 #[.int .i64 f0.id, .string f0.nm, .int .i64 f0.lo, .int .i64 f0.hi, .bool f0.wo, .bool f0.me, .int .i64 f0.co, .int .i64 f0.mo]) _))
  have hK1 := Lib.hid (show Blk ((W.alloc (.cells #[.int .i64 f0.id, .string f0.nm, .int .i64 f0.lo, .int .i64 f0.hi, .bool f0.wo, .bool f0.me, .int .i64 f0.co, .int .i64 f0.mo] 62)).alloc (.cells #[.int .i64 f1.id, .string f1.nm, .string f1.cl, .int .i64 f1.bo, .bool f1.wo, .int .i64 f1.ca] 72)) (W.heap.size + 1) 72 #[.int .i64 f1.id, .string f1.nm, .string f1.cl, .int .i64 f1.bo, .bool f1.wo, .int .i64 f1.ca] from by simpa using (Blk.new (W.alloc (.cells #[.int .i64 f0.id, .string f0.nm, .int .i64 f0.lo, .int .i64 f0.hi, .bool f0.wo, .bool f0.me, .int .i64 f0.co, .int .i64 f0.mo] 62)) 72 #[.int .i64 f1.id, .string f1.nm, .string f1.cl, .int .i64 f1.bo, .bool f1.wo, .int .i64 f1.ca]))
  have hF0 := Lib.hid hi0
  clear hi0
  have hF1 := Lib.hid hi1
  clear hi1
  go_enter Try.func7, Try.ntmps7
  obtain ⟨⟨p0, p1, p2, p3, p4, p5, p6, p7⟩, -⟩ := KlK.blk_cells hK0.out
  have hsn0 := KlK.sz_nn f0
  by_cases hfit0 : KlK.sz f0 ≤ 1048576
  case neg =>
    go_wp2_with fail
    refine (KlK.sz_no f0 hF0.out _ _ (by omega) (by omega) (by omega)).mono ?_
    rintro e w1 ⟨rfl, hb⟩
    replace hB := Lib.hid (hB.out.trans (hb.mono hB.out.size))
    go_wp2
    go_ret
    exact ⟨rfl, hB.out⟩
  obtain ⟨r0, hr0⟩ : ∃ r, 1048576 - KlK.sz f0 = r := ⟨_, rfl⟩
  have hz := Lib.hid (fun w => hr0 ▸ KlK.sz_yes f0 1048576 w (by omega) hfit0)
  have hneg0 : decide (r0 < 0) = false := decide_eq_false (by omega)
  have hv0 : 0 ≤ r0 := by omega
  have hw0 : r0 ≤ 1048576 := by omega
  clear hr0 hfit0
  go_wp2_with fail
  refine (hz.out _).mono ?_
  rintro e w1 ⟨rfl, hb⟩
  replace hB := Lib.hid (hB.out.trans (hb.mono hB.out.size))
  replace hK0 := Lib.hid (hK0.out.later hb)
  replace hK1 := Lib.hid (hK1.out.later hb)
  clear hb hz
  clear p0 p1 p2 p3 p4 p5 p6 p7
  obtain ⟨⟨p0, p1, p2, p3, p4, p5⟩, -⟩ := RuK.blk_cells hK1.out
  have hsn1 := RuK.sz_nn f1
  by_cases hfit1 : RuK.sz f1 ≤ r0
  case neg =>
    go_wp2_with fail
    refine (RuK.sz_no f1 hF1.out _ _ (by omega) (by omega) (by omega)).mono ?_
    rintro e w1 ⟨rfl, hb⟩
    replace hB := Lib.hid (hB.out.trans (hb.mono hB.out.size))
    go_wp2
    go_ret
    exact ⟨rfl, hB.out⟩
  obtain ⟨r1, hr1⟩ : ∃ r, r0 - RuK.sz f1 = r := ⟨_, rfl⟩
  have hz := Lib.hid (fun w => hr1 ▸ RuK.sz_yes f1 r0 w (by omega) hfit1)
  have hneg1 : decide (r1 < 0) = false := decide_eq_false (by omega)
  have hv1 : 0 ≤ r1 := by omega
  have hw1 : r1 ≤ 1048576 := by omega
  clear hr1 hfit1
  go_wp2_with fail
  refine (hz.out _).mono ?_
  rintro e w1 ⟨rfl, hb⟩
  replace hB := Lib.hid (hB.out.trans (hb.mono hB.out.size))
  replace hK0 := Lib.hid (hK0.out.later hb)
  replace hK1 := Lib.hid (hK1.out.later hb)
  clear hb hz
  clear p0 p1 p2 p3 p4 p5
  obtain ⟨u0, u1, HS, HI⟩ := KaD.both f0 hF0.out f1 hF1.out
  replace HS := Lib.hid HS
  replace HI := Lib.hid HI
  go_wp2_with fail
  replace hB := Lib.hid (show Below W.heap.size W (World.drew _) from hB.out.drew)
  replace hK0 := Lib.hid (hK0.out.drew)
  replace hK1 := Lib.hid (hK1.out.drew)
  obtain ⟨⟨q0_0, q0_1, q0_2, q0_3, q0_4, q0_5, q0_6, q0_7⟩, -⟩ := KlK.blk_cells hK0.out
  obtain ⟨⟨q1_0, q1_1, q1_2, q1_3, q1_4, q1_5⟩, -⟩ := RuK.blk_cells hK1.out
  go_region_held3 (fun Wx : World => (Wx.cell? ⟨W.heap.size, 0, none⟩ = some (.int .i64 f0.id) ∧ Wx.cell? ⟨W.heap.size, 1, none⟩ = some (.string f0.nm) ∧ Wx.cell? ⟨W.heap.size, 2, none⟩ = some (.int .i64 f0.lo) ∧ Wx.cell? ⟨W.heap.size, 3, none⟩ = some (.int .i64 f0.hi) ∧ Wx.cell? ⟨W.heap.size, 4, none⟩ = some (.bool f0.wo) ∧ Wx.cell? ⟨W.heap.size, 5, none⟩ = some (.bool f0.me) ∧ Wx.cell? ⟨W.heap.size, 6, none⟩ = some (.int .i64 f0.co) ∧ Wx.cell? ⟨W.heap.size, 7, none⟩ = some (.int .i64 f0.mo)) ∧ (Wx.cell? ⟨W.heap.size + 1, 0, none⟩ = some (.int .i64 f1.id) ∧ Wx.cell? ⟨W.heap.size + 1, 1, none⟩ = some (.string f1.nm) ∧ Wx.cell? ⟨W.heap.size + 1, 2, none⟩ = some (.string f1.cl) ∧ Wx.cell? ⟨W.heap.size + 1, 3, none⟩ = some (.int .i64 f1.bo) ∧ Wx.cell? ⟨W.heap.size + 1, 4, none⟩ = some (.bool f1.wo) ∧ Wx.cell? ⟨W.heap.size + 1, 5, none⟩ = some (.int .i64 f1.ca))) ((first | with_reducible exact ⟨(KlK.blk_cells hK0.out).1 , (RuK.blk_cells hK1.out).1⟩ | with_reducible exact ⟨(KlK.blk_cells hK0.out).1 , (RuK.blk_cells hK1.out).1⟩)) (first
      | (go_at_call 50; refine (KlK.to_any f0 _).mono ?_; rintro e w2 ⟨rfl, hb⟩; replace hB := Lib.hid (hB.out.trans (hb.mono hB.out.size)); replace hK0 := Lib.hid (hK0.out.later hb); replace hK1 := Lib.hid (hK1.out.later hb); clear hb)
      | (go_at_call 58; refine (RuK.to_any f1 _).mono ?_; rintro e w2 ⟨rfl, hb⟩; replace hB := Lib.hid (hB.out.trans (hb.mono hB.out.size)); replace hK0 := Lib.hid (hK0.out.later hb); replace hK1 := Lib.hid (hK1.out.later hb); clear hb)
      | (go_at_call 57; refine (HS.out  _ ).mono ?_; rintro e w1 ⟨rfl, hb⟩; replace hB := Lib.hid (hB.out.trans (hb.mono hB.out.size)); replace hK0 := Lib.hid (hK0.out.later hb); replace hK1 := Lib.hid (hK1.out.later hb); clear hb))
  all_goals clear q0_0 q0_1 q0_2 q0_3 q0_4 q0_5 q0_6 q0_7
  all_goals clear q1_0 q1_1 q1_2 q1_3 q1_4 q1_5
  all_goals skip
  go_wp2_with fail
  replace hB := Lib.hid (show Below W.heap.size W (World.drew _) from hB.out.drew)
  replace hK0 := Lib.hid (hK0.out.drew)
  replace hK1 := Lib.hid (hK1.out.drew)
  obtain ⟨⟨q0_0, q0_1, q0_2, q0_3, q0_4, q0_5, q0_6, q0_7⟩, -⟩ := KlK.blk_cells hK0.out
  obtain ⟨⟨q1_0, q1_1, q1_2, q1_3, q1_4, q1_5⟩, -⟩ := RuK.blk_cells hK1.out
  go_region_held3 (fun Wx : World => (Wx.cell? ⟨W.heap.size, 0, none⟩ = some (.int .i64 f0.id) ∧ Wx.cell? ⟨W.heap.size, 1, none⟩ = some (.string f0.nm) ∧ Wx.cell? ⟨W.heap.size, 2, none⟩ = some (.int .i64 f0.lo) ∧ Wx.cell? ⟨W.heap.size, 3, none⟩ = some (.int .i64 f0.hi) ∧ Wx.cell? ⟨W.heap.size, 4, none⟩ = some (.bool f0.wo) ∧ Wx.cell? ⟨W.heap.size, 5, none⟩ = some (.bool f0.me) ∧ Wx.cell? ⟨W.heap.size, 6, none⟩ = some (.int .i64 f0.co) ∧ Wx.cell? ⟨W.heap.size, 7, none⟩ = some (.int .i64 f0.mo)) ∧ (Wx.cell? ⟨W.heap.size + 1, 0, none⟩ = some (.int .i64 f1.id) ∧ Wx.cell? ⟨W.heap.size + 1, 1, none⟩ = some (.string f1.nm) ∧ Wx.cell? ⟨W.heap.size + 1, 2, none⟩ = some (.string f1.cl) ∧ Wx.cell? ⟨W.heap.size + 1, 3, none⟩ = some (.int .i64 f1.bo) ∧ Wx.cell? ⟨W.heap.size + 1, 4, none⟩ = some (.bool f1.wo) ∧ Wx.cell? ⟨W.heap.size + 1, 5, none⟩ = some (.int .i64 f1.ca))) ((first | with_reducible exact ⟨(KlK.blk_cells hK0.out).1 , (RuK.blk_cells hK1.out).1⟩ | with_reducible exact ⟨(KlK.blk_cells hK0.out).1 , (RuK.blk_cells hK1.out).1⟩)) (first
      | (go_at_call 50; refine (KlK.to_any f0 _).mono ?_; rintro e w2 ⟨rfl, hb⟩; replace hB := Lib.hid (hB.out.trans (hb.mono hB.out.size)); replace hK0 := Lib.hid (hK0.out.later hb); replace hK1 := Lib.hid (hK1.out.later hb); clear hb)
      | (go_at_call 58; refine (RuK.to_any f1 _).mono ?_; rintro e w2 ⟨rfl, hb⟩; replace hB := Lib.hid (hB.out.trans (hb.mono hB.out.size)); replace hK0 := Lib.hid (hK0.out.later hb); replace hK1 := Lib.hid (hK1.out.later hb); clear hb)
      | (go_at_call 36; refine (HI.out  _ ).mono ?_; rintro e w1 ⟨rfl, hb⟩; replace hB := Lib.hid (hB.out.trans (hb.mono hB.out.size)); replace hK0 := Lib.hid (hK0.out.later hb); replace hK1 := Lib.hid (hK1.out.later hb); clear hb))
  all_goals clear q0_0 q0_1 q0_2 q0_3 q0_4 q0_5 q0_6 q0_7
  all_goals clear q1_0 q1_1 q1_2 q1_3 q1_4 q1_5
  go_wp2
  go_ret
  exact ⟨rfl, hB.out⟩

end Go.Proofs.Ytnenaponiahalaa.DoeL
