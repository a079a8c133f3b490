/- StepTime: both texts. -/
import Derived.Test.YtijcdnmcmngheaaStepT
namespace Go.Proofs.Ytijcdnmcmngheaa.StepC
open Go.RowKit Lb IntS MapS MapV High Cells StepT
open Go.Proofs.Ytijcdnmcmngheaa.Next (below_drewN bAD)
set_option linter.unusedSimpArgs false
set_option linter.unusedVariables false

set_option maxHeartbeats 1000000 in
theorem spec_bad (m : Mp) (c d : Int) (h : ¬ m.ok) (a b : Option Addr) (ca cb : Nat) (w : World) (hR : m.R.length ≤ maxLen) (hC : m.C.length ≤ maxLen) (hr : IRow w a m.R) (hc : IRow w b m.C) :
    Calls Try.prog 40 #[.agg #[.int .i64 m.W, .int .i64 m.H, .slice a m.R.length ca, .slice b m.C.length cb], .int .i64 c, .int .i64 d] w fun e w' => e = .returned (.tuple #[.int .i64 0, .bool false]) ∧ Below w.heap.size w w' := by
  have HB0 := Lib.hid ((Below.refl w.heap.size w).alloc (Nat.le_refl _) (.cells #[.int .i64 m.W, .int .i64 m.H, .slice a m.R.length ca, .slice b m.C.length cb] 26))
  have HK0 := Lib.hid (Blk.new w 26 #[.int .i64 m.W, .int .i64 m.H, .slice a m.R.length ca, .slice b m.C.length cb])
  have HK := Lib.hid (okB_no h)
  clear h
  go_enter Try.func40, Try.ntmps40
  go_wp2_with fail
  refine (MapV.spec_any m a b ca cb _ hR hC (RowAt.below hr HB0.out) (RowAt.below hc HB0.out)).mono ?_
  rw [HK.out]
  rintro e w1 ⟨rfl, hb⟩
  have HB1 := Lib.hid (HB0.out.trans (hb.mono (by simp)))
  have HK1 := Lib.hid (HK0.out.later hb)
  clear hb
  obtain ⟨p0, p1, p2, p3, -⟩ := HK1.out.four
  go_wp2
  go_ret2
  exact ⟨rfl, HB1.out⟩

set_option maxHeartbeats 1000000 in
theorem impl_bad (m : Mp) (c d : Int) (h : ¬ m.ok) (a b : Option Addr) (ca cb : Nat) (w : World) (hR : m.R.length ≤ maxLen) (hC : m.C.length ≤ maxLen) (hr : IRow w a m.R) (hc : IRow w b m.C) :
    Calls Try.prog 39 #[.agg #[.int .i64 m.W, .int .i64 m.H, .slice a m.R.length ca, .slice b m.C.length cb], .int .i64 c, .int .i64 d] w fun e w' => e = .returned (.tuple #[.int .i64 0, .bool false]) ∧ Below w.heap.size w w' := by
  have HB0 := Lib.hid ((Below.refl w.heap.size w).alloc (Nat.le_refl _) (.cells #[.int .i64 m.W, .int .i64 m.H, .slice a m.R.length ca, .slice b m.C.length cb] 26))
  have HK0 := Lib.hid (Blk.new w 26 #[.int .i64 m.W, .int .i64 m.H, .slice a m.R.length ca, .slice b m.C.length cb])
  have HK := Lib.hid (okB_no h)
  clear h
  go_enter Try.func39, Try.ntmps39
  go_wp2_with fail
  refine (MapV.impl_any m a b ca cb _ hR hC (RowAt.below hr HB0.out) (RowAt.below hc HB0.out)).mono ?_
  rw [HK.out]
  rintro e w1 ⟨rfl, hb⟩
  have HB1 := Lib.hid (HB0.out.trans (hb.mono (by simp)))
  have HK1 := Lib.hid (HK0.out.later hb)
  clear hb
  obtain ⟨p0, p1, p2, p3, -⟩ := HK1.out.four
  go_wp2
  go_ret2
  exact ⟨rfl, HB1.out⟩

set_option maxHeartbeats 1000000 in
theorem spec_shutA (m : Mp) (c d : Int) (h : m.ok) (hA : ∀ a b ca cb w, IRow w b m.C → Calls Try.prog 77 #[.agg #[.int .i64 m.W, .int .i64 m.H, .slice a m.R.length ca, .slice b m.C.length cb], .int .i64 c] w fun e w' => e = .returned (.bool false) ∧ Below w.heap.size w w') (a b : Option Addr) (ca cb : Nat) (w : World) (hR : m.R.length ≤ maxLen) (hC : m.C.length ≤ maxLen) (hr : IRow w a m.R) (hc : IRow w b m.C) :
    Calls Try.prog 40 #[.agg #[.int .i64 m.W, .int .i64 m.H, .slice a m.R.length ca, .slice b m.C.length cb], .int .i64 c, .int .i64 d] w fun e w' => e = .returned (.tuple #[.int .i64 0, .bool false]) ∧ Below w.heap.size w w' := by
  have HB0 := Lib.hid ((Below.refl w.heap.size w).alloc (Nat.le_refl _) (.cells #[.int .i64 m.W, .int .i64 m.H, .slice a m.R.length ca, .slice b m.C.length cb] 26))
  have HK0 := Lib.hid (Blk.new w 26 #[.int .i64 m.W, .int .i64 m.H, .slice a m.R.length ca, .slice b m.C.length cb])
  have HK := Lib.hid (okB_yes h)
  clear h
  have HA := Lib.hid hA
  clear hA
  go_enter Try.func40, Try.ntmps40
  go_wp2_with fail
  refine (MapV.spec_any m a b ca cb _ hR hC (RowAt.below hr HB0.out) (RowAt.below hc HB0.out)).mono ?_
  rw [HK.out]
  rintro e w1 ⟨rfl, hb⟩
  have HB1 := Lib.hid (HB0.out.trans (hb.mono (by simp)))
  have HK1 := Lib.hid (HK0.out.later hb)
  clear hb
  obtain ⟨p0, p1, p2, p3, -⟩ := HK1.out.four
  go_wp2_with fail
  refine (HA.out a b ca cb _ (RowAt.below hc HB1.out)).mono ?_
  rintro e w2 ⟨rfl, hb⟩
  have HB2 := Lib.hid (HB1.out.trans (hb.mono HB1.out.size))
  have HK2 := Lib.hid (HK1.out.later hb)
  clear hb p0 p1 p2 p3
  obtain ⟨p0, p1, p2, p3, -⟩ := HK2.out.four
  go_wp2
  go_ret2
  exact ⟨rfl, HB2.out⟩

set_option maxHeartbeats 1000000 in
theorem spec_shutB (m : Mp) (c d : Int) (h : m.ok) (hA : ∀ a b ca cb w, IRow w b m.C → Calls Try.prog 77 #[.agg #[.int .i64 m.W, .int .i64 m.H, .slice a m.R.length ca, .slice b m.C.length cb], .int .i64 c] w fun e w' => e = .returned (.bool true) ∧ Below w.heap.size w w') (hB : ∀ a b ca cb w, IRow w b m.C → Calls Try.prog 77 #[.agg #[.int .i64 m.W, .int .i64 m.H, .slice a m.R.length ca, .slice b m.C.length cb], .int .i64 d] w fun e w' => e = .returned (.bool false) ∧ Below w.heap.size w w') (a b : Option Addr) (ca cb : Nat) (w : World) (hR : m.R.length ≤ maxLen) (hC : m.C.length ≤ maxLen) (hr : IRow w a m.R) (hc : IRow w b m.C) :
    Calls Try.prog 40 #[.agg #[.int .i64 m.W, .int .i64 m.H, .slice a m.R.length ca, .slice b m.C.length cb], .int .i64 c, .int .i64 d] w fun e w' => e = .returned (.tuple #[.int .i64 0, .bool false]) ∧ Below w.heap.size w w' := by
  have HB0 := Lib.hid ((Below.refl w.heap.size w).alloc (Nat.le_refl _) (.cells #[.int .i64 m.W, .int .i64 m.H, .slice a m.R.length ca, .slice b m.C.length cb] 26))
  have HK0 := Lib.hid (Blk.new w 26 #[.int .i64 m.W, .int .i64 m.H, .slice a m.R.length ca, .slice b m.C.length cb])
  have HK := Lib.hid (okB_yes h)
  clear h
  have HA := Lib.hid hA
  clear hA
  have HZ := Lib.hid hB
  clear hB
  go_enter Try.func40, Try.ntmps40
  go_wp2_with fail
  refine (MapV.spec_any m a b ca cb _ hR hC (RowAt.below hr HB0.out) (RowAt.below hc HB0.out)).mono ?_
  rw [HK.out]
  rintro e w1 ⟨rfl, hb⟩
  have HB1 := Lib.hid (HB0.out.trans (hb.mono (by simp)))
  have HK1 := Lib.hid (HK0.out.later hb)
  clear hb
  obtain ⟨p0, p1, p2, p3, -⟩ := HK1.out.four
  go_wp2_with fail
  refine (HA.out a b ca cb _ (RowAt.below hc HB1.out)).mono ?_
  rintro e w2 ⟨rfl, hb⟩
  have HB2 := Lib.hid (HB1.out.trans (hb.mono HB1.out.size))
  have HK2 := Lib.hid (HK1.out.later hb)
  clear hb p0 p1 p2 p3
  obtain ⟨p0, p1, p2, p3, -⟩ := HK2.out.four
  go_wp2_with fail
  refine (HZ.out a b ca cb _ (RowAt.below hc HB2.out)).mono ?_
  rintro e w3 ⟨rfl, hb⟩
  have HB3 := Lib.hid (HB2.out.trans (hb.mono HB2.out.size))
  have HK3 := Lib.hid (HK2.out.later hb)
  clear hb p0 p1 p2 p3
  obtain ⟨p0, p1, p2, p3, -⟩ := HK3.out.four
  go_wp2
  go_ret2
  exact ⟨rfl, HB3.out⟩

set_option maxHeartbeats 1000000 in
theorem spec_far (m : Mp) (ww hh : Nat) (g : GoodM m ww hh) (c : Nat) (d : Int) (h : m.ok) (hl : c < ww * hh) (hA : ∀ a b ca cb w, IRow w b m.C → Calls Try.prog 77 #[.agg #[.int .i64 m.W, .int .i64 m.H, .slice a m.R.length ca, .slice b m.C.length cb], .int .i64 c] w fun e w' => e = .returned (.bool true) ∧ Below w.heap.size w w') (hB : ∀ a b ca cb w, IRow w b m.C → Calls Try.prog 77 #[.agg #[.int .i64 m.W, .int .i64 m.H, .slice a m.R.length ca, .slice b m.C.length cb], .int .i64 d] w fun e w' => e = .returned (.bool true) ∧ Below w.heap.size w w') (hn : d ∉ ints (nx m c)) (a b : Option Addr) (ca cb : Nat) (w : World) (hR : m.R.length ≤ maxLen) (hC : m.C.length ≤ maxLen) (hr : IRow w a m.R) (hc : IRow w b m.C) :
    Calls Try.prog 40 #[.agg #[.int .i64 m.W, .int .i64 m.H, .slice a m.R.length ca, .slice b m.C.length cb], .int .i64 c, .int .i64 d] w fun e w' => e = .returned (.tuple #[.int .i64 0, .bool false]) ∧ Below w.heap.size w w' := by
  have HB0 := Lib.hid ((Below.refl w.heap.size w).alloc (Nat.le_refl _) (.cells #[.int .i64 m.W, .int .i64 m.H, .slice a m.R.length ca, .slice b m.C.length cb] 26))
  have HK0 := Lib.hid (Blk.new w 26 #[.int .i64 m.W, .int .i64 m.H, .slice a m.R.length ca, .slice b m.C.length cb])
  have HK := Lib.hid (okB_yes h)
  clear h
  have HA := Lib.hid hA
  clear hA
  have HZ := Lib.hid hB
  clear hB
  have HN := Lib.hid (decide_eq_false hn)
  have hxl : (ints (nx m c)).length ≤ maxLen := by rw [ints_length]; have := nx_length m c; unfold maxLen; omega
  clear hn
  go_enter Try.func40, Try.ntmps40
  go_wp2_with fail
  refine (MapV.spec_any m a b ca cb _ hR hC (RowAt.below hr HB0.out) (RowAt.below hc HB0.out)).mono ?_
  rw [HK.out]
  rintro e w1 ⟨rfl, hb⟩
  have HB1 := Lib.hid (HB0.out.trans (hb.mono (by simp)))
  have HK1 := Lib.hid (HK0.out.later hb)
  clear hb
  obtain ⟨p0, p1, p2, p3, -⟩ := HK1.out.four
  go_wp2_with fail
  refine (HA.out a b ca cb _ (RowAt.below hc HB1.out)).mono ?_
  rintro e w2 ⟨rfl, hb⟩
  have HB2 := Lib.hid (HB1.out.trans (hb.mono HB1.out.size))
  have HK2 := Lib.hid (HK1.out.later hb)
  clear hb p0 p1 p2 p3
  obtain ⟨p0, p1, p2, p3, -⟩ := HK2.out.four
  go_wp2_with fail
  refine (HZ.out a b ca cb _ (RowAt.below hc HB2.out)).mono ?_
  rintro e w3 ⟨rfl, hb⟩
  have HB3 := Lib.hid (HB2.out.trans (hb.mono HB2.out.size))
  have HK3 := Lib.hid (HK2.out.later hb)
  clear hb p0 p1 p2 p3
  obtain ⟨p0, p1, p2, p3, -⟩ := HK3.out.four
  go_wp2_with fail
  refine (spec_next m ww hh g a b ca cb c _ (RowAt.below hc HB3.out) hl).mono ?_
  rintro e w4 ⟨⟨v, rfl, ho⟩, hb⟩
  obtain ⟨s1, t1, e1, q1, -⟩ := OwnI.slice ho
  subst e1
  have HQ := Lib.hid q1
  clear ho q1
  have HB4 := Lib.hid (HB3.out.trans (hb.mono HB3.out.size))
  have HK4 := Lib.hid (HK3.out.later hb)
  clear hb p0 p1 p2 p3
  obtain ⟨p0, p1, p2, p3, -⟩ := HK4.out.four
  go_wp2_with fail
  refine (has_any s1 t1 (ints (nx m c)) d _ HQ.out hxl).mono ?_
  rw [HN.out]
  rintro e w5 ⟨rfl, rfl⟩
  go_wp2
  go_ret2
  exact ⟨rfl, HB4.out⟩

set_option maxHeartbeats 1000000 in
theorem spec_yes (m : Mp) (ww hh : Nat) (g : GoodM m ww hh) (c d : Nat) (h : m.ok) (hl : c < ww * hh) (hld : d < ww * hh) (hA : ∀ a b ca cb w, IRow w b m.C → Calls Try.prog 77 #[.agg #[.int .i64 m.W, .int .i64 m.H, .slice a m.R.length ca, .slice b m.C.length cb], .int .i64 c] w fun e w' => e = .returned (.bool true) ∧ Below w.heap.size w w') (hB : ∀ a b ca cb w, IRow w b m.C → Calls Try.prog 77 #[.agg #[.int .i64 m.W, .int .i64 m.H, .slice a m.R.length ca, .slice b m.C.length cb], .int .i64 d] w fun e w' => e = .returned (.bool true) ∧ Below w.heap.size w w') (hn : (d : Int) ∈ ints (nx m c)) (a b : Option Addr) (ca cb : Nat) (w : World) (hR : m.R.length ≤ maxLen) (hC : m.C.length ≤ maxLen) (hr : IRow w a m.R) (hc : IRow w b m.C) :
    Calls Try.prog 40 #[.agg #[.int .i64 m.W, .int .i64 m.H, .slice a m.R.length ca, .slice b m.C.length cb], .int .i64 c, .int .i64 d] w fun e w' => e = .returned (.tuple #[.int .i64 (stp m c d), .bool true]) ∧ Below w.heap.size w w' := by
  have HB0 := Lib.hid ((Below.refl w.heap.size w).alloc (Nat.le_refl _) (.cells #[.int .i64 m.W, .int .i64 m.H, .slice a m.R.length ca, .slice b m.C.length cb] 26))
  have HK0 := Lib.hid (Blk.new w 26 #[.int .i64 m.W, .int .i64 m.H, .slice a m.R.length ca, .slice b m.C.length cb])
  have HK := Lib.hid (okB_yes h)
  clear h
  have HA := Lib.hid hA
  clear hA
  have HZ := Lib.hid hB
  clear hB
  have HN := Lib.hid (decide_eq_true hn)
  have hxl : (ints (nx m c)).length ≤ maxLen := by rw [ints_length]; have := nx_length m c; unfold maxLen; omega
  clear hn
  go_enter Try.func40, Try.ntmps40
  go_wp2_with fail
  refine (MapV.spec_any m a b ca cb _ hR hC (RowAt.below hr HB0.out) (RowAt.below hc HB0.out)).mono ?_
  rw [HK.out]
  rintro e w1 ⟨rfl, hb⟩
  have HB1 := Lib.hid (HB0.out.trans (hb.mono (by simp)))
  have HK1 := Lib.hid (HK0.out.later hb)
  clear hb
  obtain ⟨p0, p1, p2, p3, -⟩ := HK1.out.four
  go_wp2_with fail
  refine (HA.out a b ca cb _ (RowAt.below hc HB1.out)).mono ?_
  rintro e w2 ⟨rfl, hb⟩
  have HB2 := Lib.hid (HB1.out.trans (hb.mono HB1.out.size))
  have HK2 := Lib.hid (HK1.out.later hb)
  clear hb p0 p1 p2 p3
  obtain ⟨p0, p1, p2, p3, -⟩ := HK2.out.four
  go_wp2_with fail
  refine (HZ.out a b ca cb _ (RowAt.below hc HB2.out)).mono ?_
  rintro e w3 ⟨rfl, hb⟩
  have HB3 := Lib.hid (HB2.out.trans (hb.mono HB2.out.size))
  have HK3 := Lib.hid (HK2.out.later hb)
  clear hb p0 p1 p2 p3
  obtain ⟨p0, p1, p2, p3, -⟩ := HK3.out.four
  go_wp2_with fail
  refine (spec_next m ww hh g a b ca cb c _ (RowAt.below hc HB3.out) hl).mono ?_
  rintro e w4 ⟨⟨v, rfl, ho⟩, hb⟩
  obtain ⟨s1, t1, e1, q1, -⟩ := OwnI.slice ho
  subst e1
  have HQ := Lib.hid q1
  clear ho q1
  have HB4 := Lib.hid (HB3.out.trans (hb.mono HB3.out.size))
  have HK4 := Lib.hid (HK3.out.later hb)
  clear hb p0 p1 p2 p3
  obtain ⟨p0, p1, p2, p3, -⟩ := HK4.out.four
  go_wp2_with fail
  refine (has_any s1 t1 (ints (nx m c)) d _ HQ.out hxl).mono ?_
  rw [HN.out]
  rintro e w5 ⟨rfl, rfl⟩
  go_wp2_with fail
  refine (spec_step m ww hh g a b ca cb c d _ (RowAt.below hr HB4.out) (RowAt.below hc HB4.out) hl hld).mono ?_
  rintro e w6 ⟨rfl, hb⟩
  go_wp2
  go_ret2
  exact ⟨rfl, HB4.out.trans (hb.mono HB4.out.size)⟩

set_option maxHeartbeats 1000000 in
theorem impl_out (m : Mp) (c d : Int) (h : m.ok) (ho : c < 0 ∨ (m.C.length : Int) ≤ c) (a b : Option Addr) (ca cb : Nat) (w : World) (hR : m.R.length ≤ maxLen) (hC : m.C.length ≤ maxLen) (hr : IRow w a m.R) (hc : IRow w b m.C) :
    Calls Try.prog 39 #[.agg #[.int .i64 m.W, .int .i64 m.H, .slice a m.R.length ca, .slice b m.C.length cb], .int .i64 c, .int .i64 d] w fun e w' => e = .returned (.tuple #[.int .i64 0, .bool false]) ∧ Below w.heap.size w w' := by
  have HB0 := Lib.hid ((Below.refl w.heap.size w).alloc (Nat.le_refl _) (.cells #[.int .i64 m.W, .int .i64 m.H, .slice a m.R.length ca, .slice b m.C.length cb] 26))
  have HK0 := Lib.hid (Blk.new w 26 #[.int .i64 m.W, .int .i64 m.H, .slice a m.R.length ca, .slice b m.C.length cb])
  have HK := Lib.hid (okB_yes h)
  clear h
  have HO := Lib.hid ho
  clear ho
  go_enter Try.func39, Try.ntmps39
  go_wp2_with fail
  refine (MapV.impl_any m a b ca cb _ hR hC (RowAt.below hr HB0.out) (RowAt.below hc HB0.out)).mono ?_
  rw [HK.out]
  rintro e w1 ⟨rfl, hb⟩
  have HB1 := Lib.hid (HB0.out.trans (hb.mono (by simp)))
  have HK1 := Lib.hid (HK0.out.later hb)
  clear hb
  obtain ⟨p0, p1, p2, p3, -⟩ := HK1.out.four
  go_wp2_with fail
  refine (cell_no m a b ca cb c _ HO.out hC).mono ?_
  rintro e w2 ⟨rfl, hb⟩
  have HB2 := Lib.hid (HB1.out.trans (hb.mono HB1.out.size))
  have HK2 := Lib.hid (HK1.out.later hb)
  clear hb p0 p1 p2 p3
  obtain ⟨p0, p1, p2, p3, -⟩ := HK2.out.four
  go_wp2
  go_ret2
  exact ⟨rfl, HB2.out⟩

set_option maxHeartbeats 1000000 in
theorem impl_forb (m : Mp) (ww hh : Nat) (g : GoodM m ww hh) (c : Nat) (d : Int) (h : m.ok) (hl : c < ww * hh) (ho : zAt m.C c = 0) (a b : Option Addr) (ca cb : Nat) (w : World) (hR : m.R.length ≤ maxLen) (hC : m.C.length ≤ maxLen) (hr : IRow w a m.R) (hc : IRow w b m.C) :
    Calls Try.prog 39 #[.agg #[.int .i64 m.W, .int .i64 m.H, .slice a m.R.length ca, .slice b m.C.length cb], .int .i64 c, .int .i64 d] w fun e w' => e = .returned (.tuple #[.int .i64 0, .bool false]) ∧ Below w.heap.size w w' := by
  have HB0 := Lib.hid ((Below.refl w.heap.size w).alloc (Nat.le_refl _) (.cells #[.int .i64 m.W, .int .i64 m.H, .slice a m.R.length ca, .slice b m.C.length cb] 26))
  have HK0 := Lib.hid (Blk.new w 26 #[.int .i64 m.W, .int .i64 m.H, .slice a m.R.length ca, .slice b m.C.length cb])
  have HK := Lib.hid (okB_yes h)
  clear h
  have HL := Lib.hid (show c < m.C.length by rw [g.C]; exact hl)
  have HO := Lib.hid ho
  clear ho
  go_enter Try.func39, Try.ntmps39
  go_wp2_with fail
  refine (MapV.impl_any m a b ca cb _ hR hC (RowAt.below hr HB0.out) (RowAt.below hc HB0.out)).mono ?_
  rw [HK.out]
  rintro e w1 ⟨rfl, hb⟩
  have HB1 := Lib.hid (HB0.out.trans (hb.mono (by simp)))
  have HK1 := Lib.hid (HK0.out.later hb)
  clear hb
  obtain ⟨p0, p1, p2, p3, -⟩ := HK1.out.four
  go_wp2_with fail
  refine (cell_yes m a b ca cb c _ HL.out hC).mono ?_
  rintro e w2 ⟨rfl, hb⟩
  have HB2 := Lib.hid (HB1.out.trans (hb.mono HB1.out.size))
  have HK2 := Lib.hid (HK1.out.later hb)
  clear hb p0 p1 p2 p3
  obtain ⟨p0, p1, p2, p3, -⟩ := HK2.out.four
  go_wp2_with fail
  refine (forb_yes m a b ca cb c _ (RowAt.below hc HB2.out) HL.out hC HO.out).mono ?_
  rintro e w3 ⟨rfl, hb⟩
  have HB3 := Lib.hid (HB2.out.trans (hb.mono HB2.out.size))
  have HK3 := Lib.hid (HK2.out.later hb)
  clear hb p0 p1 p2 p3
  obtain ⟨p0, p1, p2, p3, -⟩ := HK3.out.four
  go_wp2
  go_ret2
  exact ⟨rfl, HB3.out⟩

set_option maxHeartbeats 1000000 in
theorem impl_far (m : Mp) (ww hh : Nat) (g : GoodM m ww hh) (c : Nat) (d : Int) (h : m.ok) (hl : c < ww * hh) (ho : zAt m.C c ≠ 0) (hn : d ∉ ints (nx m c)) (a b : Option Addr) (ca cb : Nat) (w : World) (hR : m.R.length ≤ maxLen) (hC : m.C.length ≤ maxLen) (hr : IRow w a m.R) (hc : IRow w b m.C) :
    Calls Try.prog 39 #[.agg #[.int .i64 m.W, .int .i64 m.H, .slice a m.R.length ca, .slice b m.C.length cb], .int .i64 c, .int .i64 d] w fun e w' => e = .returned (.tuple #[.int .i64 0, .bool false]) ∧ Below w.heap.size w w' := by
  have HB0 := Lib.hid ((Below.refl w.heap.size w).alloc (Nat.le_refl _) (.cells #[.int .i64 m.W, .int .i64 m.H, .slice a m.R.length ca, .slice b m.C.length cb] 26))
  have HK0 := Lib.hid (Blk.new w 26 #[.int .i64 m.W, .int .i64 m.H, .slice a m.R.length ca, .slice b m.C.length cb])
  have HK := Lib.hid (okB_yes h)
  clear h
  have HL := Lib.hid (show c < m.C.length by rw [g.C]; exact hl)
  have HO := Lib.hid ho
  clear ho
  have HN := Lib.hid (decide_eq_false hn)
  have hxl : (ints (nx m c)).length ≤ 4 := by rw [ints_length]; exact nx_length m c
  clear hn
  go_enter Try.func39, Try.ntmps39
  go_wp2_with fail
  refine (MapV.impl_any m a b ca cb _ hR hC (RowAt.below hr HB0.out) (RowAt.below hc HB0.out)).mono ?_
  rw [HK.out]
  rintro e w1 ⟨rfl, hb⟩
  have HB1 := Lib.hid (HB0.out.trans (hb.mono (by simp)))
  have HK1 := Lib.hid (HK0.out.later hb)
  clear hb
  obtain ⟨p0, p1, p2, p3, -⟩ := HK1.out.four
  go_wp2_with fail
  refine (cell_yes m a b ca cb c _ HL.out hC).mono ?_
  rintro e w2 ⟨rfl, hb⟩
  have HB2 := Lib.hid (HB1.out.trans (hb.mono HB1.out.size))
  have HK2 := Lib.hid (HK1.out.later hb)
  clear hb p0 p1 p2 p3
  obtain ⟨p0, p1, p2, p3, -⟩ := HK2.out.four
  go_wp2_with fail
  refine (forb_no m a b ca cb c _ (RowAt.below hc HB2.out) HL.out hC HO.out).mono ?_
  rintro e w3 ⟨rfl, hb⟩
  have HB3 := Lib.hid (HB2.out.trans (hb.mono HB2.out.size))
  have HK3 := Lib.hid (HK2.out.later hb)
  clear hb p0 p1 p2 p3
  obtain ⟨p0, p1, p2, p3, -⟩ := HK3.out.four
  go_wp2_with fail
  refine (impl_next m ww hh g a b ca cb c _ (RowAt.below hc HB3.out) hl).mono ?_
  rintro e w4 ⟨⟨v, rfl, ho⟩, hb⟩
  obtain ⟨s1, t1, e1, q1, -⟩ := OwnI.slice ho
  subst e1
  have HQ := Lib.hid q1
  clear ho q1
  have HB4 := Lib.hid (HB3.out.trans (hb.mono HB3.out.size))
  have HK4 := Lib.hid (HK3.out.later hb)
  clear hb p0 p1 p2 p3
  obtain ⟨p0, p1, p2, p3, -⟩ := HK4.out.four
  go_wp2_with fail
  refine (cont_any s1 t1 (ints (nx m c)) d _ HQ.out hxl).mono ?_
  rw [HN.out]
  rintro e w5 ⟨rfl, rfl⟩
  go_wp2
  go_ret2
  exact ⟨rfl, HB4.out⟩

set_option maxHeartbeats 1000000 in
theorem impl_yes (m : Mp) (ww hh : Nat) (g : GoodM m ww hh) (c d : Nat) (h : m.ok) (hl : c < ww * hh) (hld : d < ww * hh) (ho : zAt m.C c ≠ 0) (hn : (d : Int) ∈ ints (nx m c)) (a b : Option Addr) (ca cb : Nat) (w : World) (hR : m.R.length ≤ maxLen) (hC : m.C.length ≤ maxLen) (hr : IRow w a m.R) (hc : IRow w b m.C) :
    Calls Try.prog 39 #[.agg #[.int .i64 m.W, .int .i64 m.H, .slice a m.R.length ca, .slice b m.C.length cb], .int .i64 c, .int .i64 d] w fun e w' => e = .returned (.tuple #[.int .i64 (stp m c d), .bool true]) ∧ Below w.heap.size w w' := by
  have HB0 := Lib.hid ((Below.refl w.heap.size w).alloc (Nat.le_refl _) (.cells #[.int .i64 m.W, .int .i64 m.H, .slice a m.R.length ca, .slice b m.C.length cb] 26))
  have HK0 := Lib.hid (Blk.new w 26 #[.int .i64 m.W, .int .i64 m.H, .slice a m.R.length ca, .slice b m.C.length cb])
  have HK := Lib.hid (okB_yes h)
  clear h
  have HL := Lib.hid (show c < m.C.length by rw [g.C]; exact hl)
  have HO := Lib.hid ho
  clear ho
  have HN := Lib.hid (decide_eq_true hn)
  have hxl : (ints (nx m c)).length ≤ 4 := by rw [ints_length]; exact nx_length m c
  clear hn
  go_enter Try.func39, Try.ntmps39
  go_wp2_with fail
  refine (MapV.impl_any m a b ca cb _ hR hC (RowAt.below hr HB0.out) (RowAt.below hc HB0.out)).mono ?_
  rw [HK.out]
  rintro e w1 ⟨rfl, hb⟩
  have HB1 := Lib.hid (HB0.out.trans (hb.mono (by simp)))
  have HK1 := Lib.hid (HK0.out.later hb)
  clear hb
  obtain ⟨p0, p1, p2, p3, -⟩ := HK1.out.four
  go_wp2_with fail
  refine (cell_yes m a b ca cb c _ HL.out hC).mono ?_
  rintro e w2 ⟨rfl, hb⟩
  have HB2 := Lib.hid (HB1.out.trans (hb.mono HB1.out.size))
  have HK2 := Lib.hid (HK1.out.later hb)
  clear hb p0 p1 p2 p3
  obtain ⟨p0, p1, p2, p3, -⟩ := HK2.out.four
  go_wp2_with fail
  refine (forb_no m a b ca cb c _ (RowAt.below hc HB2.out) HL.out hC HO.out).mono ?_
  rintro e w3 ⟨rfl, hb⟩
  have HB3 := Lib.hid (HB2.out.trans (hb.mono HB2.out.size))
  have HK3 := Lib.hid (HK2.out.later hb)
  clear hb p0 p1 p2 p3
  obtain ⟨p0, p1, p2, p3, -⟩ := HK3.out.four
  go_wp2_with fail
  refine (impl_next m ww hh g a b ca cb c _ (RowAt.below hc HB3.out) hl).mono ?_
  rintro e w4 ⟨⟨v, rfl, ho⟩, hb⟩
  obtain ⟨s1, t1, e1, q1, -⟩ := OwnI.slice ho
  subst e1
  have HQ := Lib.hid q1
  clear ho q1
  have HB4 := Lib.hid (HB3.out.trans (hb.mono HB3.out.size))
  have HK4 := Lib.hid (HK3.out.later hb)
  clear hb p0 p1 p2 p3
  obtain ⟨p0, p1, p2, p3, -⟩ := HK4.out.four
  go_wp2_with fail
  refine (cont_any s1 t1 (ints (nx m c)) d _ HQ.out hxl).mono ?_
  rw [HN.out]
  rintro e w5 ⟨rfl, rfl⟩
  go_wp2_with fail
  refine (impl_step m ww hh g a b ca cb c d _ (RowAt.below hr HB4.out) (RowAt.below hc HB4.out) hl hld).mono ?_
  rintro e w6 ⟨rfl, hb⟩
  go_wp2
  go_ret2
  exact ⟨rfl, HB4.out.trans (hb.mono HB4.out.size)⟩

theorem mem_ints {l : List Nat} {d : Int} : d ∈ ints l ↔ ∃ k : Nat, d = k ∧ k ∈ l := by
  unfold ints
  rw [List.mem_map]
  constructor
  · rintro ⟨k, h, e⟩; exact ⟨k, e.symm, h⟩
  · rintro ⟨k, e, h⟩; exact ⟨k, h, e.symm⟩

/-- What both answer. -/
theorem both_v (m : Mp) (c d : Int) : ∃ (n : Int) (ok : Bool), (ok = true → 1 ≤ n) ∧
    (∀ a b ca cb w, m.R.length ≤ maxLen → m.C.length ≤ maxLen → IRow w a m.R → IRow w b m.C → Calls Try.prog 40 #[.agg #[.int .i64 m.W, .int .i64 m.H, .slice a m.R.length ca, .slice b m.C.length cb], .int .i64 c, .int .i64 d] w fun e w' => e = .returned (.tuple #[.int .i64 n, .bool ok]) ∧ Below w.heap.size w w') ∧
    (∀ a b ca cb w, m.R.length ≤ maxLen → m.C.length ≤ maxLen → IRow w a m.R → IRow w b m.C → Calls Try.prog 39 #[.agg #[.int .i64 m.W, .int .i64 m.H, .slice a m.R.length ca, .slice b m.C.length cb], .int .i64 c, .int .i64 d] w fun e w' => e = .returned (.tuple #[.int .i64 n, .bool ok]) ∧ Below w.heap.size w w') := by
  by_cases h : m.ok
  · obtain ⟨ww, hh, g⟩ := good_of h
    have hC' := g.C
    obtain ⟨oa, ha, hA⟩ := sopen m ww hh g c
    obtain ⟨ob, hb, hB⟩ := sopen m ww hh g d
    cases oa with
    | false =>
      refine ⟨0, false, (fun e => by cases e), fun a b ca cb w hR hC hr hc => spec_shutA m c d h hA a b ca cb w hR hC hr hc, ?_⟩
      by_cases ho : c < 0 ∨ (m.C.length : Int) ≤ c
      · exact fun a b ca cb w hR hC hr hc => impl_out m c d h ho a b ca cb w hR hC hr hc
      · obtain ⟨k, rfl⟩ : ∃ k : Nat, c = k := ⟨c.toNat, by omega⟩
        have hk : k < ww * hh := by omega
        have hz : zAt m.C k = 0 := by
          have := (g.cell k hk).2.2.1
          by_cases hp : 0 < zAt m.C k
          · exact absurd (ha.2 ⟨k, rfl, hk, hp⟩) (by simp)
          · omega
        exact fun a b ca cb w hR hC hr hc => impl_forb m ww hh g k d h hk hz a b ca cb w hR hC hr hc
    | true =>
      obtain ⟨k, rfl, hk, hp⟩ := ha.1 rfl
      have hz : zAt m.C k ≠ 0 := by omega
      by_cases hn : d ∈ ints (nx m k)
      · obtain ⟨j, rfl, hj⟩ := mem_ints.1 hn
        obtain ⟨hjl, hjo⟩ := nx_lt g hk hj
        have hob : ob = true := hb.2 ⟨j, rfl, hjl, hjo⟩
        subst hob
        refine ⟨stp m k j, true, fun _ => ?_, fun a b ca cb w hR hC hr hc => spec_yes m ww hh g k j h hk hjl hA hB hn a b ca cb w hR hC hr hc, fun a b ca cb w hR hC hr hc => impl_yes m ww hh g k j h hk hjl hz hn a b ca cb w hR hC hr hc⟩
        unfold stp
        split
        · omega
        · split <;> omega
      · refine ⟨0, false, (fun e => by cases e), ?_, fun a b ca cb w hR hC hr hc => impl_far m ww hh g k d h hk hz hn a b ca cb w hR hC hr hc⟩
        cases ob with
        | false => exact fun a b ca cb w hR hC hr hc => spec_shutB m k d h hA hB a b ca cb w hR hC hr hc
        | true => exact fun a b ca cb w hR hC hr hc => spec_far m ww hh g k d h hk hA hB hn a b ca cb w hR hC hr hc
  · exact ⟨0, false, (fun e => by cases e), fun a b ca cb w hR hC hr hc => spec_bad m c d h a b ca cb w hR hC hr hc, fun a b ca cb w hR hC hr hc => impl_bad m c d h a b ca cb w hR hC hr hc⟩

theorem both_w (m : Mp) (c d : Int) : ∃ (n : Int) (ok : Bool),
    (∀ a b ca cb w, m.R.length ≤ maxLen → m.C.length ≤ maxLen → IRow w a m.R → IRow w b m.C → Calls Try.prog 40 #[.agg #[.int .i64 m.W, .int .i64 m.H, .slice a m.R.length ca, .slice b m.C.length cb], .int .i64 c, .int .i64 d] w fun e w' => e = .returned (.tuple #[.int .i64 n, .bool ok]) ∧ Below w.heap.size w w') ∧
    (∀ a b ca cb w, m.R.length ≤ maxLen → m.C.length ≤ maxLen → IRow w a m.R → IRow w b m.C → Calls Try.prog 39 #[.agg #[.int .i64 m.W, .int .i64 m.H, .slice a m.R.length ca, .slice b m.C.length cb], .int .i64 c, .int .i64 d] w fun e w' => e = .returned (.tuple #[.int .i64 n, .bool ok]) ∧ Below w.heap.size w w') := by
  obtain ⟨n, ok, _, h1, h2⟩ := both_v m c d
  exact ⟨n, ok, h1, h2⟩

end Go.Proofs.Ytijcdnmcmngheaa.StepC
