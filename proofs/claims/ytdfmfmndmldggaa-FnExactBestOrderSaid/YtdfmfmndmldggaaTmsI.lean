/- The least times from a cell and to a cell: the program's two ways. -/
import Derived.Test.YtdfmfmndmldggaaDjkF
import Derived.Test.YtdfmfmndmldggaaDjkT
import Derived.Test.YtdfmfmndmldggaaOpnI
namespace Go.Proofs.Ytdfmfmndmldggaa.TmsI
open Go.RowKit Lb IntS MapS MapV High Cells StepT StpF SpecB DjkB OpnI
set_option linter.unusedSimpArgs false
set_option linter.unusedVariables false

theorem index_times (tm : Nat → Int) (j : Nat) (hj : j < 36) (W : World) : (Instr.index 111 (.agg (timeCs tm)) (.int .i64 j)).run Try.prog W = .ok (.int .i64 (tm j)) W := by
  have h1 : (j : Int) < 36 := by omega
  have h2 : (timeCs tm)[j]? = some (.int .i64 (tm j)) := by simp [timeCs, hj]
  simp [Instr.index, run_underlying Try.underlying111, asIntOf, go_sem, h1, hj, h2]
theorem blk_cell {w : World} {g : Nat} {t : TypeId} {cs : Array Value} (h : Blk w g t cs) (k : Nat) : w.cell? ⟨g, k, none⟩ = cs[k]? := by
  unfold Blk at h
  simp [World.cell?, h]
theorem irow_new (w : World) (zs : List Int) : IRow (w.alloc (.cells (zs.map (Value.int .i64)).toArray 3)) (some ⟨w.heap.size, 0, none⟩) zs := by
  refine .inr ⟨w.heap.size, 0, rfl, fun k hk => ?_⟩
  rw [Nat.zero_add, blk_cell (Blk.new w 3 (zs.map (Value.int .i64)).toArray) k]
  simp [zAt, hk]
/-- An array of times that is stored into a block of its own. -/
theorem stored_new (w : World) (tm : Nat → Int) : Blk ((w.alloc (.cells (timeCs fun _ => 0) 111)).setCells w.heap.size 0 (timeL tm)) w.heap.size 111 (timeCs tm) ∧ Below w.heap.size w ((w.alloc (.cells (timeCs fun _ => 0) 111)).setCells w.heap.size 0 (timeL tm)) :=
  ⟨blk_times (Blk.new w 111 (timeCs fun _ => 0)), setCells_below (g := w.heap.size) (Nat.le_refl _) (timeL tm) 0 _ ((Below.refl _ _).alloc (Nat.le_refl _) _)⟩
theorem there_new (w : World) : (w.alloc (.cells (timeCs fun _ => 0) 111)).there w.heap.size 0 36 := blk_there (Blk.new w 111 (timeCs fun _ => 0))

set_option maxRecDepth 100000 in
set_option maxHeartbeats 1000000 in
theorem from_any (m : Mp) (ww hh : Nat) (g : GoodM m ww hh) (a b : Option Addr) (ca cb s : Nat) (w : World) (hr : IRow w a m.R) (hc : IRow w b m.C) (hs : Opn m (ww * hh) s) (D : Nat → Int) (hD : IsD m (stp m) s D) :
    Calls Try.prog 105 #[.agg #[.int .i64 m.W, .int .i64 m.H, .slice a m.R.length ca, .slice b m.C.length cb], .int .i64 s] w fun e w' => e = .returned (.agg (timeCs fun i => tmOf (D i))) ∧ Below w.heap.size w w' := by
  have hmf : ∀ (fn : Fn) (first cap : Array Value) (w : World), (Instr.makeFunc fn first cap).run Try.prog w = .ok (.func fn first cap) w := fun _ _ _ _ => rfl
  have HB := Lib.hid (show Below w.heap.size w ((w.alloc (.cells #[.int .i64 m.W, .int .i64 m.H, .slice a m.R.length ca, .slice b m.C.length cb] 26)).alloc (.cells (timeCs fun _ => 0) 111)) from ((Below.refl _ _).alloc (Nat.le_refl _) _).alloc (by simp) _)
  have HM := Lib.hid (show Bm ((w.alloc (.cells #[.int .i64 m.W, .int .i64 m.H, .slice a m.R.length ca, .slice b m.C.length cb] 26)).alloc (.cells (timeCs fun _ => 0) 111)) w.heap.size m a b ca cb from ⟨(Blk.new w 26 #[.int .i64 m.W, .int .i64 m.H, .slice a m.R.length ca, .slice b m.C.length cb]).alloc _, RowAt.below hr HB.out, RowAt.below hc HB.out⟩)
  have HT := Lib.hid (show Blk ((w.alloc (.cells #[.int .i64 m.W, .int .i64 m.H, .slice a m.R.length ca, .slice b m.C.length cb] 26)).alloc (.cells (timeCs fun _ => 0) 111)) (w.heap.size + 1) 111 (timeCs fun _ => 0) from by
    have := Blk.new (w.alloc (.cells #[.int .i64 m.W, .int .i64 m.H, .slice a m.R.length ca, .slice b m.C.length cb] 26)) 111 (timeCs fun _ => 0)
    rwa [World.size_alloc] at this)
  have HG := Lib.hid g
  have HS := Lib.hid hs
  have HD := Lib.hid hD
  clear g hr hc hs hD
  go_enter Try.func105, Try.ntmps105
  go_wp2_with fail
  refine (DjkF.least_any m ww hh HG.out a b ca cb w.heap.size s _ HM.out HS.out (stp m) (wts_from HG.out) (fun c d w' H' hc hd => StpF.from_any m ww hh HG.out a b ca cb w.heap.size c d w' H' hc hd) D HD.out).mono ?_
  rintro e w2 ⟨rfl, hb2⟩
  have HB2 := Lib.hid (HB.out.trans (hb2.mono HB.out.size))
  have HT2 := Lib.hid (HT.out.later hb2)
  clear hb2 HB HM HT
  go_wp2_with (with_reducible show wpList _ _ _ _ _ _; refine wpList_store_mid rfl 111 (.tmp 4) (.tmp 8) rfl (w.heap.size + 1) 0 (timeL fun i => tmOf (D i)).toArray rfl rfl (by rw [timeS_len]; exact blk_there HT2.out) (by rw [timeS_len]; exact info_times) (all_oneCell_toArray timeL_one) ?_)
  have h1 : w.heap.size ≤ w.heap.size + 1 := Nat.le_succ _
  refine bodyPost_ret (v := .agg (timeCs fun i => tmOf (D i))) (ret_times (blk_times HT2.out) Try.results105 _ rfl) rfl ⟨rfl, setCells_below (g := w.heap.size + 1) h1 (timeL fun i => tmOf (D i)) 0 w2 HB2.out⟩

set_option maxRecDepth 100000 in
set_option maxHeartbeats 1000000 in
theorem to_any (m : Mp) (ww hh : Nat) (g : GoodM m ww hh) (a b : Option Addr) (ca cb s : Nat) (w : World) (hr : IRow w a m.R) (hc : IRow w b m.C) (hs : Opn m (ww * hh) s) (D : Nat → Int) (hD : IsD m (fun x y => stp m y x) s D) :
    Calls Try.prog 117 #[.agg #[.int .i64 m.W, .int .i64 m.H, .slice a m.R.length ca, .slice b m.C.length cb], .int .i64 s] w fun e w' => e = .returned (.agg (timeCs fun i => tmOf (D i))) ∧ Below w.heap.size w w' := by
  have hmf : ∀ (fn : Fn) (first cap : Array Value) (w : World), (Instr.makeFunc fn first cap).run Try.prog w = .ok (.func fn first cap) w := fun _ _ _ _ => rfl
  have HB := Lib.hid (show Below w.heap.size w ((w.alloc (.cells #[.int .i64 m.W, .int .i64 m.H, .slice a m.R.length ca, .slice b m.C.length cb] 26)).alloc (.cells (timeCs fun _ => 0) 111)) from ((Below.refl _ _).alloc (Nat.le_refl _) _).alloc (by simp) _)
  have HM := Lib.hid (show Bm ((w.alloc (.cells #[.int .i64 m.W, .int .i64 m.H, .slice a m.R.length ca, .slice b m.C.length cb] 26)).alloc (.cells (timeCs fun _ => 0) 111)) w.heap.size m a b ca cb from ⟨(Blk.new w 26 #[.int .i64 m.W, .int .i64 m.H, .slice a m.R.length ca, .slice b m.C.length cb]).alloc _, RowAt.below hr HB.out, RowAt.below hc HB.out⟩)
  have HT := Lib.hid (show Blk ((w.alloc (.cells #[.int .i64 m.W, .int .i64 m.H, .slice a m.R.length ca, .slice b m.C.length cb] 26)).alloc (.cells (timeCs fun _ => 0) 111)) (w.heap.size + 1) 111 (timeCs fun _ => 0) from by
    have := Blk.new (w.alloc (.cells #[.int .i64 m.W, .int .i64 m.H, .slice a m.R.length ca, .slice b m.C.length cb] 26)) 111 (timeCs fun _ => 0)
    rwa [World.size_alloc] at this)
  have HG := Lib.hid g
  have HS := Lib.hid hs
  have HD := Lib.hid hD
  clear g hr hc hs hD
  go_enter Try.func117, Try.ntmps117
  go_wp2_with fail
  refine (DjkT.least_any m ww hh HG.out a b ca cb w.heap.size s _ HM.out HS.out (fun x y => stp m y x) (wts_to HG.out) (fun c d w' H' hc hd => StpF.to_any m ww hh HG.out a b ca cb w.heap.size c d w' H' hc hd) D HD.out).mono ?_
  rintro e w2 ⟨rfl, hb2⟩
  have HB2 := Lib.hid (HB.out.trans (hb2.mono HB.out.size))
  have HT2 := Lib.hid (HT.out.later hb2)
  clear hb2 HB HM HT
  go_wp2_with (with_reducible show wpList _ _ _ _ _ _; refine wpList_store_mid rfl 111 (.tmp 4) (.tmp 8) rfl (w.heap.size + 1) 0 (timeL fun i => tmOf (D i)).toArray rfl rfl (by rw [timeS_len]; exact blk_there HT2.out) (by rw [timeS_len]; exact info_times) (all_oneCell_toArray timeL_one) ?_)
  have h1 : w.heap.size ≤ w.heap.size + 1 := Nat.le_succ _
  refine bodyPost_ret (v := .agg (timeCs fun i => tmOf (D i))) (ret_times (blk_times HT2.out) Try.results117 _ rfl) rfl ⟨rfl, setCells_below (g := w.heap.size + 1) h1 (timeL fun i => tmOf (D i)) 0 w2 HB2.out⟩

end Go.Proofs.Ytdfmfmndmldggaa.TmsI
