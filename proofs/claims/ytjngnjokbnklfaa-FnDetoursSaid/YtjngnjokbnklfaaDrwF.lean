/- Drawn maps with an open cell: contracts. -/
import Derived.Test.YtjngnjokbnklfaaOpnD
import Derived.Test.YtjngnjokbnklfaaDSt
namespace Go.Proofs.Ytjngnjokbnklfaa.DrwM
open Go.RowKit Lb Cur IntS MapS MapV SpecB CurM CodM
set_option linter.unusedSimpArgs false
set_option linter.unusedVariables false

set_option maxRecDepth 100000 in
set_option maxHeartbeats 4000000 in
theorem far_draw (a : Option Addr) (n cap : Nat) (xs : Nat → Nat) (w : World) (hc : Bytes w a n xs) :
    Calls Try.prog 37 #[.slice a n cap] w (CPost w) := by
  have HB := Lib.hid ((Below.refl w.heap.size w).alloc (Nat.le_refl _) (.cells #[.int .i64 0, .int .i64 0, .slice none 0 0, .slice none 0 0] 26))
  have HQ0 := Lib.hid (Blk.new w 26 #[.int .i64 0, .int .i64 0, .slice none 0 0, .slice none 0 0])
  have c1 := Lib.hid (MapD.map_any _ 0 _ (by omega) (begin_ (hc.below HB.out) cap))
  rw [World.size_alloc] at c1
  clear hc
  go_enter Try.func37, Try.ntmps37
  go_wp2_with fail
  refine c1.out.mono ?_
  rintro e w1 ⟨⟨v, rfl, m, ho, hR, hC⟩, hok1, hg1⟩
  obtain ⟨ar, cr, ac, cc, rfl, h1, h2, hne⟩ := ho
  rw [World.size_alloc, World.size_alloc] at h1 h2
  have HB1 := Lib.hid (below_of_grown (HB.out.alloc (by simp) _) hg1 (by simp; omega) (by simp))
  have HQ1 := Lib.hid (blk_grown (HQ0.out.alloc _) hg1 (by simp))
  have hz := HQ1.out.lt
  have HM1 := Lib.hid (Blk.new w1 26 #[.int .i64 m.W, .int .i64 m.H, .slice ar m.R.length cr, .slice ac m.C.length cc])
  have HA := Lib.hid (show Below w1.heap.size w1 (w1.alloc (.cells #[.int .i64 m.W, .int .i64 m.H, .slice ar m.R.length cr, .slice ac m.C.length cc] 26)) from (Below.refl _ _).alloc (Nat.le_refl _) _)
  have hb1 := hok1.lt
  have R1 : IRow (w1.alloc (.cells #[.int .i64 m.W, .int .i64 m.H, .slice ar m.R.length cr, .slice ac m.C.length cc] 26)).drew ar m.R := row_beside (r := none) (OwnI.row h1) (gbelow HA.out.drew none) (by simp)
  have R2 : IRow (w1.alloc (.cells #[.int .i64 m.W, .int .i64 m.H, .slice ar m.R.length cr, .slice ac m.C.length cc] 26)).drew ac m.C := row_beside (r := none) (OwnI.row h2) (gbelow HA.out.drew none) (by simp)
  have c2 := Lib.hid (open_any (w.heap.size + 1) (0 + 200) m ar ac cr cc _ (by omega) hR hC R1 R2 (fun x e => by have := (OwnI.lt h1 x e).1; omega) (fun x e => by have := (OwnI.lt h2 x e).1; omega) (ok_drew (hok1.below HA.out)))
  clear R1 R2
  have H1 := Lib.hid h1
  have H2 := Lib.hid h2
  have HN := Lib.hid hne
  clear hg1 h1 h2 hne hok1 c1
  obtain ⟨p0, p1, p2, p3, -⟩ := HM1.out.four
  go_upto_region 3 with (fail)
  go_region_with (go_at_call 88; refine c2.out.mono ?_; rintro e w2 ⟨⟨z, rfl⟩, -, hg2⟩; have HM2 := Lib.hid (blk_grown (show Blk (w1.alloc (.cells #[.int .i64 m.W, .int .i64 m.H, .slice ar m.R.length cr, .slice ac m.C.length cc] 26)).drew w1.heap.size 26 #[.int .i64 m.W, .int .i64 m.H, .slice ar m.R.length cr, .slice ac m.C.length cc] from HM1.out) hg2 (by simp; omega)); have HQ2 := Lib.hid (blk_grown (show Blk (w1.alloc (.cells #[.int .i64 m.W, .int .i64 m.H, .slice ar m.R.length cr, .slice ac m.C.length cc] 26)).drew w.heap.size 26 #[.int .i64 0, .int .i64 0, .slice none 0 0, .slice none 0 0] from HQ1.out.alloc _) hg2 (by simp)); have HB2 := Lib.hid (below_of_grown (show Below w.heap.size w (w1.alloc (.cells #[.int .i64 m.W, .int .i64 m.H, .slice ar m.R.length cr, .slice ac m.C.length cc] 26)).drew from (HB1.out.alloc HB1.out.size _).drew) hg2 (by show w.heap.size ≤ (w1.alloc _).heap.size; simp; omega) (by omega)); have O1 := Lib.hid (own_grown (show OwnI (w1.alloc (.cells #[.int .i64 m.W, .int .i64 m.H, .slice ar m.R.length cr, .slice ac m.C.length cc] 26)).drew (w.heap.size + 1 + 1) (.slice ar m.R.length cr) m.R from World.ownsRow.alloc H1.out _) hg2 (fun x y hx hy => by cases hy; have := (H1.out.lt x hx).1; omega)); have O2 := Lib.hid (own_grown (show OwnI (w1.alloc (.cells #[.int .i64 m.W, .int .i64 m.H, .slice ar m.R.length cr, .slice ac m.C.length cc] 26)).drew (w.heap.size + 1 + 1) (.slice ac m.C.length cc) m.C from World.ownsRow.alloc H2.out _) hg2 (fun x y hx hy => by cases hy; have := (H2.out.lt x hx).1; omega)); obtain ⟨k0, k1, k2, k3, -⟩ := HM2.out.four; obtain ⟨r0, r1, r2, r3, l0, l1, l2, l3⟩ := HQ2.out.four; have hx1 := HQ2.out.lt; have hx2 := HM2.out.lt; clear hg2)
  all_goals
    go_wp2
    refine bodyPost_ret (v := .tuple #[.agg #[.int .i64 m.W, .int .i64 m.H, .slice ar m.R.length cr, .slice ac m.C.length cc], .int .i64 z]) (by simp [results, Try.results37, go_sem, r0, r1, r2, r3]) rfl ⟨_, z, rfl, ⟨m, ⟨ar, cr, ac, cc, rfl, ?_, ?_, HN.out⟩, hR, hC⟩, ?_⟩
    · have h := O1.out
      refine rebase (b := w.heap.size + 1 + 1) ?_ (by omega)
      iterate 4 (refine ownsRow_setCell_below ?_ (by show w.heap.size < _; omega) _)
      exact h
    · have h := O2.out
      refine rebase (b := w.heap.size + 1 + 1) ?_ (by omega)
      iterate 4 (refine ownsRow_setCell_below ?_ (by show w.heap.size < _; omega) _)
      exact h
    · iterate 4 (refine Below.setCell ?_ (by simp) _)
      exact HB2.out

end Go.Proofs.Ytjngnjokbnklfaa.DrwM
