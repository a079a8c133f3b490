/- The drawing of a map: its contract. -/
import Derived.Test.YtdphliobjafjaaaCodM
namespace Go.Proofs.Ytdphliobjafjaaa.DrwM
open Go.RowKit Lb Cur IntS MapS MapV SpecB CurM CodM
set_option linter.unusedSimpArgs false
set_option linter.unusedVariables false

/-- A map that was drawn, whatever it is. -/
def DPost (w : World) (e : Ending) (w' : World) : Prop := MDr w e w' ∧ Below w.heap.size w w'

set_option maxRecDepth 100000 in
set_option maxHeartbeats 2000000 in
theorem is_any (a : Option Addr) (n cap : Nat) (xs : Nat → Nat) (w : World) (hc : Bytes w a n xs) :
    Calls Try.prog 55 #[.slice a n cap] w (DPost w) := by
  have HB := Lib.hid ((Below.refl w.heap.size w).alloc (Nat.le_refl _) (.cells #[.int .i64 0, .int .i64 0, .slice none 0 0, .slice none 0 0] 26))
  have HQ0 := Lib.hid (Blk.new w 26 #[.int .i64 0, .int .i64 0, .slice none 0 0, .slice none 0 0])
  have c1 := Lib.hid (MapD.map_any _ 0 _ (by omega) (begin_ (hc.below HB.out) cap))
  rw [World.size_alloc] at c1
  clear hc
  go_enter Try.func55, Try.ntmps55
  go_wp2_with fail
  refine c1.out.mono ?_
  rintro e w1 ⟨⟨v, rfl, m, ho, hR, hC⟩, -, hg1⟩
  obtain ⟨ar, cr, ac, cc, rfl, h1, h2, hne⟩ := ho
  rw [World.size_alloc, World.size_alloc] at h1 h2
  have HB1 := Lib.hid (below_of_grown (HB.out.alloc (by simp) _) hg1 (by simp; omega) (by simp))
  have HQ1 := Lib.hid (blk_grown (HQ0.out.alloc _) hg1 (by simp))
  have H1 := Lib.hid h1
  have H2 := Lib.hid h2
  have HN := Lib.hid hne
  have hz := HQ1.out.lt
  clear hg1 h1 h2 hne
  obtain ⟨r0, r1, r2, r3, l0, l1, l2, l3⟩ := HQ1.out.four
  go_wp2
  refine bodyPost_ret (v := .agg #[.int .i64 m.W, .int .i64 m.H, .slice ar m.R.length cr, .slice ac m.C.length cc]) (by simp [results, Try.results55, go_sem, r0, r1, r2, r3]) rfl ⟨⟨_, rfl, m, ⟨ar, cr, ac, cc, rfl, ?_, ?_, HN.out⟩, hR, hC⟩, ?_⟩
  · have h := H1.out
    unfold OwnI at h ⊢
    refine rebase (b := w.heap.size + 1 + 1) ?_ (by omega)
    iterate 4 (refine ownsRow_setCell_below ?_ (by show w.heap.size < _; omega) _)
    exact h
  · have h := H2.out
    unfold OwnI at h ⊢
    refine rebase (b := w.heap.size + 1 + 1) ?_ (by omega)
    iterate 4 (refine ownsRow_setCell_below ?_ (by show w.heap.size < _; omega) _)
    exact h
  · iterate 4 (refine Below.setCell ?_ (by simp) _)
    exact HB1.out

end Go.Proofs.Ytdphliobjafjaaa.DrwM
