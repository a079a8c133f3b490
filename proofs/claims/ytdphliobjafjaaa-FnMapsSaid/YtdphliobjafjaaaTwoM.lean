/- Four quarter turns and two mirrors: plain lemmas. -/
import Derived.Test.YtdphliobjafjaaaSpecB
namespace Go.Proofs.Ytdphliobjafjaaa.Lb
set_option linter.unusedVariables false

theorem fromT_xy {w h x y : Nat} (hx : x < h) : fromT w h (y * h + x) = (h - 1 - x) * w + y := by
  unfold fromT
  rw [mod_mk hx, div_mk hx]
theorem fromM_xy {w x y : Nat} (hx : x < w) : fromM w (y * w + x) = y * w + (w - 1 - x) := by
  unfold fromM
  rw [mod_mk hx, div_mk hx]
theorem place {w h k : Nat} (hw : 1 ≤ w) (hk : k < w * h) : ∃ x y, x < w ∧ y < h ∧ k = y * w + x := by
  refine ⟨k % w, k / w, Nat.mod_lt _ hw, div_lt_of hw hk, ?_⟩
  have := cell_split w k
  rwa [Nat.mul_comm] at this
theorem four_at {w h k : Nat} (hw : 1 ≤ w) (hk : k < w * h) : fromT h w k < h * w ∧ fromT w h (fromT h w k) < w * h ∧ fromT h w (fromT w h (fromT h w k)) < h * w ∧ fromT w h (fromT h w (fromT w h (fromT h w k))) = k := by
  obtain ⟨x, y, hx, hy, rfl⟩ := place hw hk
  have hc : h * w = w * h := Nat.mul_comm h w
  have e1 : fromT h w (y * w + x) = (w - 1 - x) * h + y := fromT_xy hx
  have e2 : fromT w h ((w - 1 - x) * h + y) = (h - 1 - y) * w + (w - 1 - x) := fromT_xy hy
  have e3 : fromT h w ((h - 1 - y) * w + (w - 1 - x)) = (w - 1 - (w - 1 - x)) * h + (h - 1 - y) := fromT_xy (by omega)
  have e4 : fromT w h ((w - 1 - (w - 1 - x)) * h + (h - 1 - y)) = (h - 1 - (h - 1 - y)) * w + (w - 1 - (w - 1 - x)) := fromT_xy (by omega)
  rw [e1, e2, e3, e4]
  have f1 : h - 1 - (h - 1 - y) = y := by omega
  have f2 : w - 1 - (w - 1 - x) = x := by omega
  rw [f1, f2]
  refine ⟨?_, ?_, ?_, rfl⟩
  · exact lt_mk hy (by omega)
  · exact lt_mk (by omega) (by omega)
  · exact lt_mk (by omega) hx
theorem four_gath {w h : Nat} (hw : 1 ≤ w) (l : List Int) (hl : l.length = w * h) : gath (fromT h w) (h * w) (gath (fromT w h) (w * h) (gath (fromT h w) (h * w) (gath (fromT w h) (w * h) l))) = l := by
  have hc : h * w = w * h := Nat.mul_comm h w
  refine zs_ext (by rw [gath_length, hl, hc]) ?_
  intro k hk
  rw [gath_length] at hk
  obtain ⟨h1, h2, h3, h4⟩ := four_at hw (show k < w * h by omega)
  rw [gath_at _ _ _ _ hk, gath_at _ _ _ _ (by omega), gath_at _ _ _ _ (by omega), gath_at _ _ _ _ (by omega), h4]
theorem two_gath {w h : Nat} (hw : 1 ≤ w) (l : List Int) (hl : l.length = w * h) : gath (fromM w) (w * h) (gath (fromM w) (w * h) l) = l := by
  refine zs_ext (by rw [gath_length, hl]) ?_
  intro k hk
  rw [gath_length] at hk
  have hk2 := fromM_lt hw hk
  rw [gath_at _ _ _ _ hk, gath_at _ _ _ _ hk2]
  obtain ⟨x, y, hx, hy, rfl⟩ := place hw hk
  rw [fromM_xy hx, fromM_xy (show w - 1 - x < w by omega)]
  congr 2
  omega
/-- Four quarter turns are no change. -/
theorem four_turns {m : Mp} {w h : Nat} (g : GoodM m w h) : turnM (turnM (turnM (turnM m))) = m := by
  obtain ⟨g1, e1⟩ := turn_ok g
  obtain ⟨g2, e2⟩ := turn_ok g1
  obtain ⟨g3, e3⟩ := turn_ok g2
  obtain ⟨g4, e4⟩ := turn_ok g3
  rw [e4, e3, e2, e1]
  simp only
  rw [four_gath g.w1 m.R g.R, four_gath g.w1 m.C g.C]
  exact (SpecB.mp_eq g).symm
/-- Two mirrors are no change. -/
theorem two_mirs {m : Mp} {w h : Nat} (g : GoodM m w h) : mirM (mirM m) = m := by
  obtain ⟨g1, e1⟩ := mir_ok g
  obtain ⟨g2, e2⟩ := mir_ok g1
  rw [e2, e1]
  simp only
  rw [two_gath g.w1 m.R g.R, two_gath g.w1 m.C g.C]
  exact (SpecB.mp_eq g).symm

end Go.Proofs.Ytdphliobjafjaaa.Lb
