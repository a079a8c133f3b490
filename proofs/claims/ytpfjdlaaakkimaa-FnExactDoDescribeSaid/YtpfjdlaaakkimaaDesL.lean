/- 'FnExactDoDescribe' answers as its model, at every argument: the walk of the law. -/
import Derived.Test.YtpfjdlaaakkimaaDes
import Derived.Deep.CutRange
namespace Go.Proofs.Ytpfjdlaaakkimaa.DesL
open Go.RowKit Lb Bk FtS FtO
set_option linter.unusedSimpArgs false
set_option linter.unusedVariables false

/-- What stands: the two boxes. -/
structure Lw (w0 W : World) (f g : Ft) : Prop where
  K : Blk W w0.heap.size 23 #[.int .i64 f.c, .string f.wh, .string f.wt, .string f.lk, .string f.sd]
  R : Blk W (w0.heap.size + 1) 23 #[.int .i64 g.c, .string g.wh, .string g.wt, .string g.lk, .string g.sd]
  B : Below w0.heap.size w0 W
theorem Lw.later {w0 W W' : World} {f g : Ft} (h : Lw w0 W f g) (hb : Below W.heap.size W W') : Lw w0 W' f g := ⟨h.K.later hb, h.R.later hb, h.B.trans (hb.mono h.B.size)⟩
theorem Lw.drew {w0 W : World} {f g : Ft} (h : Lw w0 W f g) : Lw w0 W.drew f g := ⟨h.K, h.R, h.B.drew⟩
theorem Lw.start (w : World) (f g : Ft) : Lw w ((w.alloc (.cells #[.int .i64 f.c, .string f.wh, .string f.wt, .string f.lk, .string f.sd] 23)).alloc (.cells #[.int .i64 g.c, .string g.wh, .string g.wt, .string g.lk, .string g.sd] 23)) f g :=
  ⟨(Blk.new w _ _).alloc _, Blk.at_ (by simp), ((Below.refl _ _).alloc (Nat.le_refl _) _).alloc (by simp) _⟩
theorem Lw.cells {w0 W : World} {f g : Ft} (h : Lw w0 W f g) : (W.cell? ⟨w0.heap.size, 0, none⟩ = some (.int .i64 f.c) ∧ W.cell? ⟨w0.heap.size, 1, none⟩ = some (.string f.wh) ∧ W.cell? ⟨w0.heap.size, 2, none⟩ = some (.string f.wt) ∧ W.cell? ⟨w0.heap.size, 3, none⟩ = some (.string f.lk) ∧ W.cell? ⟨w0.heap.size, 4, none⟩ = some (.string f.sd)) ∧ (W.cell? ⟨w0.heap.size + 1, 0, none⟩ = some (.int .i64 g.c) ∧ W.cell? ⟨w0.heap.size + 1, 1, none⟩ = some (.string g.wh) ∧ W.cell? ⟨w0.heap.size + 1, 2, none⟩ = some (.string g.wt) ∧ W.cell? ⟨w0.heap.size + 1, 3, none⟩ = some (.string g.lk) ∧ W.cell? ⟨w0.heap.size + 1, 4, none⟩ = some (.string g.sd)) :=
  ⟨⟨h.K.cell 0 rfl, h.K.cell 1 rfl, h.K.cell 2 rfl, h.K.cell 3 rfl, h.K.cell 4 rfl⟩, h.R.cell 0 rfl, h.R.cell 1 rfl, h.R.cell 2 rfl, h.R.cell 3 rfl, h.R.cell 4 rfl⟩
theorem szF_nonneg (f : Ft) : 0 ≤ szF f := by unfold szF; omega

set_option maxHeartbeats 4000000 in
theorem law_any (W : World) (f : Ft) (hf : IsFt f) (g : Ft) (hg : IsFt g) :
    Calls Try.prog 7 #[.agg #[.int .i64 f.c, .string f.wh, .string f.wt, .string f.lk, .string f.sd], .agg #[.int .i64 g.c, .string g.wh, .string g.wt, .string g.lk, .string g.sd]] W fun e w' => e = .returned (.bool true) ∧ Below W.heap.size W w' := by
  have HS := Lib.hid (Lw.start W f g)
  have hnf := szF_nonneg f
  by_cases hsz : szF f ≤ 1048576
  · have HZ := Lib.hid hsz
    have hneg : decide ((1048576 : Int) - szF f < 0) = false := decide_eq_false (by omega)
    by_cases hsz2 : szF g ≤ 1048576 - szF f
    · have HZ2 := Lib.hid hsz2
      have hneg2 : decide ((1048576 : Int) - szF f - szF g < 0) = false := decide_eq_false (by omega)
      go_enter Try.func7, Try.ntmps7
      go_wp2_with fail
      refine (sz_yes f _ _ (by decide) HZ.out).mono ?_
      rintro e w2 ⟨rfl, hb2⟩
      have HS2 := Lib.hid (HS.out.later hb2)
      clear hb2
      obtain ⟨⟨p0, p1, p2, p3, p4⟩, q0, q1, q2, q3, q4⟩ := HS2.out.cells
      go_wp2_with fail
      refine (sz_yes g _ _ (by omega) HZ2.out).mono ?_
      rintro e w3 ⟨rfl, hb3⟩
      have HS3 := Lib.hid (HS2.out.later hb3)
      clear hb3 p0 p1 p2 p3 p4 q0 q1 q2 q3 q4 HS
      have HS := HS3
      go_wp2
      go_upto_region 8 with (fail)
      go_cut [6, 7] from 20 to 27 (fun x y wx => x = .bool (Des.same f g) ∧ y = .bool (Des.known f g) ∧ Lw W wx f g)
      case first =>
        go_region_held3 (fun X : World => (X.cell? ⟨W.heap.size, 0, none⟩ = some (.int .i64 f.c) ∧ X.cell? ⟨W.heap.size, 1, none⟩ = some (.string f.wh) ∧ X.cell? ⟨W.heap.size, 2, none⟩ = some (.string f.wt) ∧ X.cell? ⟨W.heap.size, 3, none⟩ = some (.string f.lk) ∧ X.cell? ⟨W.heap.size, 4, none⟩ = some (.string f.sd)) ∧ (X.cell? ⟨W.heap.size + 1, 0, none⟩ = some (.int .i64 g.c) ∧ X.cell? ⟨W.heap.size + 1, 1, none⟩ = some (.string g.wh) ∧ X.cell? ⟨W.heap.size + 1, 2, none⟩ = some (.string g.wt) ∧ X.cell? ⟨W.heap.size + 1, 3, none⟩ = some (.string g.lk) ∧ X.cell? ⟨W.heap.size + 1, 4, none⟩ = some (.string g.sd))) (first | with_reducible exact HS.out.cells | with_reducible exact HS.out.drew.cells) (first
          | (go_at_call 23; refine (Des.spec_any f g _).mono ?_; rintro e w5 ⟨rfl, hb5⟩; have HS5 := Lib.hid (show Lw W w5 f g from HS.out.later hb5); clear hb5; have HS := HS5)
          | (go_at_call 11; have HD := Lib.hid HT.out; refine (to_any g _).mono ?_; rintro e w5 ⟨rfl, hb5⟩; have HS5 := Lib.hid (show Lw W w5 f g from by first | exact HS.out.later hb5 | exact HS.out.drew.later hb5); clear hb5; have HS := HS5)
          | (go_at_call 11; refine (to_any f _).mono ?_; rintro e w5 ⟨rfl, hb5⟩; have HS5 := Lib.hid (show Lw W w5 f g from by first | exact HS.out.later hb5 | exact HS.out.drew.later hb5); clear hb5; have HS := HS5; have HT := Lib.hid True.intro))
        all_goals go_wp2
        all_goals go_meet
        all_goals exact ⟨rfl, rfl, HS.out⟩
      case rest =>
      obtain ⟨rfl, rfl, hS4⟩ := hcut
      have HS4 := Lib.hid hS4
      clear hS4 HS HS3 HS2
      have HS := HS4
      go_wp2
      go_upto_region 9 with (fail)
      go_cut [8, 9] from 28 to 35 (fun x y wx => x = .bool (Des.same f g) ∧ y = .bool (Des.known f g) ∧ Lw W wx f g)
      case first =>
        go_region_held3 (fun X : World => (X.cell? ⟨W.heap.size, 0, none⟩ = some (.int .i64 f.c) ∧ X.cell? ⟨W.heap.size, 1, none⟩ = some (.string f.wh) ∧ X.cell? ⟨W.heap.size, 2, none⟩ = some (.string f.wt) ∧ X.cell? ⟨W.heap.size, 3, none⟩ = some (.string f.lk) ∧ X.cell? ⟨W.heap.size, 4, none⟩ = some (.string f.sd)) ∧ (X.cell? ⟨W.heap.size + 1, 0, none⟩ = some (.int .i64 g.c) ∧ X.cell? ⟨W.heap.size + 1, 1, none⟩ = some (.string g.wh) ∧ X.cell? ⟨W.heap.size + 1, 2, none⟩ = some (.string g.wt) ∧ X.cell? ⟨W.heap.size + 1, 3, none⟩ = some (.string g.lk) ∧ X.cell? ⟨W.heap.size + 1, 4, none⟩ = some (.string g.sd))) (first | with_reducible exact HS.out.cells | with_reducible exact HS.out.drew.cells) (first
          | (go_at_call 24; refine (Des.impl_any f g _).mono ?_; rintro e w5 ⟨rfl, hb5⟩; have HS5 := Lib.hid (show Lw W w5 f g from HS.out.later hb5); clear hb5; have HS := HS5)
          | (go_at_call 11; have HD := Lib.hid HT.out; refine (to_any g _).mono ?_; rintro e w5 ⟨rfl, hb5⟩; have HS5 := Lib.hid (show Lw W w5 f g from by first | exact HS.out.later hb5 | exact HS.out.drew.later hb5); clear hb5; have HS := HS5)
          | (go_at_call 11; refine (to_any f _).mono ?_; rintro e w5 ⟨rfl, hb5⟩; have HS5 := Lib.hid (show Lw W w5 f g from by first | exact HS.out.later hb5 | exact HS.out.drew.later hb5); clear hb5; have HS := HS5; have HT := Lib.hid True.intro))
        all_goals go_wp2
        all_goals go_meet
        all_goals exact ⟨rfl, rfl, HS.out⟩
      case rest =>
      obtain ⟨rfl, rfl, hS5⟩ := hcut
      have HS5 := Lib.hid hS5
      clear hS5
      go_wp2
      go_ret
      exact ⟨rfl, HS5.out.B⟩
    · have HZ2 := Lib.hid (show 1048576 - szF f < szF g by omega)
      go_enter Try.func7, Try.ntmps7
      go_wp2_with fail
      refine (sz_yes f _ _ (by decide) HZ.out).mono ?_
      rintro e w2 ⟨rfl, hb2⟩
      have HS2 := Lib.hid (HS.out.later hb2)
      clear hb2
      obtain ⟨⟨p0, p1, p2, p3, p4⟩, q0, q1, q2, q3, q4⟩ := HS2.out.cells
      go_wp2_with fail
      refine (sz_no g hg _ _ (by omega) (by omega) HZ2.out).mono ?_
      rintro e w3 ⟨rfl, hb3⟩
      have HS3 := Lib.hid (HS2.out.later hb3)
      go_wp2
      go_ret
      exact ⟨rfl, HS3.out.B⟩
  · have HZ := Lib.hid (show (1048576 : Int) < szF f by omega)
    clear hsz
    go_enter Try.func7, Try.ntmps7
    go_wp2_with (go_at_call 9; refine (sz_no f hf _ _ (by decide) (by decide) HZ.out).mono ?_; rintro e w2 ⟨rfl, hb2⟩; have HS2 := Lib.hid (HS.out.later hb2))
    go_ret
    exact ⟨rfl, HS2.out.B⟩

end Go.Proofs.Ytpfjdlaaakkimaa.DesL
