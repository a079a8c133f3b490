/- A feature turned: the program and the model. -/
import Derived.Test.YtpfjdlaaakkimaaDoorSpO
import Derived.Test.YtpfjdlaaakkimaaDoorTrn
import Derived.Test.YtpfjdlaaakkimaaDoorFtO
import Derived.Deep.RegionHeld3
namespace Go.Proofs.YtpfjdlaaakkimaaDoor.TrnS
open Go.RowKit Lb Bk FtS FtO Word
set_option linter.unusedSimpArgs false
set_option linter.unusedVariables false

def zeroF : Ft := ⟨0, ⟨#[]⟩, ⟨#[]⟩, ⟨#[]⟩, ⟨#[]⟩⟩

/-- What stands: the feature's box, the result's box. -/
structure Tw (w0 W : World) (f g : Ft) : Prop where
  K : Blk W w0.heap.size 25 #[.int .i64 f.c, .string f.wh, .string f.wt, .string f.lk, .string f.sd]
  R : Blk W (w0.heap.size + 1) 25 #[.int .i64 g.c, .string g.wh, .string g.wt, .string g.lk, .string g.sd]
  B : Below w0.heap.size w0 W
theorem Tw.later {w0 W W' : World} {f g : Ft} (h : Tw w0 W f g) (hb : Below W.heap.size W W') : Tw w0 W' f g := ⟨h.K.later hb, h.R.later hb, h.B.trans (hb.mono h.B.size)⟩
theorem Tw.drew {w0 W : World} {f g : Ft} (h : Tw w0 W f g) : Tw w0 W.drew f g := ⟨h.K, h.R, h.B.drew⟩
theorem Tw.start (w : World) (f : Ft) : Tw w ((w.alloc (.cells #[.int .i64 f.c, .string f.wh, .string f.wt, .string f.lk, .string f.sd] 25)).alloc (.cells #[.int .i64 zeroF.c, .string zeroF.wh, .string zeroF.wt, .string zeroF.lk, .string zeroF.sd] 25)) f zeroF :=
  ⟨(Blk.new w _ _).alloc _, Blk.at_ (by simp), ((Below.refl _ _).alloc (Nat.le_refl _) _).alloc (by simp) _⟩
theorem Tw.set_f {w0 W : World} {f g : Ft} (h : Tw w0 W f g) (i : Nat) (v : Value) (f' : Ft) (e : (#[.int .i64 f.c, .string f.wh, .string f.wt, .string f.lk, .string f.sd]).setIfInBounds i v = #[.int .i64 f'.c, .string f'.wh, .string f'.wt, .string f'.lk, .string f'.sd]) : Tw w0 (W.setCell ⟨w0.heap.size, i, none⟩ v) f' g :=
  ⟨by have := h.K.set_ i v; rwa [e] at this, h.R.far (by simp) v, h.B.setCell (by simp) v⟩
theorem Tw.set_g {w0 W : World} {f g : Ft} (h : Tw w0 W f g) (i : Nat) (v : Value) (g' : Ft) (e : (#[.int .i64 g.c, .string g.wh, .string g.wt, .string g.lk, .string g.sd]).setIfInBounds i v = #[.int .i64 g'.c, .string g'.wh, .string g'.wt, .string g'.lk, .string g'.sd]) : Tw w0 (W.setCell ⟨w0.heap.size + 1, i, none⟩ v) f g' :=
  ⟨h.K.far (by simp) v, by have := h.R.set_ i v; rwa [e] at this, h.B.setCell (by simp) v⟩
/-- The whole result is written. -/
theorem Tw.all_g {w0 W : World} {f g : Ft} (h : Tw w0 W f g) (k : Ft) : Tw w0 (((((W.setCell ⟨w0.heap.size + 1, 0, none⟩ (.int .i64 k.c)).setCell ⟨w0.heap.size + 1, 1, none⟩ (.string k.wh)).setCell ⟨w0.heap.size + 1, 2, none⟩ (.string k.wt)).setCell ⟨w0.heap.size + 1, 3, none⟩ (.string k.lk)).setCell ⟨w0.heap.size + 1, 4, none⟩ (.string k.sd)) f k :=
  ((((h.set_g 0 _ ⟨k.c, g.wh, g.wt, g.lk, g.sd⟩ rfl).set_g 1 _ ⟨k.c, k.wh, g.wt, g.lk, g.sd⟩ rfl).set_g 2 _ ⟨k.c, k.wh, k.wt, g.lk, g.sd⟩ rfl).set_g 3 _ ⟨k.c, k.wh, k.wt, k.lk, g.sd⟩ rfl).set_g 4 _ k rfl

theorem Tw.cells {w0 W : World} {f g : Ft} (h : Tw w0 W f g) : W.cell? ⟨w0.heap.size, 0, none⟩ = some (.int .i64 f.c) ∧ W.cell? ⟨w0.heap.size, 1, none⟩ = some (.string f.wh) ∧ W.cell? ⟨w0.heap.size, 2, none⟩ = some (.string f.wt) ∧ W.cell? ⟨w0.heap.size, 3, none⟩ = some (.string f.lk) ∧ W.cell? ⟨w0.heap.size, 4, none⟩ = some (.string f.sd) :=
  ⟨h.K.cell 0 rfl, h.K.cell 1 rfl, h.K.cell 2 rfl, h.K.cell 3 rfl, h.K.cell 4 rfl⟩

set_option maxHeartbeats 2000000 in
theorem impl_no (f : Ft) (q : Int) (w : World) (h : okF f = false ∨ (okF f = true ∧ (q < 0 ∨ 3 < q))) : Calls Tryd.prog 17 #[.agg #[.int .i64 f.c, .string f.wh, .string f.wt, .string f.lk, .string f.sd], .int .i64 q] w fun e w' => e = .returned (.tuple #[.agg #[.int .i64 zeroF.c, .string zeroF.wh, .string zeroF.wt, .string zeroF.lk, .string zeroF.sd], .bool false]) ∧ Below w.heap.size w w' := by
  have HS := Lib.hid (Tw.start w f)
  go_enter Tryd.func17, Tryd.ntmps17
  go_wp2_with fail
  refine (IsF.impl_any f _).mono ?_
  rintro e w1 ⟨rfl, hb1⟩
  have HS1 := Lib.hid (HS.out.later hb1)
  clear hb1
  obtain ⟨p0, p1, p2, p3, p4, -⟩ := HS1.out.K.five
  obtain ⟨q0, q1, q2, q3, q4, g0, g1, g2, g3, g4⟩ := HS1.out.R.five
  rcases h with h | ⟨h, h2⟩
  · rw [h]
    go_wp2_with fail
    obtain ⟨r0, r1, r2, r3, r4, -⟩ := (HS1.out.all_g zeroF).R.five
    simp only [zeroF] at r0 r1 r2 r3 r4
    refine bodyPost_ret (v := .tuple #[.agg #[.int .i64 zeroF.c, .string zeroF.wh, .string zeroF.wt, .string zeroF.lk, .string zeroF.sd], .bool false]) (by simp [results, Tryd.results17, go_sem, r0, r1, r2, r3, r4, zeroF]) rfl ⟨rfl, (HS1.out.all_g zeroF).B⟩
  · rw [h]
    rcases h2 with h2 | h2
    · go_wp2_with fail
      obtain ⟨r0, r1, r2, r3, r4, -⟩ := (HS1.out.all_g zeroF).R.five
      simp only [zeroF] at r0 r1 r2 r3 r4
      refine bodyPost_ret (v := .tuple #[.agg #[.int .i64 zeroF.c, .string zeroF.wh, .string zeroF.wt, .string zeroF.lk, .string zeroF.sd], .bool false]) (by simp [results, Tryd.results17, go_sem, r0, r1, r2, r3, r4, zeroF]) rfl ⟨rfl, (HS1.out.all_g zeroF).B⟩
    · have h3 : decide (q < 0) = false := decide_eq_false (by omega)
      go_wp2_with fail
      obtain ⟨r0, r1, r2, r3, r4, -⟩ := (HS1.out.all_g zeroF).R.five
      simp only [zeroF] at r0 r1 r2 r3 r4
      refine bodyPost_ret (v := .tuple #[.agg #[.int .i64 zeroF.c, .string zeroF.wh, .string zeroF.wt, .string zeroF.lk, .string zeroF.sd], .bool false]) (by simp [results, Tryd.results17, go_sem, r0, r1, r2, r3, r4, zeroF]) rfl ⟨rfl, (HS1.out.all_g zeroF).B⟩

set_option maxHeartbeats 2000000 in
theorem spec_no (f : Ft) (q : Int) (w : World) (h : okF f = false ∨ (okF f = true ∧ (q < 0 ∨ 3 < q))) : Calls Tryd.prog 18 #[.agg #[.int .i64 f.c, .string f.wh, .string f.wt, .string f.lk, .string f.sd], .int .i64 q] w fun e w' => e = .returned (.tuple #[.agg #[.int .i64 zeroF.c, .string zeroF.wh, .string zeroF.wt, .string zeroF.lk, .string zeroF.sd], .bool false]) ∧ Below w.heap.size w w' := by
  have HS := Lib.hid (Tw.start w f)
  go_enter Tryd.func18, Tryd.ntmps18
  go_wp2_with fail
  refine (SpO.spec_any f _).mono ?_
  rintro e w1 ⟨rfl, hb1⟩
  have HS1 := Lib.hid (HS.out.later hb1)
  clear hb1
  obtain ⟨p0, p1, p2, p3, p4, -⟩ := HS1.out.K.five
  obtain ⟨q0, q1, q2, q3, q4, g0, g1, g2, g3, g4⟩ := HS1.out.R.five
  rcases h with h | ⟨h, h2⟩
  · rw [h]
    go_wp2_with fail
    obtain ⟨r0, r1, r2, r3, r4, -⟩ := (HS1.out.all_g zeroF).R.five
    simp only [zeroF] at r0 r1 r2 r3 r4
    refine bodyPost_ret (v := .tuple #[.agg #[.int .i64 zeroF.c, .string zeroF.wh, .string zeroF.wt, .string zeroF.lk, .string zeroF.sd], .bool false]) (by simp [results, Tryd.results18, go_sem, r0, r1, r2, r3, r4, zeroF]) rfl ⟨rfl, (HS1.out.all_g zeroF).B⟩
  · rw [h]
    have hd : decide (0 ≤ q ∧ q ≤ 3) = false := decide_eq_false (by omega)
    go_wp2_with fail
    refine (in_any q 0 3 _).mono ?_
    rw [hd]
    rintro e w2 ⟨rfl, rfl⟩
    go_wp2_with fail
    obtain ⟨r0, r1, r2, r3, r4, -⟩ := (HS1.out.all_g zeroF).R.five
    simp only [zeroF] at r0 r1 r2 r3 r4
    refine bodyPost_ret (v := .tuple #[.agg #[.int .i64 zeroF.c, .string zeroF.wh, .string zeroF.wt, .string zeroF.lk, .string zeroF.sd], .bool false]) (by simp [results, Tryd.results18, go_sem, r0, r1, r2, r3, r4, zeroF]) rfl ⟨rfl, (HS1.out.all_g zeroF).B⟩

set_option maxHeartbeats 2000000 in
theorem impl_yes (f : Ft) (k : Nat) (hk : k < 4) (w : World) (h : okF f = true) : Calls Tryd.prog 17 #[.agg #[.int .i64 f.c, .string f.wh, .string f.wt, .string f.lk, .string f.sd], .int .i64 k] w fun e w' => ∃ g, g = f.turn k ∧ e = .returned (.tuple #[.agg #[.int .i64 g.c, .string g.wh, .string g.wt, .string g.lk, .string g.sd], .bool true]) ∧ Below w.heap.size w w' := by
  have HS := Lib.hid (Tw.start w f)
  go_enter Tryd.func17, Tryd.ntmps17
  go_wp2_with fail
  refine (IsF.impl_any f _).mono ?_
  rintro e w1 ⟨rfl, hb1⟩
  have HS1 := Lib.hid (HS.out.later hb1)
  clear hb1
  obtain ⟨p0, p1, p2, p3, p4, -⟩ := HS1.out.K.five
  rw [h]
  go_wp2_with fail
  refine (Trn.impl_turn f.wh k hk _).mono ?_
  rintro e w2 ⟨rfl, hb2⟩
  have HS2 := Lib.hid (HS1.out.later hb2)
  obtain ⟨f2, hf2⟩ : ∃ f2 : Ft, f2 = ⟨f.c, turnW f.wh k, f.wt, f.lk, f.sd⟩ := ⟨_, rfl⟩
  have HS2' := Lib.hid (HS2.out.set_f 1 (.string (turnW f.wh k)) ⟨f.c, turnW f.wh k, f.wt, f.lk, f.sd⟩ rfl)
  clear hb2 p0 p1 p2 p3 p4
  obtain ⟨p0, p1, p2, p3, p4, s0, s1, s2, s3, s4⟩ := HS2.out.K.five
  obtain ⟨t0, t1, t2, t3, t4, -⟩ := HS2'.out.K.five
  go_wp2_with fail
  refine (Trn.impl_turn f.sd k hk _).mono ?_
  rintro e w3 ⟨rfl, hb3⟩
  have HS3 := Lib.hid (HS2'.out.later hb3)
  have HS3' := Lib.hid (HS3.out.set_f 4 (.string (turnW f.sd k)) (f.turn k) rfl)
  clear hb3 p0 p1 p2 p3 p4 s0 s1 s2 s3 s4 t0 t1 t2 t3 t4
  obtain ⟨p0, p1, p2, p3, p4, s0, s1, s2, s3, s4⟩ := HS3.out.K.five
  obtain ⟨t0, t1, t2, t3, t4, -⟩ := HS3'.out.K.five
  obtain ⟨q0, q1, q2, q3, q4, g0, g1, g2, g3, g4⟩ := HS3'.out.R.five
  go_wp2_with fail
  obtain ⟨r0, r1, r2, r3, r4, -⟩ := (HS3'.out.all_g (f.turn k)).R.five
  refine bodyPost_ret (v := .tuple #[.agg #[.int .i64 (f.turn k).c, .string (f.turn k).wh, .string (f.turn k).wt, .string (f.turn k).lk, .string (f.turn k).sd], .bool true]) (by simp [results, Tryd.results17, go_sem, r0, r1, r2, r3, r4]) rfl ⟨_, rfl, rfl, (HS3'.out.all_g (f.turn k)).B⟩

theorem Tw.all_t {w0 W : World} {f g : Ft} (h : Tw w0 W f g) (k : Nat) : Tw w0 (((((W.setCell ⟨w0.heap.size + 1, 0, none⟩ (.int .i64 f.c)).setCell ⟨w0.heap.size + 1, 1, none⟩ (.string (turnW f.wh k))).setCell ⟨w0.heap.size + 1, 2, none⟩ (.string f.wt)).setCell ⟨w0.heap.size + 1, 3, none⟩ (.string f.lk)).setCell ⟨w0.heap.size + 1, 4, none⟩ (.string (turnW f.sd k))) f (f.turn k) := h.all_g (f.turn k)

set_option maxHeartbeats 4000000 in
theorem spec_yes (f : Ft) (k : Nat) (hk : k < 4) (w : World) (h : okF f = true) : Calls Tryd.prog 18 #[.agg #[.int .i64 f.c, .string f.wh, .string f.wt, .string f.lk, .string f.sd], .int .i64 k] w fun e w' => ∃ g, g = f.turn k ∧ e = .returned (.tuple #[.agg #[.int .i64 g.c, .string g.wh, .string g.wt, .string g.lk, .string g.sd], .bool true]) ∧ Below w.heap.size w w' := by
  have HS := Lib.hid (Tw.start w f)
  go_enter Tryd.func18, Tryd.ntmps18
  go_wp2_with fail
  refine (SpO.spec_any f _).mono ?_
  rintro e w1 ⟨rfl, hb1⟩
  have HS1 := Lib.hid (HS.out.later hb1)
  clear hb1 HS
  have HS := HS1
  rw [h]
  have hd : decide (0 ≤ (k : Int) ∧ (k : Int) ≤ 3) = true := decide_eq_true (by omega)
  go_wp2_with fail
  refine (in_any (k : Int) 0 3 _).mono ?_
  rw [hd]
  rintro e w2 ⟨rfl, rfl⟩
  obtain ⟨p0, p1, p2, p3, p4, -⟩ := HS1.out.K.five
  go_wp2
  go_region_held3 (fun W : World => W.cell? ⟨w.heap.size, 0, none⟩ = some (.int .i64 f.c) ∧ W.cell? ⟨w.heap.size, 1, none⟩ = some (.string f.wh) ∧ W.cell? ⟨w.heap.size, 2, none⟩ = some (.string f.wt) ∧ W.cell? ⟨w.heap.size, 3, none⟩ = some (.string f.lk) ∧ W.cell? ⟨w.heap.size, 4, none⟩ = some (.string f.sd)) (first | with_reducible exact HS.out.cells | with_reducible exact HS.out.drew.cells | with_reducible exact (HS.out.all_t k).cells) (first
    | (go_at_call 68; refine (Trn.spec_turn _ k hk _).mono ?_; rintro e w3 ⟨rfl, hb3⟩; have HS3 := Lib.hid (show Tw w w3 f zeroF from by first | exact HS.out.later hb3 | exact HS.out.drew.later hb3); clear hb3; have HS := HS3; obtain ⟨q0, q1, q2, q3, q4, g0, g1, g2, g3, g4⟩ := HS3.out.R.five))
  all_goals go_wp2
  obtain ⟨r0, r1, r2, r3, r4, -⟩ := (HS.out.all_t k).R.five
  refine bodyPost_ret (v := .tuple #[.agg #[.int .i64 (f.turn k).c, .string (f.turn k).wh, .string (f.turn k).wt, .string (f.turn k).lk, .string (f.turn k).sd], .bool true]) (by simp [results, Tryd.results18, go_sem, r0, r1, r2, r3, r4]) rfl ⟨_, rfl, rfl, (HS.out.all_t k).B⟩

/-- The model and the program tell the same. -/
theorem both (f : Ft) (q : Int) : ∃ (g : Ft) (ok : Bool),
    (∀ w, Calls Tryd.prog 18 #[.agg #[.int .i64 f.c, .string f.wh, .string f.wt, .string f.lk, .string f.sd], .int .i64 q] w fun e w' => e = .returned (.tuple #[.agg #[.int .i64 g.c, .string g.wh, .string g.wt, .string g.lk, .string g.sd], .bool ok]) ∧ Below w.heap.size w w') ∧
    (∀ w, Calls Tryd.prog 17 #[.agg #[.int .i64 f.c, .string f.wh, .string f.wt, .string f.lk, .string f.sd], .int .i64 q] w fun e w' => e = .returned (.tuple #[.agg #[.int .i64 g.c, .string g.wh, .string g.wt, .string g.lk, .string g.sd], .bool ok]) ∧ Below w.heap.size w w') := by
  by_cases h : okF f = true
  · by_cases h2 : 0 ≤ q ∧ q ≤ 3
    · obtain ⟨k, rfl⟩ : ∃ k : Nat, q = k := ⟨q.toNat, by omega⟩
      refine ⟨f.turn k, true, fun w => (spec_yes f k (by omega) w h).mono ?_, fun w => (impl_yes f k (by omega) w h).mono ?_⟩
      · rintro e w' ⟨g, rfl, rfl, hb⟩
        exact ⟨rfl, hb⟩
      · rintro e w' ⟨g, rfl, rfl, hb⟩
        exact ⟨rfl, hb⟩
    · exact ⟨zeroF, false, fun w => spec_no f q w (.inr ⟨h, by omega⟩), fun w => impl_no f q w (.inr ⟨h, by omega⟩)⟩
  · have h' : okF f = false := by simpa using h
    exact ⟨zeroF, false, fun w => spec_no f q w (.inl h'), fun w => impl_no f q w (.inl h')⟩

end Go.Proofs.YtpfjdlaaakkimaaDoor.TrnS
