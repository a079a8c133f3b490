/- The drawing of arguments of chapter 3: turns, pairs. -/
import Derived.Test.YtpfjdlaaakkimaaDoorDrF
namespace Go.Proofs.YtpfjdlaaakkimaaDoor.DrP
open Go.RowKit Lb Bk Cur FtD FtG CodB DrF
set_option linter.unusedSimpArgs false
set_option linter.unusedVariables false

theorem six : ∀ q, q < 6 → -1 ≤ ([0, 1, 2, 3, -1, 4] : List Int).getD q 0 ∧ ([0, 1, 2, 3, -1, 4] : List Int).getD q 0 ≤ 4 := by decide

set_option maxHeartbeats 1000000 in
theorem turn_any (a : Option Addr) (n cap : Nat) (xs : Nat → Nat) (w : World) (hc : Bytes w a n xs) :
    Calls Tryd.prog 16 #[.slice a n cap] w fun e w' => (∃ (f : Ft) (z : Int), e = .returned (.tuple #[.agg #[.int .i64 f.c, .string f.wh, .string f.wt, .string f.lk, .string f.sd], .int .i64 z]) ∧ -1 ≤ z ∧ z ≤ 4) ∧ Below w.heap.size w w' := by
  have hb0 : Below w.heap.size w (w.alloc (.cells nilF 25)) := (Below.refl _ _).alloc (Nat.le_refl _) _
  have HK := Lib.hid (Blk.new w 25 nilF)
  have HR := Lib.hid (Rs.start (B := w.heap.size + 1) (hc.below hb0) cap (by simp))
  have HB := Lib.hid hb0
  clear hc hb0
  go_enter Tryd.func16, Tryd.ntmps16
  go_wp2_with fail
  refine (feature_any _ 0 _ (by omega) HR.out.ok).mono ?_
  rintro e w1 ⟨⟨f, rfl⟩, hok, hg⟩
  have H1 := Lib.hid (HR.out.step hok hg)
  have HB1 := Lib.hid (show Below (w.heap.size + 1) (w.alloc (.cells nilF 25)) w1 from by have := H1.out.B; simpa using this)
  clear hok hg
  have hB2 : ZRow (w1.alloc (.cells #[.int .i64 0, .int .i64 1, .int .i64 2, .int .i64 3, .int .i64 (-1), .int .i64 4] 3)) (some ⟨w1.heap.size, 0, none⟩) [0, 1, 2, 3, -1, 4] := zrow_new w1 [0, 1, 2, 3, -1, 4]
  have H2 := Lib.hid (H1.out.below ((Below.refl _ _).alloc (Nat.le_refl _) (.cells #[.int .i64 0, .int .i64 1, .int .i64 2, .int .i64 3, .int .i64 (-1), .int .i64 4] 3)))
  have hlt := H1.out.ok.lt
  have HZ := Lib.hid hB2
  clear hB2
  go_wp2_with fail
  refine (pick_any _ _ 24 _ (by omega) (by omega) (by omega) H2.out.ok).mono ?_
  rintro e w3 ⟨⟨r, rfl, _, hr'⟩, hok, hg⟩
  have hr : r < 24 := by omega
  have HZ3 := Lib.hid (show ZRow w3 (some ⟨w1.heap.size, 0, none⟩) [0, 1, 2, 3, -1, 4] from by
    rcases HZ.out with h | ⟨g, off, e, hc⟩
    · exact .inl h
    · cases e
      refine .inr ⟨_, _, rfl, fun k hk => hg.cell (hc k hk) ?_⟩
      intro e'
      have : w1.heap.size = w.heap.size + 1 := by simpa using e'
      omega)
  have H3 := Lib.hid (H2.out.step hok hg)
  clear hok hg hr'
  go_wp2_with fail
  refine (among_any _ _ (some ⟨w1.heap.size, 0, none⟩) (4 + r / 11) 6 [0, 1, 2, 3, -1, 4] _ (by omega) (by simp; omega) (by omega) (by omega) HZ3.out (by
    intro x e
    cases e
    have := hlt
    simp at this ⊢
    omega) H3.out.ok).mono ?_
  rintro e w4 ⟨⟨q, hq, rfl⟩, hok, hg⟩
  have H4 := Lib.hid (H3.out.step hok hg)
  have HK4 := Lib.hid (show Blk w4 w.heap.size 25 nilF from HK.out.below H4.out.B (by simp))
  have HB4 := Lib.hid (show Below w.heap.size w w4 from HB.out.trans (H4.out.B.mono (by simp)))
  clear hok hg
  obtain ⟨z, hz, hz1, hz2⟩ : ∃ z : Int, ([0, 1, 2, 3, -1, 4] : List Int).getD q 0 = z ∧ -1 ≤ z ∧ z ≤ 4 := ⟨_, rfl, six q (by omega)⟩
  rw [hz]
  obtain ⟨r0, r1, r2, r3, r4, z0, z1, z2, z3, z4⟩ := HK4.out.five
  go_wp2
  have hR := Lib.hid (DrF.all5 HK4.out (.int .i64 f.c) (.string f.wh) (.string f.wt) (.string f.lk) (.string f.sd))
  obtain ⟨u0, u1, u2, u3, u4, -⟩ := hR.out.five
  exact bodyPost_ret (v := .tuple #[.agg #[.int .i64 f.c, .string f.wh, .string f.wt, .string f.lk, .string f.sd], .int .i64 z]) (by simp [results, Tryd.results16, go_sem, u0, u1, u2, u3, u4]) rfl ⟨⟨_, _, rfl, hz1, hz2⟩, below5 HB4.out (Nat.le_refl _) _ _ _ _ _⟩

/-- What stands: the two results' boxes, the reader, the two features' boxes. -/
structure Pr (w W : World) (x y m : Nat) (f g : Ft) : Prop where
  ok : Ok W (w.heap.size + 2) m
  R0 : Blk W w.heap.size 25 nilF
  R1 : Blk W (w.heap.size + 1) 25 nilF
  X : Blk W x 25 #[.int .i64 f.c, .string f.wh, .string f.wt, .string f.lk, .string f.sd]
  Y : Blk W y 25 #[.int .i64 g.c, .string g.wh, .string g.wt, .string g.lk, .string g.sd]
  B : Below w.heap.size w W
  lx : w.heap.size + 2 < x
  ly : x < y
theorem Pr.step {w W W' : World} {x y m m' : Nat} {f g : Ft} (h : Pr w W x y m f g) (ho : Ok W' (w.heap.size + 2) m') (hg : W.grownBy W' (some (w.heap.size + 2))) : Pr w W' x y m' f g := by
  have h1 := h.lx
  have h2 := h.ly
  have hn : ∀ k, k ≠ w.heap.size + 2 → some (w.heap.size + 2) ≠ some k := fun k hk e => hk (by simpa using e.symm)
  exact ⟨ho, blk_grown h.R0 hg (hn _ (by omega)), blk_grown h.R1 hg (hn _ (by omega)), blk_grown h.X hg (hn _ (by omega)), blk_grown h.Y hg (hn _ (by omega)), h.B.grown hg h.B.size (fun k e => by cases e; omega), h.lx, h.ly⟩
theorem Pr.put {w W : World} {x y m : Nat} {f g g' : Ft} (h : Pr w W x y m f g) (i : Nat) (v : Value) (e : (#[.int .i64 g.c, .string g.wh, .string g.wt, .string g.lk, .string g.sd]).setIfInBounds i v = #[.int .i64 g'.c, .string g'.wh, .string g'.wt, .string g'.lk, .string g'.sd]) : Pr w (W.setCell ⟨y, i, none⟩ v) x y m f g' := by
  have h1 := h.lx
  have h2 := h.ly
  have hB : Below (w.heap.size + 3) W (W.setCell ⟨y, i, none⟩ v) := (Below.refl _ _).setCell (p := ⟨y, i, none⟩) (show w.heap.size + 3 ≤ y by omega) v
  have hY := h.Y.set_ i v
  rw [e] at hY
  exact ⟨ok_belowB h.ok hB (by omega), h.R0.far (p := ⟨y, i, none⟩) (show w.heap.size ≠ y by omega) v, h.R1.far (p := ⟨y, i, none⟩) (show w.heap.size + 1 ≠ y by omega) v, h.X.far (p := ⟨y, i, none⟩) (show x ≠ y by omega) v, hY, h.B.setCell (p := ⟨y, i, none⟩) (show w.heap.size ≤ y by omega) v, h.lx, h.ly⟩
theorem Pr.put_c {w W : World} {x y m : Nat} {f g : Ft} (h : Pr w W x y m f g) (z : Int) : Pr w (W.setCell ⟨y, 0, none⟩ (.int .i64 z)) x y m f ⟨z, g.wh, g.wt, g.lk, g.sd⟩ := h.put 0 _ rfl
theorem Pr.all {w W : World} {x y m : Nat} {f g : Ft} (h : Pr w W x y m f g) (k : Ft) : Pr w (((((W.setCell ⟨y, 0, none⟩ (.int .i64 k.c)).setCell ⟨y, 1, none⟩ (.string k.wh)).setCell ⟨y, 2, none⟩ (.string k.wt)).setCell ⟨y, 3, none⟩ (.string k.lk)).setCell ⟨y, 4, none⟩ (.string k.sd)) x y m f k :=
  ((((h.put 0 _ (g' := ⟨k.c, g.wh, g.wt, g.lk, g.sd⟩) rfl).put 1 _ (g' := ⟨k.c, k.wh, g.wt, g.lk, g.sd⟩) rfl).put 2 _ (g' := ⟨k.c, k.wh, k.wt, g.lk, g.sd⟩) rfl).put 3 _ (g' := ⟨k.c, k.wh, k.wt, k.lk, g.sd⟩) rfl).put 4 _ (g' := k) rfl
theorem Pr.drewN {w W : World} {x y m : Nat} {f g : Ft} (h : Pr w W x y m f g) (q : Nat) : Pr w (W.drewN q) x y m f g := ⟨h.ok.below (below_drewN (Below.refl _ _) q), h.R0, h.R1, h.X, h.Y, below_drewN h.B q, h.lx, h.ly⟩
theorem Pr.mono {w W : World} {x y m m' : Nat} {f g : Ft} (h : Pr w W x y m f g) (hm : m ≤ m') : Pr w W x y m' f g := ⟨h.ok.mono hm, h.R0, h.R1, h.X, h.Y, h.B, h.lx, h.ly⟩

theorem far5b {W : World} {g g' : Nat} {t : TypeId} {cs : Array Value} (h : Blk W g t cs) (hne : g ≠ g') (y0 y1 y2 y3 y4 : Value) :
    Blk (((((W.setCell ⟨g', 0, none⟩ y0).setCell ⟨g', 1, none⟩ y1).setCell ⟨g', 2, none⟩ y2).setCell ⟨g', 3, none⟩ y3).setCell ⟨g', 4, none⟩ y4) g t cs :=
  ((((h.far (p := ⟨g', 0, none⟩) hne y0).far (p := ⟨g', 1, none⟩) hne y1).far (p := ⟨g', 2, none⟩) hne y2).far (p := ⟨g', 3, none⟩) hne y3).far (p := ⟨g', 4, none⟩) hne y4
set_option maxHeartbeats 2000000 in
theorem pair_any (a : Option Addr) (n cap : Nat) (xs : Nat → Nat) (w : World) (hc : Bytes w a n xs) :
    Calls Tryd.prog 19 #[.slice a n cap] w fun e w' => (∃ f g : Ft, e = .returned (.tuple #[.agg #[.int .i64 f.c, .string f.wh, .string f.wt, .string f.lk, .string f.sd], .agg #[.int .i64 g.c, .string g.wh, .string g.wt, .string g.lk, .string g.sd]])) ∧ Below w.heap.size w w' := by
  have hb0 : Below w.heap.size w ((w.alloc (.cells nilF 25)).alloc (.cells nilF 25)) := ((Below.refl _ _).alloc (Nat.le_refl _) _).alloc (by simp) _
  have HK := Lib.hid (show Blk ((w.alloc (.cells nilF 25)).alloc (.cells nilF 25)) w.heap.size 25 nilF from (Blk.new w _ _).alloc _)
  have HL := Lib.hid (show Blk ((w.alloc (.cells nilF 25)).alloc (.cells nilF 25)) (w.heap.size + 1) 25 nilF from Blk.at_ (by simp))
  have HR := Lib.hid (Rs.start (B := w.heap.size + 2) (hc.below hb0) cap (by simp))
  have HB := Lib.hid hb0
  clear hc hb0
  go_enter Tryd.func19, Tryd.ntmps19
  go_wp2_with fail
  refine (feature_any _ 0 _ (by omega) HR.out.ok).mono ?_
  rintro e w1 ⟨⟨f, rfl⟩, hok, hg⟩
  have H1 := Lib.hid (HR.out.step hok hg)
  have hlt := H1.out.ok.lt
  have HP := Lib.hid (show Pr w ((w1.alloc (.cells #[.int .i64 f.c, .string f.wh, .string f.wt, .string f.lk, .string f.sd] 25)).alloc (.cells #[.int .i64 f.c, .string f.wh, .string f.wt, .string f.lk, .string f.sd] 25)) w1.heap.size (w1.heap.size + 1) (0 + 24) f f from by
    have hb1 : Below w1.heap.size w1 ((w1.alloc (.cells #[.int .i64 f.c, .string f.wh, .string f.wt, .string f.lk, .string f.sd] 25)).alloc (.cells #[.int .i64 f.c, .string f.wh, .string f.wt, .string f.lk, .string f.sd] 25)) := ((Below.refl _ _).alloc (Nat.le_refl _) _).alloc (by simp) _
    refine ⟨H1.out.ok.below hb1, (HK.out.below H1.out.B (by simp; omega)).later hb1, (HL.out.below H1.out.B (by simp)).later hb1, (Blk.new w1 _ _).alloc _, Blk.at_ (by simp), HB.out.trans ((H1.out.B.trans (hb1.mono H1.out.B.size)).mono (by simp; omega)), by simpa using hlt, by omega⟩)
  have HX := Lib.hid (Blk.new w1 25 #[.int .i64 f.c, .string f.wh, .string f.wt, .string f.lk, .string f.sd])
  obtain ⟨p0, p1, p2, p3, p4, -⟩ := HX.out.five
  clear hok hg
  go_wp2_with fail
  clear p0 p1 p2 p3 p4
  refine (pick_any _ _ 69 _ (by omega) (by omega) (by omega) HP.out.ok).mono ?_
  rintro e w2 ⟨⟨q, rfl, hq, _⟩, hok, hg⟩
  have H2 := Lib.hid (HP.out.step hok hg)
  clear hok hg
  have hwr : IntKind.i64.wrap (31 + (q : Int)) = 31 + q := IntWalk.i64_in _ (by omega)
  have H3 := Lib.hid (H2.out.put_c (31 + q))
  obtain ⟨x, hx⟩ : ∃ x, w1.heap.size = x := ⟨_, rfl⟩
  rw [hx] at H2 H3 ⊢
  obtain ⟨p0, p1, p2, p3, p4, s0, s1, s2, s3, s4⟩ := H2.out.Y.five
  go_upto_if 18 with (go_at_call 56; refine (one_any _ _ 2 _ (by omega) (by omega) (by omega) H3.out.ok).mono ?_; rintro e w3 ⟨⟨t, rfl⟩, hok, hg⟩; have H4 := Lib.hid (H3.out.step hok hg); clear hok hg)
  clear p0 p1 p2 p3 p4 s0 s1 s2 s3 s4
  go_cut [] from 19 to 20 (fun wx => ∃ g, Pr w wx x (x + 1) 64 f g)
  case first =>
    cases t with
    | false =>
      go_wp2
      go_meet
      exact ⟨_, H4.out.mono (by omega)⟩
    | true =>
      go_wp2_with fail
      refine (feature_any _ _ _ (by omega) H4.out.ok).mono ?_
      rintro e w4 ⟨⟨g, rfl⟩, hok, hg⟩
      have H5 := Lib.hid (H4.out.step hok hg)
      clear hok hg
      obtain ⟨p0, p1, p2, p3, p4, s0, s1, s2, s3, s4⟩ := H5.out.Y.five
      go_wp2
      go_meet
      exact ⟨_, (H5.out.all g).mono (by omega)⟩
  case rest =>
  obtain ⟨g, hE⟩ := hcut
  have H5 := Lib.hid hE
  clear hE
  obtain ⟨p0, p1, p2, p3, p4, -⟩ := H5.out.X.five
  obtain ⟨q0, q1, q2, q3, q4, -⟩ := H5.out.Y.five
  obtain ⟨r0, r1, r2, r3, r4, z0, z1, z2, z3, z4⟩ := H5.out.R0.five
  obtain ⟨t0, t1, t2, t3, t4, y0, y1, y2, y3, y4⟩ := H5.out.R1.five
  have hlx := H5.out.lx
  go_wp2
  go_region
  go_wp2
  clear p0 p1 p2 p3 p4 q0 q1 q2 q3 q4 r0 r1 r2 r3 r4 z0 z1 z2 z3 z4 t0 t1 t2 t3 t4 y0 y1 y2 y3 y4
  have hA := DrF.all5 H5.out.R0 (.int .i64 f.c) (.string f.wh) (.string f.wt) (.string f.lk) (.string f.sd)
  have hB := far5b H5.out.R1 (show w.heap.size + 1 ≠ w.heap.size by omega) (.int .i64 f.c) (.string f.wh) (.string f.wt) (.string f.lk) (.string f.sd)
  have hA2 := Lib.hid (far5b hA (show w.heap.size ≠ w.heap.size + 1 by omega) (.int .i64 g.c) (.string g.wh) (.string g.wt) (.string g.lk) (.string g.sd)).drew
  have hB2 := Lib.hid (DrF.all5 hB (.int .i64 g.c) (.string g.wh) (.string g.wt) (.string g.lk) (.string g.sd)).drew
  have hC := (below5 (below5 H5.out.B (Nat.le_refl _) (.int .i64 f.c) (.string f.wh) (.string f.wt) (.string f.lk) (.string f.sd)) (show w.heap.size ≤ w.heap.size + 1 by omega) (.int .i64 g.c) (.string g.wh) (.string g.wt) (.string g.lk) (.string g.sd)).drew
  clear hA hB
  obtain ⟨u0, u1, u2, u3, u4, -⟩ := hA2.out.five
  obtain ⟨v0, v1, v2, v3, v4, -⟩ := hB2.out.five
  exact bodyPost_ret (v := .tuple #[.agg #[.int .i64 f.c, .string f.wh, .string f.wt, .string f.lk, .string f.sd], .agg #[.int .i64 g.c, .string g.wh, .string g.wt, .string g.lk, .string g.sd]]) (by simp [results, Tryd.results19, go_sem, u0, u1, u2, u3, u4, v0, v1, v2, v3, v4]) rfl ⟨⟨_, _, rfl⟩, hC⟩

end Go.Proofs.YtpfjdlaaakkimaaDoor.DrP
