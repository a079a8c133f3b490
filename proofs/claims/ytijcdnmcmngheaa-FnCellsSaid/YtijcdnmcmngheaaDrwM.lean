/- The drawn inputs of chapter 2: contracts. -/
import Derived.Test.YtijcdnmcmngheaaCodM
import Derived.Test.YtijcdnmcmngheaaCells
import Derived.Test.YtijcdnmcmngheaaStepT
namespace Go.Proofs.Ytijcdnmcmngheaa.DrwM
open Go.RowKit Lb Cur IntS MapS MapV SpecB CurM CodM
set_option linter.unusedSimpArgs false
set_option linter.unusedVariables false

set_option maxHeartbeats 1000000 in
theorem cell_any (b mm : Nat) (m : Mp) (ar ac : Option Addr) (cr cc : Nat) (w : World) (hm : mm ≤ 1152921504606846000) (hC : m.C.length ≤ 21) (hok : Ok w b mm) :
    Calls Try.prog 70 #[.pointer (some ⟨b, 0, none⟩), .agg #[.int .i64 m.W, .int .i64 m.H, .slice ar m.R.length cr, .slice ac m.C.length cc]] w fun e w' => (∃ z : Int, e = .returned (.int .i64 z)) ∧ Ok w' b (mm + 4) ∧ w.grownBy w' (some b) := by
  have hbl := hok.lt
  have HB := Lib.hid ((Below.refl w.heap.size w).alloc (Nat.le_refl _) (.cells #[.int .i64 m.W, .int .i64 m.H, .slice ar m.R.length cr, .slice ac m.C.length cc] 26))
  obtain ⟨N, hN⟩ : ∃ N : Int, StepT.mostOf 1 (m.C.length : Int) = N := ⟨_, rfl⟩
  have hN1 : 1 ≤ N ∧ N ≤ 21 := by have := StepT.mostOf_eq 1 (m.C.length : Int); omega
  have HN := Lib.hid hN
  have c1 := Lib.hid (pick_any b mm (N + 1) _ (by omega) (by omega) (by omega) (hok.below HB.out))
  clear hok
  clear hN
  go_enter Try.func70, Try.ntmps70
  go_wp2_with fail
  refine (StepT.most_any _ _ _).mono ?_
  rintro e w1 ⟨rfl, rfl⟩
  rw [HN.out]
  go_wp2_with fail
  refine c1.out.mono ?_
  rintro e w2 ⟨⟨r1, rfl, hr1, -⟩, hok2, hg2⟩
  have HG2 := Lib.hid (gtrans (gbelow HB.out (some b)) hg2)
  have c2 := Lib.hid (pick_any b (mm + 2) 9 _ (by omega) (by omega) (by omega) hok2)
  clear hok2 hg2
  go_wp2_with fail
  refine c2.out.mono ?_
  rintro e w3 ⟨⟨r2, rfl, hr2, -⟩, hok3, hg3⟩
  have HG3 := Lib.hid (gtrans HG2.out hg3)
  have HO3 := Lib.hid hok3
  clear hok3 hg3
  go_wp2_with fail
  go_ret
  exact ⟨⟨_, rfl⟩, HO3.out, HG3.out⟩

/-- A map that was drawn, whatever it is. -/
def DPost (w : World) (e : Ending) (w' : World) : Prop := MDr w e w' ∧ Below w.heap.size w w'

set_option maxRecDepth 100000 in
set_option maxHeartbeats 2000000 in
theorem is_any (a : Option Addr) (n cap : Nat) (xs : Nat → Nat) (w : World) (hc : Bytes w a n xs) :
    Calls Try.prog 55 #[.slice a n cap] w (DPost w) := by
  have HB := Lib.hid ((Below.refl w.heap.size w).alloc (Nat.le_refl _) (.cells #[.int .i64 0, .int .i64 0, .slice none 0 0, .slice none 0 0] 26))
  have HQ0 := Lib.hid (Blk.new w 26 #[.int .i64 0, .int .i64 0, .slice none 0 0, .slice none 0 0])
  have c1 := Lib.hid (MapD.map_any _ 0 _ (by omega) (begin_ (hc.below HB.out) cap))
  rw [World.size_alloc] at c1
  clear hc
  go_enter Try.func55, Try.ntmps55
  go_wp2_with fail
  refine c1.out.mono ?_
  rintro e w1 ⟨⟨v, rfl, m, ho, hR, hC⟩, -, hg1⟩
  obtain ⟨ar, cr, ac, cc, rfl, h1, h2, hne⟩ := ho
  rw [World.size_alloc, World.size_alloc] at h1 h2
  have HB1 := Lib.hid (below_of_grown (HB.out.alloc (by simp) _) hg1 (by simp; omega) (by simp))
  have HQ1 := Lib.hid (blk_grown (HQ0.out.alloc _) hg1 (by simp))
  have H1 := Lib.hid h1
  have H2 := Lib.hid h2
  have HN := Lib.hid hne
  have hz := HQ1.out.lt
  clear hg1 h1 h2 hne
  obtain ⟨r0, r1, r2, r3, l0, l1, l2, l3⟩ := HQ1.out.four
  go_wp2
  refine bodyPost_ret (v := .agg #[.int .i64 m.W, .int .i64 m.H, .slice ar m.R.length cr, .slice ac m.C.length cc]) (by simp [results, Try.results55, go_sem, r0, r1, r2, r3]) rfl ⟨⟨_, rfl, m, ⟨ar, cr, ac, cc, rfl, ?_, ?_, HN.out⟩, hR, hC⟩, ?_⟩
  · have h := H1.out
    unfold OwnI at h ⊢
    refine rebase (b := w.heap.size + 1 + 1) ?_ (by omega)
    iterate 4 (refine ownsRow_setCell_below ?_ (by show w.heap.size < _; omega) _)
    exact h
  · have h := H2.out
    unfold OwnI at h ⊢
    refine rebase (b := w.heap.size + 1 + 1) ?_ (by omega)
    iterate 4 (refine ownsRow_setCell_below ?_ (by show w.heap.size < _; omega) _)
    exact h
  · iterate 4 (refine Below.setCell ?_ (by simp) _)
    exact HB1.out

set_option maxHeartbeats 400000 in
theorem parts_any (a : Option Addr) (n cap : Nat) (xs : Nat → Nat) (w : World) (hc : Bytes w a n xs) :
    Calls Try.prog 33 #[.slice a n cap] w (DPost w) := by
  have HB := Lib.hid ((Below.refl w.heap.size w).alloc (Nat.le_refl _) (.cells #[.int .i64 0, .int .i64 0, .slice none 0 0, .slice none 0 0] 26))
  have HQ0 := Lib.hid (Blk.new w 26 #[.int .i64 0, .int .i64 0, .slice none 0 0, .slice none 0 0])
  have c1 := Lib.hid (is_any a n cap xs _ (hc.below HB.out))
  clear hc
  go_enter Try.func33, Try.ntmps33
  go_wp2_with fail
  refine c1.out.mono ?_
  rintro e w1 ⟨⟨v, rfl, m, ho, hR, hC⟩, hb1⟩
  obtain ⟨ar, cr, ac, cc, rfl, h1, h2, hne⟩ := ho
  rw [World.size_alloc] at h1 h2
  have HB1 := Lib.hid (HB.out.trans (hb1.mono (by simp)))
  have HQ1 := Lib.hid (HQ0.out.later hb1)
  have H1 := Lib.hid h1
  have H2 := Lib.hid h2
  have HN := Lib.hid hne
  have hz := HQ1.out.lt
  clear hb1 h1 h2 hne
  obtain ⟨r0, r1, r2, r3, l0, l1, l2, l3⟩ := HQ1.out.four
  go_wp2
  refine bodyPost_ret (v := .agg #[.int .i64 m.W, .int .i64 m.H, .slice ar m.R.length cr, .slice ac m.C.length cc]) (by simp [results, Try.results33, go_sem, r0, r1, r2, r3]) rfl ⟨⟨_, rfl, m, ⟨ar, cr, ac, cc, rfl, ?_, ?_, HN.out⟩, hR, hC⟩, ?_⟩
  · have h := H1.out
    unfold OwnI at h ⊢
    refine rebase (b := w.heap.size + 1) ?_ (by omega)
    iterate 4 (refine ownsRow_setCell_below ?_ (by show w.heap.size < _; omega) _)
    exact h
  · have h := H2.out
    unfold OwnI at h ⊢
    refine rebase (b := w.heap.size + 1) ?_ (by omega)
    iterate 4 (refine ownsRow_setCell_below ?_ (by show w.heap.size < _; omega) _)
    exact h
  · iterate 4 (refine Below.setCell ?_ (by simp) _)
    exact HB1.out

set_option maxHeartbeats 400000 in
theorem high_any (a : Option Addr) (n cap : Nat) (xs : Nat → Nat) (w : World) (hc : Bytes w a n xs) :
    Calls Try.prog 41 #[.slice a n cap] w (DPost w) := by
  have HB := Lib.hid ((Below.refl w.heap.size w).alloc (Nat.le_refl _) (.cells #[.int .i64 0, .int .i64 0, .slice none 0 0, .slice none 0 0] 26))
  have HQ0 := Lib.hid (Blk.new w 26 #[.int .i64 0, .int .i64 0, .slice none 0 0, .slice none 0 0])
  have c1 := Lib.hid (is_any a n cap xs _ (hc.below HB.out))
  clear hc
  go_enter Try.func41, Try.ntmps41
  go_wp2_with fail
  refine c1.out.mono ?_
  rintro e w1 ⟨⟨v, rfl, m, ho, hR, hC⟩, hb1⟩
  obtain ⟨ar, cr, ac, cc, rfl, h1, h2, hne⟩ := ho
  rw [World.size_alloc] at h1 h2
  have HB1 := Lib.hid (HB.out.trans (hb1.mono (by simp)))
  have HQ1 := Lib.hid (HQ0.out.later hb1)
  have H1 := Lib.hid h1
  have H2 := Lib.hid h2
  have HN := Lib.hid hne
  have hz := HQ1.out.lt
  clear hb1 h1 h2 hne
  obtain ⟨r0, r1, r2, r3, l0, l1, l2, l3⟩ := HQ1.out.four
  go_wp2
  refine bodyPost_ret (v := .agg #[.int .i64 m.W, .int .i64 m.H, .slice ar m.R.length cr, .slice ac m.C.length cc]) (by simp [results, Try.results41, go_sem, r0, r1, r2, r3]) rfl ⟨⟨_, rfl, m, ⟨ar, cr, ac, cc, rfl, ?_, ?_, HN.out⟩, hR, hC⟩, ?_⟩
  · have h := H1.out
    unfold OwnI at h ⊢
    refine rebase (b := w.heap.size + 1) ?_ (by omega)
    iterate 4 (refine ownsRow_setCell_below ?_ (by show w.heap.size < _; omega) _)
    exact h
  · have h := H2.out
    unfold OwnI at h ⊢
    refine rebase (b := w.heap.size + 1) ?_ (by omega)
    iterate 4 (refine ownsRow_setCell_below ?_ (by show w.heap.size < _; omega) _)
    exact h
  · iterate 4 (refine Below.setCell ?_ (by simp) _)
    exact HB1.out

theorem ok_drew {w : World} {b m : Nat} (h : Ok w b m) : Ok w.drew b m := h

/-- A map and a number that were drawn. -/
def CPost (w : World) (e : Ending) (w' : World) : Prop := ∃ (v : Value) (z : Int), e = .returned (.tuple #[v, .int .i64 z]) ∧ (∃ m : Mp, OwnM w' w.heap.size v m ∧ m.R.length ≤ 21 ∧ m.C.length ≤ 21) ∧ Below w.heap.size w w'

set_option maxRecDepth 100000 in
set_option maxHeartbeats 4000000 in
theorem next_draw (a : Option Addr) (n cap : Nat) (xs : Nat → Nat) (w : World) (hc : Bytes w a n xs) :
    Calls Try.prog 28 #[.slice a n cap] w (CPost w) := by
  have HB := Lib.hid ((Below.refl w.heap.size w).alloc (Nat.le_refl _) (.cells #[.int .i64 0, .int .i64 0, .slice none 0 0, .slice none 0 0] 26))
  have HQ0 := Lib.hid (Blk.new w 26 #[.int .i64 0, .int .i64 0, .slice none 0 0, .slice none 0 0])
  have c1 := Lib.hid (MapD.map_any _ 0 _ (by omega) (begin_ (hc.below HB.out) cap))
  rw [World.size_alloc] at c1
  clear hc
  go_enter Try.func28, Try.ntmps28
  go_wp2_with fail
  refine c1.out.mono ?_
  rintro e w1 ⟨⟨v, rfl, m, ho, hR, hC⟩, hok1, hg1⟩
  obtain ⟨ar, cr, ac, cc, rfl, h1, h2, hne⟩ := ho
  rw [World.size_alloc, World.size_alloc] at h1 h2
  have HB1 := Lib.hid (below_of_grown (HB.out.alloc (by simp) _) hg1 (by simp; omega) (by simp))
  have HQ1 := Lib.hid (blk_grown (HQ0.out.alloc _) hg1 (by simp))
  have hz := HQ1.out.lt
  have HM1 := Lib.hid (Blk.new w1 26 #[.int .i64 m.W, .int .i64 m.H, .slice ar m.R.length cr, .slice ac m.C.length cc])
  have HA := Lib.hid (show Below w1.heap.size w1 (w1.alloc (.cells #[.int .i64 m.W, .int .i64 m.H, .slice ar m.R.length cr, .slice ac m.C.length cc] 26)) from (Below.refl _ _).alloc (Nat.le_refl _) _)
  have hb1 := hok1.lt
  have c2 := Lib.hid (cell_any (w.heap.size + 1) (0 + 200) m ar ac cr cc _ (by omega) hC (ok_drew (hok1.below HA.out)))
  have H1 := Lib.hid h1
  have H2 := Lib.hid h2
  have HN := Lib.hid hne
  clear hg1 h1 h2 hne hok1 c1
  obtain ⟨p0, p1, p2, p3, -⟩ := HM1.out.four
  go_upto_region 3 with (fail)
  go_region_with (go_at_call 70; refine c2.out.mono ?_; rintro e w2 ⟨⟨z, rfl⟩, -, hg2⟩; have HM2 := Lib.hid (blk_grown (show Blk (w1.alloc (.cells #[.int .i64 m.W, .int .i64 m.H, .slice ar m.R.length cr, .slice ac m.C.length cc] 26)).drew w1.heap.size 26 #[.int .i64 m.W, .int .i64 m.H, .slice ar m.R.length cr, .slice ac m.C.length cc] from HM1.out) hg2 (by simp; omega)); have HQ2 := Lib.hid (blk_grown (show Blk (w1.alloc (.cells #[.int .i64 m.W, .int .i64 m.H, .slice ar m.R.length cr, .slice ac m.C.length cc] 26)).drew w.heap.size 26 #[.int .i64 0, .int .i64 0, .slice none 0 0, .slice none 0 0] from HQ1.out.alloc _) hg2 (by simp)); have HB2 := Lib.hid (below_of_grown (show Below w.heap.size w (w1.alloc (.cells #[.int .i64 m.W, .int .i64 m.H, .slice ar m.R.length cr, .slice ac m.C.length cc] 26)).drew from (HB1.out.alloc HB1.out.size _).drew) hg2 (by show w.heap.size ≤ (w1.alloc _).heap.size; simp; omega) (by omega)); have O1 := Lib.hid (own_grown (show OwnI (w1.alloc (.cells #[.int .i64 m.W, .int .i64 m.H, .slice ar m.R.length cr, .slice ac m.C.length cc] 26)).drew (w.heap.size + 1 + 1) (.slice ar m.R.length cr) m.R from World.ownsRow.alloc H1.out _) hg2 (fun x y hx hy => by cases hy; have := (H1.out.lt x hx).1; omega)); have O2 := Lib.hid (own_grown (show OwnI (w1.alloc (.cells #[.int .i64 m.W, .int .i64 m.H, .slice ar m.R.length cr, .slice ac m.C.length cc] 26)).drew (w.heap.size + 1 + 1) (.slice ac m.C.length cc) m.C from World.ownsRow.alloc H2.out _) hg2 (fun x y hx hy => by cases hy; have := (H2.out.lt x hx).1; omega)); obtain ⟨k0, k1, k2, k3, -⟩ := HM2.out.four; obtain ⟨r0, r1, r2, r3, l0, l1, l2, l3⟩ := HQ2.out.four; have hx1 := HQ2.out.lt; have hx2 := HM2.out.lt; clear hg2)
  all_goals
    go_wp2
    refine bodyPost_ret (v := .tuple #[.agg #[.int .i64 m.W, .int .i64 m.H, .slice ar m.R.length cr, .slice ac m.C.length cc], .int .i64 z]) (by simp [results, Try.results28, go_sem, r0, r1, r2, r3]) rfl ⟨_, z, rfl, ⟨m, ⟨ar, cr, ac, cc, rfl, ?_, ?_, HN.out⟩, hR, hC⟩, ?_⟩
    · have h := O1.out
      refine rebase (b := w.heap.size + 1 + 1) ?_ (by omega)
      iterate 4 (refine ownsRow_setCell_below ?_ (by show w.heap.size < _; omega) _)
      exact h
    · have h := O2.out
      refine rebase (b := w.heap.size + 1 + 1) ?_ (by omega)
      iterate 4 (refine ownsRow_setCell_below ?_ (by show w.heap.size < _; omega) _)
      exact h
    · iterate 4 (refine Below.setCell ?_ (by simp) _)
      exact HB2.out

/-- What stands while a step is drawn. -/
structure DSt (w : World) (m : Mp) (ar : Option Addr) (cr : Nat) (ac : Option Addr) (cc B mm : Nat) (wx : World) : Prop where
  b : Below w.heap.size w wx
  res : Blk wx w.heap.size 26 #[.int .i64 0, .int .i64 0, .slice none 0 0, .slice none 0 0]
  box : Blk wx B 26 #[.int .i64 m.W, .int .i64 m.H, .slice ar m.R.length cr, .slice ac m.C.length cc]
  r : OwnI wx (w.heap.size + 1 + 1) (.slice ar m.R.length cr) m.R
  c : OwnI wx (w.heap.size + 1 + 1) (.slice ac m.C.length cc) m.C
  ok : Ok wx (w.heap.size + 1) mm
section
variable {w : World} {m : Mp} {ar ac : Option Addr} {cr cc B mm : Nat} {wx w' : World}
theorem DSt.below (h : DSt w m ar cr ac cc B mm wx) (hb : Below wx.heap.size wx w') : DSt w m ar cr ac cc B mm w' :=
  ⟨h.b.trans (hb.mono h.b.size), h.res.later hb, h.box.later hb, h.r.below hb, h.c.below hb, h.ok.below hb⟩
theorem DSt.drew (h : DSt w m ar cr ac cc B mm wx) : DSt w m ar cr ac cc B mm wx.drew := ⟨h.b.drew, h.res, h.box, h.r, h.c, h.ok⟩
theorem DSt.mono {mm' : Nat} (h : DSt w m ar cr ac cc B mm wx) (hm : mm ≤ mm') : DSt w m ar cr ac cc B mm' wx := ⟨h.b, h.res, h.box, h.r, h.c, h.ok.mono hm⟩
theorem DSt.step {mm' : Nat} (h : DSt w m ar cr ac cc B mm wx) (hB : w.heap.size + 1 < B) (ho : Ok w' (w.heap.size + 1) mm') (hg : wx.grownBy w' (some (w.heap.size + 1))) : DSt w m ar cr ac cc B mm' w' :=
  ⟨below_of_grown h.b hg h.b.size (by omega), blk_grown h.res hg (by simp), blk_grown h.box hg (by simp; omega), own_grown h.r hg (fun x y hx hy => by cases hy; have := (h.r.lt x hx).1; omega), own_grown h.c hg (fun x y hx hy => by cases hy; have := (h.c.lt x hx).1; omega), ho⟩
theorem DSt.rowR (h : DSt w m ar cr ac cc B mm wx) : IRow wx ar m.R := OwnI.row h.r
theorem DSt.rowC (h : DSt w m ar cr ac cc B mm wx) : IRow wx ac m.C := OwnI.row h.c
end

/-- A map and two numbers that were drawn. -/
def SPost (w : World) (e : Ending) (w' : World) : Prop := ∃ (v : Value) (y z : Int), e = .returned (.tuple #[v, .int .i64 y, .int .i64 z]) ∧ (∃ m : Mp, OwnM w' w.heap.size v m ∧ m.R.length ≤ 21 ∧ m.C.length ≤ 21) ∧ Below w.heap.size w w'

set_option maxRecDepth 100000 in
set_option maxHeartbeats 8000000 in
theorem step_draw (a : Option Addr) (n cap : Nat) (xs : Nat → Nat) (w : World) (hc : Bytes w a n xs) :
    Calls Try.prog 38 #[.slice a n cap] w (SPost w) := by
  have HB := Lib.hid ((Below.refl w.heap.size w).alloc (Nat.le_refl _) (.cells #[.int .i64 0, .int .i64 0, .slice none 0 0, .slice none 0 0] 26))
  have HQ0 := Lib.hid (Blk.new w 26 #[.int .i64 0, .int .i64 0, .slice none 0 0, .slice none 0 0])
  have c1 := Lib.hid (MapD.map_any _ 0 _ (by omega) (begin_ (hc.below HB.out) cap))
  rw [World.size_alloc] at c1
  clear hc
  go_enter Try.func38, Try.ntmps38
  go_wp2_with fail
  refine c1.out.mono ?_
  rintro e w1 ⟨⟨v, rfl, m, ho, hR, hC⟩, hok1, hg1⟩
  obtain ⟨ar, cr, ac, cc, rfl, h1, h2, hne⟩ := ho
  rw [World.size_alloc, World.size_alloc] at h1 h2
  have hz : w.heap.size + 1 < w1.heap.size := hok1.lt
  obtain ⟨B5, hB5e⟩ : ∃ B, w1.heap.size = B := ⟨_, rfl⟩
  have HS1 := Lib.hid (show DSt w m ar cr ac cc B5 200 (w1.alloc (.cells #[.int .i64 m.W, .int .i64 m.H, .slice ar m.R.length cr, .slice ac m.C.length cc] 26)) from by
    have hA : Below w1.heap.size w1 (w1.alloc (.cells #[.int .i64 m.W, .int .i64 m.H, .slice ar m.R.length cr, .slice ac m.C.length cc] 26)) := (Below.refl _ _).alloc (Nat.le_refl _) _
    have hB1 := below_of_grown (HB.out.alloc (by simp) _) hg1 (by simp; omega) (by simp)
    refine ⟨hB1.alloc hB1.size _, (blk_grown (HQ0.out.alloc _) hg1 (by simp)).alloc _, ?_, World.ownsRow.alloc h1 _, World.ownsRow.alloc h2 _, (hok1.below hA).mono (by omega)⟩
    rw [← hB5e]
    exact Blk.new w1 26 #[.int .i64 m.W, .int .i64 m.H, .slice ar m.R.length cr, .slice ac m.C.length cc])
  have HN := Lib.hid hne
  have hB5 : w.heap.size + 1 < B5 := by omega
  have hRm : m.R.length ≤ maxLen := by unfold maxLen; omega
  have hCm : m.C.length ≤ maxLen := by unfold maxLen; omega
  clear hg1 h1 h2 hne hok1 c1 HB HQ0
  obtain ⟨p0, p1, p2, p3, -⟩ := HS1.out.box.four
  rw [← hB5e] at p0 p1 p2 p3
  have c2 := Lib.hid (cell_any (w.heap.size + 1) 200 m ar ac cr cc _ (by omega) hC HS1.out.ok)
  go_wp2_with fail
  refine c2.out.mono ?_
  rintro e w2 ⟨⟨z1, rfl⟩, hok2, hg2⟩
  have HS2 := Lib.hid (HS1.out.step hB5 hok2 hg2)
  clear hok2 hg2 c2 HS1 p0 p1 p2 p3 hB5e
  go_upto_region 4 with (fail)
  obtain ⟨p0, p1, p2, p3, -⟩ := HS2.out.box.four
  have hx0 := HS2.out.box.lt
  go_cut [28] from 17 to 29 (fun t wx => ∃ tb, t = .bool tb ∧ (tb = true → ∃ (ww hh k : Nat), GoodM m ww hh ∧ z1 = (k : Nat) ∧ k < ww * hh) ∧ DSt w m ar cr ac cc B5 206 wx)
  case first =>
    by_cases hmo : m.ok
    · obtain ⟨ww, hh, g⟩ := good_of hmo
      obtain ⟨o, ho1, ho2⟩ := StepT.sopen m ww hh g z1
      have HG := Lib.hid g
      have HO1 := Lib.hid ho1
      have HO2 := Lib.hid ho2
      have hk := okB_yes hmo
      clear ho1 ho2 g hmo
      go_wp2_with fail
      refine (MapV.spec_any m ar ac cr cc _ hRm hCm HS2.out.rowR HS2.out.rowC).mono ?_
      rw [hk]
      rintro e w3 ⟨rfl, hb3⟩
      have HS3 := Lib.hid (HS2.out.below hb3)
      clear hb3 p0 p1 p2 p3 hx0 hk
      obtain ⟨p0, p1, p2, p3, -⟩ := HS3.out.box.four
      have hx0 := HS3.out.box.lt
      go_wp2_with fail
      refine (HO2.out ar ac cr cc _ HS3.out.rowC).mono ?_
      rintro e w4 ⟨rfl, hb4⟩
      have HS4 := Lib.hid (HS3.out.below hb4)
      clear hb4 p0 p1 p2 p3 hx0 HO2
      cases o with
      | false =>
        go_wp2_with fail
        go_meet
        exact ⟨false, rfl, (fun e => by cases e), HS4.out.mono (by omega)⟩
      | true =>
        have c5 := Lib.hid (one_any (w.heap.size + 1) 204 6 _ (by omega) (by omega) (by omega) HS4.out.ok)
        go_wp2_with fail
        refine c5.out.mono ?_
        rintro e w5 ⟨⟨t, rfl⟩, hok5, hg5⟩
        have HS5 := Lib.hid (HS4.out.step hB5 hok5 hg5)
        have HK := Lib.hid (show ∃ (ww hh k : Nat), GoodM m ww hh ∧ z1 = (k : Nat) ∧ k < ww * hh from by
          obtain ⟨k, e, hk, _⟩ := HO1.out.1 (by simp)
          exact ⟨ww, hh, k, HG.out, e, hk⟩)
        clear hok5 hg5
        go_wp2_with fail
        go_meet
        exact ⟨_, rfl, fun _ => HK.out, HS5.out⟩
    · have hk := okB_no hmo
      go_wp2_with fail
      refine (MapV.spec_any m ar ac cr cc _ hRm hCm HS2.out.rowR HS2.out.rowC).mono ?_
      rw [hk]
      rintro e w3 ⟨rfl, hb3⟩
      have HS3 := Lib.hid (HS2.out.below hb3)
      clear hb3 p0 p1 p2 p3 hx0 hk
      go_wp2_with fail
      go_meet
      exact ⟨false, rfl, (fun e => by cases e), HS3.out.mono (by omega)⟩
  case rest =>
  obtain ⟨tb, rfl, hyes, hS6⟩ := hcut
  have HS6 := Lib.hid hS6
  have HY := Lib.hid hyes
  clear hS6 hyes HS2 p0 p1 p2 p3 hx0
  cases tb with
  | false =>
    have HSd := Lib.hid HS6.out.drew
    have c8 := Lib.hid (cell_any (w.heap.size + 1) 206 m ar ac cr cc _ (by omega) hC HSd.out.ok)
    obtain ⟨p0, p1, p2, p3, -⟩ := HS6.out.box.four
    have hx0 := HS6.out.box.lt
    go_upto_region 8 with (fail)
    go_region_with (go_at_call 70; refine c8.out.mono ?_; rintro e w8 ⟨⟨z8, rfl⟩, hok8, hg8⟩; have HS8 := Lib.hid (HSd.out.step hB5 hok8 hg8); obtain ⟨k0, k1, k2, k3, -⟩ := HS8.out.box.four; obtain ⟨r0, r1, r2, r3, l0, l1, l2, l3⟩ := HS8.out.res.four; have hx1 := HS8.out.res.lt; have hx2 := HS8.out.box.lt; clear hok8 hg8)
    all_goals
      go_wp2
      refine bodyPost_ret (v := .tuple #[.agg #[.int .i64 m.W, .int .i64 m.H, .slice ar m.R.length cr, .slice ac m.C.length cc], .int .i64 z1, .int .i64 z8]) (by simp [results, Try.results38, go_sem, r0, r1, r2, r3]) rfl ⟨_, z1, z8, rfl, ⟨m, ⟨ar, cr, ac, cc, rfl, ?_, ?_, HN.out⟩, hR, hC⟩, ?_⟩
      · have h := HS8.out.r
        refine rebase (b := w.heap.size + 1 + 1) ?_ (by omega)
        iterate 4 (refine ownsRow_setCell_below ?_ (by show w.heap.size < _; omega) _)
        exact h
      · have h := HS8.out.c
        refine rebase (b := w.heap.size + 1 + 1) ?_ (by omega)
        iterate 4 (refine ownsRow_setCell_below ?_ (by show w.heap.size < _; omega) _)
        exact h
      · iterate 4 (refine Below.setCell ?_ (by simp) _)
        exact HS8.out.b
  | true =>
    obtain ⟨ww, hh, k, g, hzk, hk⟩ := HY.out rfl
    subst hzk
    have HG := Lib.hid g
    clear g
    obtain ⟨p0, p1, p2, p3, -⟩ := HS6.out.box.four
    have hx0 := HS6.out.box.lt
    go_wp2_with fail
    refine (Cells.spec_next m ww hh HG.out ar ac cr cc k _ HS6.out.rowC hk).mono ?_
    rintro e w7 ⟨⟨v7, rfl, ho7⟩, hb7⟩
    obtain ⟨a7, c7, rfl, hr7, hk7⟩ := OwnI.slice ho7
    rw [ints_length]
    have HS7 := Lib.hid (HS6.out.below hb7)
    have HR7 := Lib.hid hr7
    have HL7 := Lib.hid (show ∀ x, a7 = some x → x.block < w7.heap.size ∧ x.block ≠ w.heap.size + 1 ∧ x.block ≠ w.heap.size from fun x e => ⟨(hk7 x e).2, by
      have h1 := (hk7 x e).1
      have h2 := HS6.out.ok.lt
      omega⟩)
    have hnl := nx_length m k
    clear ho7 hr7 hk7 hb7 p0 p1 p2 p3 hx0
    by_cases h0 : (nx m k).length = 0
    · have h0' : ¬ 0 < (nx m k).length := by omega
      have HSd := Lib.hid HS7.out.drew
      have c8 := Lib.hid (cell_any (w.heap.size + 1) 206 m ar ac cr cc _ (by omega) hC HSd.out.ok)
      obtain ⟨p0, p1, p2, p3, -⟩ := HS7.out.box.four
      have hx0 := HS7.out.box.lt
      go_upto_region 8 with (fail)
      go_region_with (go_at_call 70; refine c8.out.mono ?_; rintro e w8 ⟨⟨z8, rfl⟩, hok8, hg8⟩; have HS8 := Lib.hid (HSd.out.step hB5 hok8 hg8); obtain ⟨k0, k1, k2, k3, -⟩ := HS8.out.box.four; obtain ⟨r0, r1, r2, r3, l0, l1, l2, l3⟩ := HS8.out.res.four; have hx1 := HS8.out.res.lt; have hx2 := HS8.out.box.lt; clear hok8 hg8)
      all_goals
        go_wp2
        refine bodyPost_ret (v := .tuple #[.agg #[.int .i64 m.W, .int .i64 m.H, .slice ar m.R.length cr, .slice ac m.C.length cc], .int .i64 k, .int .i64 z8]) (by simp [results, Try.results38, go_sem, r0, r1, r2, r3]) rfl ⟨_, k, z8, rfl, ⟨m, ⟨ar, cr, ac, cc, rfl, ?_, ?_, HN.out⟩, hR, hC⟩, ?_⟩
        · have h := HS8.out.r
          refine rebase (b := w.heap.size + 1 + 1) ?_ (by omega)
          iterate 4 (refine ownsRow_setCell_below ?_ (by show w.heap.size < _; omega) _)
          exact h
        · have h := HS8.out.c
          refine rebase (b := w.heap.size + 1 + 1) ?_ (by omega)
          iterate 4 (refine ownsRow_setCell_below ?_ (by show w.heap.size < _; omega) _)
          exact h
        · iterate 4 (refine Below.setCell ?_ (by simp) _)
          exact HS8.out.b
    · have h0' : 0 < (nx m k).length := by omega
      rcases HR7.out with hr0 | ⟨b7, o7, rfl, hc7⟩
      · rw [ints_length] at hr0; omega
      have HC7 := Lib.hid hc7
      obtain ⟨hl7, hn7, hm7⟩ := HL7.out _ rfl
      simp only at hl7 hn7 hm7
      have hm7' : w.heap.size ≠ b7 := fun e => hm7 e.symm
      have HSd := Lib.hid HS7.out.drew
      have c8 := Lib.hid (pick_any (w.heap.size + 1) 206 ((nx m k).length : Nat) _ (by omega) (by omega) (by omega) HSd.out.ok)
      obtain ⟨p0, p1, p2, p3, -⟩ := HS7.out.box.four
      have hx0 := HS7.out.box.lt
      clear hc7
      go_upto_region 7 with (fail)
      go_region_with (go_at_call 78; refine c8.out.mono ?_; rintro e w8 ⟨⟨r, rfl, -, hr⟩, hok8, hg8⟩; have hrl : r < (nx m k).length := (by omega); have hri : (r : Int) < ((nx m k).length : Int) := (by omega); have hrz : (0 : Int) ≤ (r : Int) := (by omega); have hrt : ((r : Nat) : Int).toNat = r := rfl; have g8 : w8.cell? ⟨b7, o7 + r, none⟩ = some (.int .i64 (zAt (ints (nx m k)) r)) := hg8.cell (HC7.out r (by rw [ints_length]; exact hrl)) (fun e => hn7 (by simpa using e)); have HS8 := Lib.hid (HSd.out.step hB5 hok8 hg8); obtain ⟨k0, k1, k2, k3, -⟩ := HS8.out.box.four; obtain ⟨r0, r1, r2, r3, l0, l1, l2, l3⟩ := HS8.out.res.four; have hx1 := HS8.out.res.lt; have hx2 := HS8.out.box.lt; clear hok8 hg8 hr)
      all_goals
        go_wp2
        refine bodyPost_ret (v := .tuple #[.agg #[.int .i64 m.W, .int .i64 m.H, .slice ar m.R.length cr, .slice ac m.C.length cc], .int .i64 k, .int .i64 (zAt (ints (nx m k)) r)]) (by simp [results, Try.results38, go_sem, r0, r1, r2, r3]) rfl ⟨_, k, zAt (ints (nx m k)) r, rfl, ⟨m, ⟨ar, cr, ac, cc, rfl, ?_, ?_, HN.out⟩, hR, hC⟩, ?_⟩
        · have h := HS8.out.r
          refine rebase (b := w.heap.size + 1 + 1) ?_ (by omega)
          iterate 4 (refine ownsRow_setCell_below ?_ (by show w.heap.size < _; omega) _)
          exact h
        · have h := HS8.out.c
          refine rebase (b := w.heap.size + 1 + 1) ?_ (by omega)
          iterate 4 (refine ownsRow_setCell_below ?_ (by show w.heap.size < _; omega) _)
          exact h
        · iterate 4 (refine Below.setCell ?_ (by simp) _)
          exact HS8.out.b

end Go.Proofs.Ytijcdnmcmngheaa.DrwM
