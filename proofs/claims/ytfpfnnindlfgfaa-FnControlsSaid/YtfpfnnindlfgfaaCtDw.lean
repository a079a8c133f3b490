/- Drawn maps with controls, and numbers beside them: the contracts. -/
import Derived.Test.YtfpfnnindlfgfaaCtSi
namespace Go.Proofs.Ytfpfnnindlfgfaa.CtDw
open Go.RowKit Lb Cur IntS MapS SpecB CurM CodM DrwM CtDr CtSi
set_option linter.unusedSimpArgs false
set_option linter.unusedVariables false

def DP0 (w : World) (e : Ending) (w' : World) : Prop := ∃ (v lv : Value) (m : Mp) (fs : List Ct), e = .returned (.tuple #[v, lv]) ∧ OwnM w' w.heap.size v m ∧ CtK.Own w' w.heap.size lv fs ∧ m.R.length ≤ 21 ∧ m.C.length ≤ 21 ∧ fs.length ≤ 11 ∧ Below w.heap.size w w'
def DP1 (P : Int → Prop) (w : World) (e : Ending) (w' : World) : Prop := ∃ (v lv : Value) (m : Mp) (fs : List Ct) (z1 : Int), e = .returned (.tuple #[v, lv, .int .i64 z1]) ∧ P z1 ∧ OwnM w' w.heap.size v m ∧ CtK.Own w' w.heap.size lv fs ∧ m.R.length ≤ 21 ∧ m.C.length ≤ 21 ∧ fs.length ≤ 11 ∧ Below w.heap.size w w'
def DP2 (w : World) (e : Ending) (w' : World) : Prop := ∃ (v lv : Value) (m : Mp) (fs : List Ct) (z1 z2 : Int), e = .returned (.tuple #[v, lv, .int .i64 z1, .int .i64 z2]) ∧ OwnM w' w.heap.size v m ∧ CtK.Own w' w.heap.size lv fs ∧ m.R.length ≤ 21 ∧ m.C.length ≤ 21 ∧ fs.length ≤ 11 ∧ Below w.heap.size w w'
/-- What stands while the numbers are drawn. -/
structure Dw (w : World) (m : Mp) (ar : Option Addr) (cr : Nat) (ac : Option Addr) (cc B mm : Nat) (ad : Option Addr) (cap : Nat) (fs : List Ct) (wx : World) : Prop where
  d : DSt w m ar cr ac cc B mm wx
  L : CtK.Own wx (w.heap.size + 1 + 1) (.slice ad fs.length cap) fs
section
variable {w : World} {m : Mp} {ar ac ad : Option Addr} {cr cc B mm cap : Nat} {fs : List Ct} {wx w' : World}
theorem Dw.drew (h : Dw w m ar cr ac cc B mm ad cap fs wx) : Dw w m ar cr ac cc B mm ad cap fs wx.drew := ⟨h.d.drew, h.L.drew⟩
theorem Dw.alloc (h : Dw w m ar cr ac cc B mm ad cap fs wx) (o : Obj) : Dw w m ar cr ac cc B mm ad cap fs (wx.alloc o) := ⟨h.d.below ((Below.refl _ _).alloc (Nat.le_refl _) _), h.L.below ((Below.refl _ _).alloc (Nat.le_refl _) _)⟩
theorem Dw.step {mm' : Nat} (h : Dw w m ar cr ac cc B mm ad cap fs wx) (hB : w.heap.size + 1 < B) (ho : Ok w' (w.heap.size + 1) mm') (hg : wx.grownBy w' (some (w.heap.size + 1))) : Dw w m ar cr ac cc B mm' ad cap fs w' :=
  ⟨h.d.step hB ho hg, own_kept h.L hg (Nat.lt_succ_self _)⟩
theorem Dw.nL (h : Dw w m ar cr ac cc B mm ad cap fs wx) : ∀ x, ad = some x → x.block ≠ w.heap.size + 1 := fun x e => by have := (CtK.Own.at_lt h.L x e).1; omega
theorem Dw.nR (h : Dw w m ar cr ac cc B mm ad cap fs wx) : ∀ x, ar = some x → x.block ≠ w.heap.size + 1 := fun x e => by have := (OwnI.lt h.d.r x e).1; omega
theorem Dw.nC (h : Dw w m ar cr ac cc B mm ad cap fs wx) : ∀ x, ac = some x → x.block ≠ w.heap.size + 1 := fun x e => by have := (OwnI.lt h.d.c x e).1; omega
end

set_option maxRecDepth 100000 in
set_option maxHeartbeats 4000000 in
theorem drawAreControls (a : Option Addr) (n cap : Nat) (xs : Nat → Nat) (w : World) (hc : Bytes w a n xs) :
    Calls Try.prog 106 #[.slice a n cap] w (DP0 w) := by
  have HB := Lib.hid ((Below.refl w.heap.size w).alloc (Nat.le_refl _) (.cells #[.int .i64 0, .int .i64 0, .slice none 0 0, .slice none 0 0] 26))
  have HQ0 := Lib.hid (Blk.new w 26 #[.int .i64 0, .int .i64 0, .slice none 0 0, .slice none 0 0])
  have c1 := Lib.hid (site_any _ 0 _ (by omega) (begin_ (hc.below HB.out) cap))
  rw [World.size_alloc] at c1
  clear hc
  go_enter Try.func106, Try.ntmps106
  go_wp2_with fail
  refine c1.out.mono ?_
  rintro e w1 ⟨v, lv, m, fs, rfl, ho, hL, hR, hC, hF, hok1, hg1⟩
  obtain ⟨ar, cr, ac, cc, rfl, h1, h2, hne⟩ := ho
  obtain ⟨ad, cpl, rfl, -, -⟩ := hL.slice
  rw [World.size_alloc, World.size_alloc] at h1 h2 hL
  have hz : w.heap.size + 1 < w1.heap.size := hok1.lt
  obtain ⟨B5, hB5e⟩ : ∃ B, w1.heap.size = B := ⟨_, rfl⟩
  have HS2 := Lib.hid (show Dw w m ar cr ac cc B5 400 ad cpl fs (w1.alloc (.cells #[.int .i64 m.W, .int .i64 m.H, .slice ar m.R.length cr, .slice ac m.C.length cc] 26)) from by
    have hA : Below w1.heap.size w1 (w1.alloc (.cells #[.int .i64 m.W, .int .i64 m.H, .slice ar m.R.length cr, .slice ac m.C.length cc] 26)) := (Below.refl _ _).alloc (Nat.le_refl _) _
    have hB1 := below_of_grown (HB.out.alloc (by simp) _) hg1 (by simp; omega) (by simp)
    refine ⟨⟨hB1.alloc hB1.size _, (blk_grown (HQ0.out.alloc _) hg1 (by simp)).alloc _, ?_, World.ownsRow.alloc h1 _, World.ownsRow.alloc h2 _, (hok1.below hA).mono (by omega)⟩, World.ownsRow.alloc hL _⟩
    rw [← hB5e]
    exact Blk.new w1 26 #[.int .i64 m.W, .int .i64 m.H, .slice ar m.R.length cr, .slice ac m.C.length cc])
  have HN := Lib.hid hne
  have hB5 : w.heap.size + 1 < B5 := by omega
  have hRm : m.R.length ≤ maxLen := by unfold maxLen; omega
  have hCm : m.C.length ≤ maxLen := by unfold maxLen; omega
  clear hg1 h1 h2 hL hne hok1 c1 HB HQ0
  obtain ⟨r0, r1, r2, r3, l0, l1, l2, l3⟩ := HS2.out.d.res.four
  have hx1 := HS2.out.d.res.lt
  have hx2 := HS2.out.d.box.lt
  obtain ⟨p0, p1, p2, p3, -⟩ := HS2.out.d.box.four
  rw [← hB5e] at p0 p1 p2 p3
  go_wp2
  refine bodyPost_ret (v := .tuple #[.agg #[.int .i64 m.W, .int .i64 m.H, .slice ar m.R.length cr, .slice ac m.C.length cc], .slice ad fs.length cpl]) (by simp [results, Try.results106, go_sem, r0, r1, r2, r3]) rfl ⟨_, _, m, fs, rfl, ⟨ar, cr, ac, cc, rfl, ?_, ?_, HN.out⟩, ?_, hR, hC, hF, ?_⟩
  · have h := HS2.out.d.r
    refine rebase (b := w.heap.size + 1 + 1) ?_ (by omega)
    iterate 4 (refine ownsRow_setCell_below ?_ (by show w.heap.size < _; omega) _)
    exact h
  · have h := HS2.out.d.c
    refine rebase (b := w.heap.size + 1 + 1) ?_ (by omega)
    iterate 4 (refine ownsRow_setCell_below ?_ (by show w.heap.size < _; omega) _)
    exact h
  · have h := HS2.out.L
    refine rebase (b := w.heap.size + 1 + 1) ?_ (by omega)
    iterate 4 (refine ownsRow_setCell_below ?_ (by show w.heap.size < _; omega) _)
    exact h
  · iterate 4 (refine Below.setCell ?_ (by simp) _)
    exact HS2.out.d.b

set_option maxRecDepth 100000 in
set_option maxHeartbeats 4000000 in
theorem drawCellOfCode (a : Option Addr) (n cap : Nat) (xs : Nat → Nat) (w : World) (hc : Bytes w a n xs) :
    Calls Try.prog 43 #[.slice a n cap] w (DP1 (fun _ => True) w) := by
  have HB := Lib.hid ((Below.refl w.heap.size w).alloc (Nat.le_refl _) (.cells #[.int .i64 0, .int .i64 0, .slice none 0 0, .slice none 0 0] 26))
  have HQ0 := Lib.hid (Blk.new w 26 #[.int .i64 0, .int .i64 0, .slice none 0 0, .slice none 0 0])
  have c1 := Lib.hid (site_any _ 0 _ (by omega) (begin_ (hc.below HB.out) cap))
  rw [World.size_alloc] at c1
  clear hc
  go_enter Try.func43, Try.ntmps43
  go_wp2_with fail
  refine c1.out.mono ?_
  rintro e w1 ⟨v, lv, m, fs, rfl, ho, hL, hR, hC, hF, hok1, hg1⟩
  obtain ⟨ar, cr, ac, cc, rfl, h1, h2, hne⟩ := ho
  obtain ⟨ad, cpl, rfl, -, -⟩ := hL.slice
  rw [World.size_alloc, World.size_alloc] at h1 h2 hL
  have hz : w.heap.size + 1 < w1.heap.size := hok1.lt
  obtain ⟨B5, hB5e⟩ : ∃ B, w1.heap.size = B := ⟨_, rfl⟩
  have HS2 := Lib.hid (show Dw w m ar cr ac cc B5 400 ad cpl fs (w1.alloc (.cells #[.int .i64 m.W, .int .i64 m.H, .slice ar m.R.length cr, .slice ac m.C.length cc] 26)) from by
    have hA : Below w1.heap.size w1 (w1.alloc (.cells #[.int .i64 m.W, .int .i64 m.H, .slice ar m.R.length cr, .slice ac m.C.length cc] 26)) := (Below.refl _ _).alloc (Nat.le_refl _) _
    have hB1 := below_of_grown (HB.out.alloc (by simp) _) hg1 (by simp; omega) (by simp)
    refine ⟨⟨hB1.alloc hB1.size _, (blk_grown (HQ0.out.alloc _) hg1 (by simp)).alloc _, ?_, World.ownsRow.alloc h1 _, World.ownsRow.alloc h2 _, (hok1.below hA).mono (by omega)⟩, World.ownsRow.alloc hL _⟩
    rw [← hB5e]
    exact Blk.new w1 26 #[.int .i64 m.W, .int .i64 m.H, .slice ar m.R.length cr, .slice ac m.C.length cc])
  have HN := Lib.hid hne
  have hB5 : w.heap.size + 1 < B5 := by omega
  have hRm : m.R.length ≤ maxLen := by unfold maxLen; omega
  have hCm : m.C.length ≤ maxLen := by unfold maxLen; omega
  clear hg1 h1 h2 hL hne hok1 c1 HB HQ0
  go_upto_region 3 with (fail)
  replace HS2 := Lib.hid HS2.out.drew
  try rw [hB5e]
  obtain ⟨p0, p1, p2, p3, -⟩ := HS2.out.d.box.four
  refine wp_region_noPanic ?_
  refine wp_region_held_drew (S := (fun Wx : World => Wx.cell? ⟨B5, 0, none⟩ = some (.int .i64 m.W) ∧ Wx.cell? ⟨B5, 1, none⟩ = some (.int .i64 m.H) ∧ Wx.cell? ⟨B5, 2, none⟩ = some (.slice ar m.R.length cr) ∧ Wx.cell? ⟨B5, 3, none⟩ = some (.slice ac m.C.length cc))) (by kernel_rfl) ⟨p0, p1, p2, p3⟩ (fun hHeld => ?_)
  refine wpAnyH_take (i := 0) (oi := _) (v := ?_) rfl (by kernel_rfl) (by kernel_rfl) (by kernel_rfl) (fun _ _ _ h => h) (Or.inl ⟨by rfl, ?_⟩) (by assumption) ?_; rotate_left; focus (intro W hSw; (try dsimp only at hSw); go_simp; (first | done | with_reducible rfl))
  (try simp only [List.getElem_toArray, List.getElem_cons_succ, List.getElem_cons_zero, Act.put, List.setIfInBounds_toArray, List.set_cons_zero, List.set_cons_succ])
  refine wpAnyH_take (i := 1) (oi := _) (v := ?_) rfl (by kernel_rfl) (by kernel_rfl) (by kernel_rfl) (fun _ _ _ h => h) (Or.inl ⟨by rfl, ?_⟩) (by assumption) ?_; rotate_left; focus (intro W hSw; (try dsimp only at hSw); go_simp; (first | done | with_reducible rfl))
  (try simp only [List.getElem_toArray, List.getElem_cons_succ, List.getElem_cons_zero, Act.put, List.setIfInBounds_toArray, List.set_cons_zero, List.set_cons_succ])
  refine wpAnyH_take (i := 2) (oi := _) (v := ?_) rfl (by kernel_rfl) (by kernel_rfl) (by kernel_rfl) (fun _ _ _ h => h) (Or.inl ⟨by rfl, ?_⟩) (by assumption) ?_; rotate_left; focus (intro W hSw; (try dsimp only at hSw); go_simp; (first | done | with_reducible rfl))
  (try simp only [List.getElem_toArray, List.getElem_cons_succ, List.getElem_cons_zero, Act.put, List.setIfInBounds_toArray, List.set_cons_zero, List.set_cons_succ])
  refine wpAnyH_take (i := 3) (oi := _) (v := ?_) rfl (by kernel_rfl) (by kernel_rfl) (by kernel_rfl) (fun _ _ _ h => h) (Or.inl ⟨by rfl, ?_⟩) (by assumption) ?_; rotate_left; focus (intro W hSw; (try dsimp only at hSw); go_simp; (first | done | with_reducible rfl))
  (try simp only [List.getElem_toArray, List.getElem_cons_succ, List.getElem_cons_zero, Act.put, List.setIfInBounds_toArray, List.set_cons_zero, List.set_cons_succ])
  refine wpAnyH_ready (rs := [4]) (by kernel_rfl) (by simp) ?_
  refine AllReadyH.cons (o := _) rfl (fun K hK => ?_) AllReadyH.nil
  go_simp
  go_at_call 93
  refine (codeOf_any (w.heap.size + 1) 400 ad cpl fs _ (by omega) (by omega) (CtK.Own.row HS2.out.L) HS2.out.nL HS2.out.d.ok).mono ?_
  rintro e w3 ⟨⟨z1, rfl⟩, hok, hg⟩
  have HS3 := Lib.hid (HS2.out.step hB5 hok hg)
  clear hok hg HS2
  obtain ⟨p0, p1, p2, p3, -⟩ := HS3.out.d.box.four
  go_wp2_with fail
  refine hK.out _ _ ⟨p0, p1, p2, p3⟩ (fun _ => ?_)
  clear hK K hHeld
  clear p0 p1 p2 p3
  obtain ⟨r0, r1, r2, r3, l0, l1, l2, l3⟩ := HS3.out.d.res.four
  have hx1 := HS3.out.d.res.lt
  have hx2 := HS3.out.d.box.lt
  refine wpAnyH_ready (rs := [5]) (by kernel_rfl) (by simp) ?_
  refine AllReadyH.cons (o := _) rfl (fun K hK => ?_) AllReadyH.nil
  go_simp
  have key : ∀ (W : World) (p : Addr) (u : Value), p.block = w.heap.size → Blk W B5 26 #[.int .i64 m.W, .int .i64 m.H, .slice ar m.R.length cr, .slice ac m.C.length cc] → Blk (W.setCell p u) B5 26 #[.int .i64 m.W, .int .i64 m.H, .slice ar m.R.length cr, .slice ac m.C.length cc] := fun W p u hp h => (Below.heap_setCell W p u B5 (by omega)).trans h
  obtain ⟨q0, q1, q2, q3, -⟩ := (key _ ⟨w.heap.size, 3, none⟩ (.slice ac m.C.length cc) rfl (key _ ⟨w.heap.size, 2, none⟩ (.slice ar m.R.length cr) rfl (key _ ⟨w.heap.size, 1, none⟩ (.int .i64 m.H) rfl (key _ ⟨w.heap.size, 0, none⟩ (.int .i64 m.W) rfl HS3.out.d.box)))).four
  clear key
  refine hK.out _ _ ⟨q0, q1, q2, q3⟩ (fun _ => ?_)
  clear hK K q0 q1 q2 q3
  refine wpAnyH_take (i := 6) (oi := _) (v := ?_) rfl (by kernel_rfl) (by kernel_rfl) (by kernel_rfl) (fun _ _ _ h => h) (Or.inl ⟨by rfl, ?_⟩) (by assumption) ?_; rotate_left; focus (intro W hSw; (try dsimp only at hSw); go_simp; (first | done | with_reducible rfl))
  (try simp only [List.getElem_toArray, List.getElem_cons_succ, List.getElem_cons_zero, Act.put, List.setIfInBounds_toArray, List.set_cons_zero, List.set_cons_succ])
  refine wpAnyH_take (i := 7) (oi := _) (v := ?_) rfl (by kernel_rfl) (by kernel_rfl) (by kernel_rfl) (fun _ _ _ h => h) (Or.inl ⟨by rfl, ?_⟩) (by assumption) ?_; rotate_left; focus (intro W hSw; (try dsimp only at hSw); go_simp; (first | done | with_reducible rfl))
  (try simp only [List.getElem_toArray, List.getElem_cons_succ, List.getElem_cons_zero, Act.put, List.setIfInBounds_toArray, List.set_cons_zero, List.set_cons_succ])
  refine wpAnyH_done (by kernel_rfl) ?_ _
  refine NoPanic.normal ?_
  (try simp only [List.getElem_toArray, List.getElem_cons_succ, List.getElem_cons_zero, Act.put, List.setIfInBounds_toArray, List.set_cons_zero, List.set_cons_succ])
  go_wp2
  refine bodyPost_ret (v := .tuple #[.agg #[.int .i64 m.W, .int .i64 m.H, .slice ar m.R.length cr, .slice ac m.C.length cc], .slice ad fs.length cpl, .int .i64 z1]) (by simp [results, Try.results43, go_sem, r0, r1, r2, r3]) rfl ⟨_, _, m, fs, z1, rfl, trivial, ⟨ar, cr, ac, cc, rfl, ?_, ?_, HN.out⟩, ?_, hR, hC, hF, ?_⟩
  · have h := HS3.out.d.r
    refine rebase (b := w.heap.size + 1 + 1) ?_ (by omega)
    iterate 4 (refine ownsRow_setCell_below ?_ (by show w.heap.size < _; omega) _)
    exact h
  · have h := HS3.out.d.c
    refine rebase (b := w.heap.size + 1 + 1) ?_ (by omega)
    iterate 4 (refine ownsRow_setCell_below ?_ (by show w.heap.size < _; omega) _)
    exact h
  · have h := HS3.out.L
    refine rebase (b := w.heap.size + 1 + 1) ?_ (by omega)
    iterate 4 (refine ownsRow_setCell_below ?_ (by show w.heap.size < _; omega) _)
    exact h
  · iterate 4 (refine Below.setCell ?_ (by simp) _)
    exact HS3.out.d.b

set_option maxRecDepth 100000 in
set_option maxHeartbeats 4000000 in
theorem drawNearestControl (a : Option Addr) (n cap : Nat) (xs : Nat → Nat) (w : World) (hc : Bytes w a n xs) :
    Calls Try.prog 56 #[.slice a n cap] w (DP1 (fun _ => True) w) := by
  have HB := Lib.hid ((Below.refl w.heap.size w).alloc (Nat.le_refl _) (.cells #[.int .i64 0, .int .i64 0, .slice none 0 0, .slice none 0 0] 26))
  have HQ0 := Lib.hid (Blk.new w 26 #[.int .i64 0, .int .i64 0, .slice none 0 0, .slice none 0 0])
  have c1 := Lib.hid (site_any _ 0 _ (by omega) (begin_ (hc.below HB.out) cap))
  rw [World.size_alloc] at c1
  clear hc
  go_enter Try.func56, Try.ntmps56
  go_wp2_with fail
  refine c1.out.mono ?_
  rintro e w1 ⟨v, lv, m, fs, rfl, ho, hL, hR, hC, hF, hok1, hg1⟩
  obtain ⟨ar, cr, ac, cc, rfl, h1, h2, hne⟩ := ho
  obtain ⟨ad, cpl, rfl, -, -⟩ := hL.slice
  rw [World.size_alloc, World.size_alloc] at h1 h2 hL
  have hz : w.heap.size + 1 < w1.heap.size := hok1.lt
  obtain ⟨B5, hB5e⟩ : ∃ B, w1.heap.size = B := ⟨_, rfl⟩
  have HS2 := Lib.hid (show Dw w m ar cr ac cc B5 400 ad cpl fs (w1.alloc (.cells #[.int .i64 m.W, .int .i64 m.H, .slice ar m.R.length cr, .slice ac m.C.length cc] 26)) from by
    have hA : Below w1.heap.size w1 (w1.alloc (.cells #[.int .i64 m.W, .int .i64 m.H, .slice ar m.R.length cr, .slice ac m.C.length cc] 26)) := (Below.refl _ _).alloc (Nat.le_refl _) _
    have hB1 := below_of_grown (HB.out.alloc (by simp) _) hg1 (by simp; omega) (by simp)
    refine ⟨⟨hB1.alloc hB1.size _, (blk_grown (HQ0.out.alloc _) hg1 (by simp)).alloc _, ?_, World.ownsRow.alloc h1 _, World.ownsRow.alloc h2 _, (hok1.below hA).mono (by omega)⟩, World.ownsRow.alloc hL _⟩
    rw [← hB5e]
    exact Blk.new w1 26 #[.int .i64 m.W, .int .i64 m.H, .slice ar m.R.length cr, .slice ac m.C.length cc])
  have HN := Lib.hid hne
  have hB5 : w.heap.size + 1 < B5 := by omega
  have hRm : m.R.length ≤ maxLen := by unfold maxLen; omega
  have hCm : m.C.length ≤ maxLen := by unfold maxLen; omega
  clear hg1 h1 h2 hL hne hok1 c1 HB HQ0
  go_upto_region 3 with (fail)
  replace HS2 := Lib.hid HS2.out.drew
  try rw [hB5e]
  obtain ⟨p0, p1, p2, p3, -⟩ := HS2.out.d.box.four
  refine wp_region_noPanic ?_
  refine wp_region_held_drew (S := (fun Wx : World => Wx.cell? ⟨B5, 0, none⟩ = some (.int .i64 m.W) ∧ Wx.cell? ⟨B5, 1, none⟩ = some (.int .i64 m.H) ∧ Wx.cell? ⟨B5, 2, none⟩ = some (.slice ar m.R.length cr) ∧ Wx.cell? ⟨B5, 3, none⟩ = some (.slice ac m.C.length cc))) (by kernel_rfl) ⟨p0, p1, p2, p3⟩ (fun hHeld => ?_)
  refine wpAnyH_take (i := 0) (oi := _) (v := ?_) rfl (by kernel_rfl) (by kernel_rfl) (by kernel_rfl) (fun _ _ _ h => h) (Or.inl ⟨by rfl, ?_⟩) (by assumption) ?_; rotate_left; focus (intro W hSw; (try dsimp only at hSw); go_simp; (first | done | with_reducible rfl))
  (try simp only [List.getElem_toArray, List.getElem_cons_succ, List.getElem_cons_zero, Act.put, List.setIfInBounds_toArray, List.set_cons_zero, List.set_cons_succ])
  refine wpAnyH_take (i := 1) (oi := _) (v := ?_) rfl (by kernel_rfl) (by kernel_rfl) (by kernel_rfl) (fun _ _ _ h => h) (Or.inl ⟨by rfl, ?_⟩) (by assumption) ?_; rotate_left; focus (intro W hSw; (try dsimp only at hSw); go_simp; (first | done | with_reducible rfl))
  (try simp only [List.getElem_toArray, List.getElem_cons_succ, List.getElem_cons_zero, Act.put, List.setIfInBounds_toArray, List.set_cons_zero, List.set_cons_succ])
  refine wpAnyH_take (i := 2) (oi := _) (v := ?_) rfl (by kernel_rfl) (by kernel_rfl) (by kernel_rfl) (fun _ _ _ h => h) (Or.inl ⟨by rfl, ?_⟩) (by assumption) ?_; rotate_left; focus (intro W hSw; (try dsimp only at hSw); go_simp; (first | done | with_reducible rfl))
  (try simp only [List.getElem_toArray, List.getElem_cons_succ, List.getElem_cons_zero, Act.put, List.setIfInBounds_toArray, List.set_cons_zero, List.set_cons_succ])
  refine wpAnyH_take (i := 3) (oi := _) (v := ?_) rfl (by kernel_rfl) (by kernel_rfl) (by kernel_rfl) (fun _ _ _ h => h) (Or.inl ⟨by rfl, ?_⟩) (by assumption) ?_; rotate_left; focus (intro W hSw; (try dsimp only at hSw); go_simp; (first | done | with_reducible rfl))
  (try simp only [List.getElem_toArray, List.getElem_cons_succ, List.getElem_cons_zero, Act.put, List.setIfInBounds_toArray, List.set_cons_zero, List.set_cons_succ])
  refine wpAnyH_ready (rs := [4]) (by kernel_rfl) (by simp) ?_
  refine AllReadyH.cons (o := _) rfl (fun K hK => ?_) AllReadyH.nil
  go_simp
  go_at_call 104
  refine (cell_any (w.heap.size + 1) 400 m ar ac cr cc _ (by omega) hC HS2.out.d.ok).mono ?_
  rintro e w3 ⟨⟨z1, rfl⟩, hok, hg⟩
  have HS3 := Lib.hid (HS2.out.step hB5 hok hg)
  clear hok hg HS2
  obtain ⟨p0, p1, p2, p3, -⟩ := HS3.out.d.box.four
  go_wp2_with fail
  refine hK.out _ _ ⟨p0, p1, p2, p3⟩ (fun _ => ?_)
  clear hK K hHeld
  clear p0 p1 p2 p3
  obtain ⟨r0, r1, r2, r3, l0, l1, l2, l3⟩ := HS3.out.d.res.four
  have hx1 := HS3.out.d.res.lt
  have hx2 := HS3.out.d.box.lt
  refine wpAnyH_ready (rs := [5]) (by kernel_rfl) (by simp) ?_
  refine AllReadyH.cons (o := _) rfl (fun K hK => ?_) AllReadyH.nil
  go_simp
  have key : ∀ (W : World) (p : Addr) (u : Value), p.block = w.heap.size → Blk W B5 26 #[.int .i64 m.W, .int .i64 m.H, .slice ar m.R.length cr, .slice ac m.C.length cc] → Blk (W.setCell p u) B5 26 #[.int .i64 m.W, .int .i64 m.H, .slice ar m.R.length cr, .slice ac m.C.length cc] := fun W p u hp h => (Below.heap_setCell W p u B5 (by omega)).trans h
  obtain ⟨q0, q1, q2, q3, -⟩ := (key _ ⟨w.heap.size, 3, none⟩ (.slice ac m.C.length cc) rfl (key _ ⟨w.heap.size, 2, none⟩ (.slice ar m.R.length cr) rfl (key _ ⟨w.heap.size, 1, none⟩ (.int .i64 m.H) rfl (key _ ⟨w.heap.size, 0, none⟩ (.int .i64 m.W) rfl HS3.out.d.box)))).four
  clear key
  refine hK.out _ _ ⟨q0, q1, q2, q3⟩ (fun _ => ?_)
  clear hK K q0 q1 q2 q3
  refine wpAnyH_take (i := 6) (oi := _) (v := ?_) rfl (by kernel_rfl) (by kernel_rfl) (by kernel_rfl) (fun _ _ _ h => h) (Or.inl ⟨by rfl, ?_⟩) (by assumption) ?_; rotate_left; focus (intro W hSw; (try dsimp only at hSw); go_simp; (first | done | with_reducible rfl))
  (try simp only [List.getElem_toArray, List.getElem_cons_succ, List.getElem_cons_zero, Act.put, List.setIfInBounds_toArray, List.set_cons_zero, List.set_cons_succ])
  refine wpAnyH_take (i := 7) (oi := _) (v := ?_) rfl (by kernel_rfl) (by kernel_rfl) (by kernel_rfl) (fun _ _ _ h => h) (Or.inl ⟨by rfl, ?_⟩) (by assumption) ?_; rotate_left; focus (intro W hSw; (try dsimp only at hSw); go_simp; (first | done | with_reducible rfl))
  (try simp only [List.getElem_toArray, List.getElem_cons_succ, List.getElem_cons_zero, Act.put, List.setIfInBounds_toArray, List.set_cons_zero, List.set_cons_succ])
  refine wpAnyH_done (by kernel_rfl) ?_ _
  refine NoPanic.normal ?_
  (try simp only [List.getElem_toArray, List.getElem_cons_succ, List.getElem_cons_zero, Act.put, List.setIfInBounds_toArray, List.set_cons_zero, List.set_cons_succ])
  go_wp2
  refine bodyPost_ret (v := .tuple #[.agg #[.int .i64 m.W, .int .i64 m.H, .slice ar m.R.length cr, .slice ac m.C.length cc], .slice ad fs.length cpl, .int .i64 z1]) (by simp [results, Try.results56, go_sem, r0, r1, r2, r3]) rfl ⟨_, _, m, fs, z1, rfl, trivial, ⟨ar, cr, ac, cc, rfl, ?_, ?_, HN.out⟩, ?_, hR, hC, hF, ?_⟩
  · have h := HS3.out.d.r
    refine rebase (b := w.heap.size + 1 + 1) ?_ (by omega)
    iterate 4 (refine ownsRow_setCell_below ?_ (by show w.heap.size < _; omega) _)
    exact h
  · have h := HS3.out.d.c
    refine rebase (b := w.heap.size + 1 + 1) ?_ (by omega)
    iterate 4 (refine ownsRow_setCell_below ?_ (by show w.heap.size < _; omega) _)
    exact h
  · have h := HS3.out.L
    refine rebase (b := w.heap.size + 1 + 1) ?_ (by omega)
    iterate 4 (refine ownsRow_setCell_below ?_ (by show w.heap.size < _; omega) _)
    exact h
  · iterate 4 (refine Below.setCell ?_ (by simp) _)
    exact HS3.out.d.b

set_option maxRecDepth 100000 in
set_option maxHeartbeats 4000000 in
theorem drawMoveControl (a : Option Addr) (n cap : Nat) (xs : Nat → Nat) (w : World) (hc : Bytes w a n xs) :
    Calls Try.prog 32 #[.slice a n cap] w (DP2 w) := by
  have HB := Lib.hid ((Below.refl w.heap.size w).alloc (Nat.le_refl _) (.cells #[.int .i64 0, .int .i64 0, .slice none 0 0, .slice none 0 0] 26))
  have HQ0 := Lib.hid (Blk.new w 26 #[.int .i64 0, .int .i64 0, .slice none 0 0, .slice none 0 0])
  have c1 := Lib.hid (site_any _ 0 _ (by omega) (begin_ (hc.below HB.out) cap))
  rw [World.size_alloc] at c1
  clear hc
  go_enter Try.func32, Try.ntmps32
  go_wp2_with fail
  refine c1.out.mono ?_
  rintro e w1 ⟨v, lv, m, fs, rfl, ho, hL, hR, hC, hF, hok1, hg1⟩
  obtain ⟨ar, cr, ac, cc, rfl, h1, h2, hne⟩ := ho
  obtain ⟨ad, cpl, rfl, -, -⟩ := hL.slice
  rw [World.size_alloc, World.size_alloc] at h1 h2 hL
  have hz : w.heap.size + 1 < w1.heap.size := hok1.lt
  obtain ⟨B5, hB5e⟩ : ∃ B, w1.heap.size = B := ⟨_, rfl⟩
  have HS2 := Lib.hid (show Dw w m ar cr ac cc B5 400 ad cpl fs (w1.alloc (.cells #[.int .i64 m.W, .int .i64 m.H, .slice ar m.R.length cr, .slice ac m.C.length cc] 26)) from by
    have hA : Below w1.heap.size w1 (w1.alloc (.cells #[.int .i64 m.W, .int .i64 m.H, .slice ar m.R.length cr, .slice ac m.C.length cc] 26)) := (Below.refl _ _).alloc (Nat.le_refl _) _
    have hB1 := below_of_grown (HB.out.alloc (by simp) _) hg1 (by simp; omega) (by simp)
    refine ⟨⟨hB1.alloc hB1.size _, (blk_grown (HQ0.out.alloc _) hg1 (by simp)).alloc _, ?_, World.ownsRow.alloc h1 _, World.ownsRow.alloc h2 _, (hok1.below hA).mono (by omega)⟩, World.ownsRow.alloc hL _⟩
    rw [← hB5e]
    exact Blk.new w1 26 #[.int .i64 m.W, .int .i64 m.H, .slice ar m.R.length cr, .slice ac m.C.length cc])
  have HN := Lib.hid hne
  have hB5 : w.heap.size + 1 < B5 := by omega
  have hRm : m.R.length ≤ maxLen := by unfold maxLen; omega
  have hCm : m.C.length ≤ maxLen := by unfold maxLen; omega
  clear hg1 h1 h2 hL hne hok1 c1 HB HQ0
  go_upto_region 3 with (fail)
  replace HS2 := Lib.hid HS2.out.drew
  try rw [hB5e]
  obtain ⟨p0, p1, p2, p3, -⟩ := HS2.out.d.box.four
  refine wp_region_noPanic ?_
  refine wp_region_held_drew (S := (fun Wx : World => Wx.cell? ⟨B5, 0, none⟩ = some (.int .i64 m.W) ∧ Wx.cell? ⟨B5, 1, none⟩ = some (.int .i64 m.H) ∧ Wx.cell? ⟨B5, 2, none⟩ = some (.slice ar m.R.length cr) ∧ Wx.cell? ⟨B5, 3, none⟩ = some (.slice ac m.C.length cc))) (by kernel_rfl) ⟨p0, p1, p2, p3⟩ (fun hHeld => ?_)
  refine wpAnyH_take (i := 0) (oi := _) (v := ?_) rfl (by kernel_rfl) (by kernel_rfl) (by kernel_rfl) (fun _ _ _ h => h) (Or.inl ⟨by rfl, ?_⟩) (by assumption) ?_; rotate_left; focus (intro W hSw; (try dsimp only at hSw); go_simp; (first | done | with_reducible rfl))
  (try simp only [List.getElem_toArray, List.getElem_cons_succ, List.getElem_cons_zero, Act.put, List.setIfInBounds_toArray, List.set_cons_zero, List.set_cons_succ])
  refine wpAnyH_take (i := 1) (oi := _) (v := ?_) rfl (by kernel_rfl) (by kernel_rfl) (by kernel_rfl) (fun _ _ _ h => h) (Or.inl ⟨by rfl, ?_⟩) (by assumption) ?_; rotate_left; focus (intro W hSw; (try dsimp only at hSw); go_simp; (first | done | with_reducible rfl))
  (try simp only [List.getElem_toArray, List.getElem_cons_succ, List.getElem_cons_zero, Act.put, List.setIfInBounds_toArray, List.set_cons_zero, List.set_cons_succ])
  refine wpAnyH_take (i := 2) (oi := _) (v := ?_) rfl (by kernel_rfl) (by kernel_rfl) (by kernel_rfl) (fun _ _ _ h => h) (Or.inl ⟨by rfl, ?_⟩) (by assumption) ?_; rotate_left; focus (intro W hSw; (try dsimp only at hSw); go_simp; (first | done | with_reducible rfl))
  (try simp only [List.getElem_toArray, List.getElem_cons_succ, List.getElem_cons_zero, Act.put, List.setIfInBounds_toArray, List.set_cons_zero, List.set_cons_succ])
  refine wpAnyH_take (i := 3) (oi := _) (v := ?_) rfl (by kernel_rfl) (by kernel_rfl) (by kernel_rfl) (fun _ _ _ h => h) (Or.inl ⟨by rfl, ?_⟩) (by assumption) ?_; rotate_left; focus (intro W hSw; (try dsimp only at hSw); go_simp; (first | done | with_reducible rfl))
  (try simp only [List.getElem_toArray, List.getElem_cons_succ, List.getElem_cons_zero, Act.put, List.setIfInBounds_toArray, List.set_cons_zero, List.set_cons_succ])
  refine wpAnyH_take (i := 5) (oi := _) (v := ?_) rfl (by kernel_rfl) (by kernel_rfl) (by kernel_rfl) (fun _ _ _ h => h) (Or.inl ⟨by rfl, ?_⟩) (by assumption) ?_; rotate_left; focus (intro W hSw; (try dsimp only at hSw); go_simp; (first | done | with_reducible rfl))
  (try simp only [List.getElem_toArray, List.getElem_cons_succ, List.getElem_cons_zero, Act.put, List.setIfInBounds_toArray, List.set_cons_zero, List.set_cons_succ])
  refine wpAnyH_take (i := 6) (oi := _) (v := ?_) rfl (by kernel_rfl) (by kernel_rfl) (by kernel_rfl) (fun _ _ _ h => h) (Or.inl ⟨by rfl, ?_⟩) (by assumption) ?_; rotate_left; focus (intro W hSw; (try dsimp only at hSw); go_simp; (first | done | with_reducible rfl))
  (try simp only [List.getElem_toArray, List.getElem_cons_succ, List.getElem_cons_zero, Act.put, List.setIfInBounds_toArray, List.set_cons_zero, List.set_cons_succ])
  refine wpAnyH_ready (rs := [4]) (by kernel_rfl) (by simp) ?_
  refine AllReadyH.cons (o := _) rfl (fun K hK => ?_) AllReadyH.nil
  go_simp
  go_at_call 93
  refine (codeOf_any (w.heap.size + 1) 400 ad cpl fs _ (by omega) (by omega) (CtK.Own.row HS2.out.L) HS2.out.nL HS2.out.d.ok).mono ?_
  rintro e w3 ⟨⟨z1, rfl⟩, hok, hg⟩
  have HS3 := Lib.hid (HS2.out.step hB5 hok hg)
  clear hok hg HS2
  obtain ⟨p0, p1, p2, p3, -⟩ := HS3.out.d.box.four
  go_wp2_with fail
  refine hK.out _ _ ⟨p0, p1, p2, p3⟩ (fun _ => ?_)
  clear hK K hHeld
  clear p0 p1 p2 p3
  refine wpAnyH_ready (rs := [7]) (by kernel_rfl) (by simp) ?_
  refine AllReadyH.cons (o := _) rfl (fun K hK => ?_) AllReadyH.nil
  go_simp
  go_at_call 94
  refine (open_any (w.heap.size + 1) 406 m ar ac cr cc _ (by omega) hR hC HS3.out.d.rowR HS3.out.d.rowC HS3.out.nR HS3.out.nC HS3.out.d.ok).mono ?_
  rintro e w4 ⟨⟨z2, rfl⟩, hok, hg⟩
  have HS4 := Lib.hid (HS3.out.step hB5 hok hg)
  clear hok hg HS3
  obtain ⟨p0, p1, p2, p3, -⟩ := HS4.out.d.box.four
  go_wp2_with fail
  refine hK.out _ _ ⟨p0, p1, p2, p3⟩ (fun _ => ?_)
  clear hK K
  clear p0 p1 p2 p3
  obtain ⟨r0, r1, r2, r3, l0, l1, l2, l3⟩ := HS4.out.d.res.four
  have hx1 := HS4.out.d.res.lt
  have hx2 := HS4.out.d.box.lt
  refine wpAnyH_ready (rs := [8]) (by kernel_rfl) (by simp) ?_
  refine AllReadyH.cons (o := _) rfl (fun K hK => ?_) AllReadyH.nil
  go_simp
  have key : ∀ (W : World) (p : Addr) (u : Value), p.block = w.heap.size → Blk W B5 26 #[.int .i64 m.W, .int .i64 m.H, .slice ar m.R.length cr, .slice ac m.C.length cc] → Blk (W.setCell p u) B5 26 #[.int .i64 m.W, .int .i64 m.H, .slice ar m.R.length cr, .slice ac m.C.length cc] := fun W p u hp h => (Below.heap_setCell W p u B5 (by omega)).trans h
  obtain ⟨q0, q1, q2, q3, -⟩ := (key _ ⟨w.heap.size, 3, none⟩ (.slice ac m.C.length cc) rfl (key _ ⟨w.heap.size, 2, none⟩ (.slice ar m.R.length cr) rfl (key _ ⟨w.heap.size, 1, none⟩ (.int .i64 m.H) rfl (key _ ⟨w.heap.size, 0, none⟩ (.int .i64 m.W) rfl HS4.out.d.box)))).four
  clear key
  refine hK.out _ _ ⟨q0, q1, q2, q3⟩ (fun _ => ?_)
  clear hK K q0 q1 q2 q3
  refine wpAnyH_take (i := 9) (oi := _) (v := ?_) rfl (by kernel_rfl) (by kernel_rfl) (by kernel_rfl) (fun _ _ _ h => h) (Or.inl ⟨by rfl, ?_⟩) (by assumption) ?_; rotate_left; focus (intro W hSw; (try dsimp only at hSw); go_simp; (first | done | with_reducible rfl))
  (try simp only [List.getElem_toArray, List.getElem_cons_succ, List.getElem_cons_zero, Act.put, List.setIfInBounds_toArray, List.set_cons_zero, List.set_cons_succ])
  refine wpAnyH_take (i := 10) (oi := _) (v := ?_) rfl (by kernel_rfl) (by kernel_rfl) (by kernel_rfl) (fun _ _ _ h => h) (Or.inl ⟨by rfl, ?_⟩) (by assumption) ?_; rotate_left; focus (intro W hSw; (try dsimp only at hSw); go_simp; (first | done | with_reducible rfl))
  (try simp only [List.getElem_toArray, List.getElem_cons_succ, List.getElem_cons_zero, Act.put, List.setIfInBounds_toArray, List.set_cons_zero, List.set_cons_succ])
  refine wpAnyH_take (i := 11) (oi := _) (v := ?_) rfl (by kernel_rfl) (by kernel_rfl) (by kernel_rfl) (fun _ _ _ h => h) (Or.inl ⟨by rfl, ?_⟩) (by assumption) ?_; rotate_left; focus (intro W hSw; (try dsimp only at hSw); go_simp; (first | done | with_reducible rfl))
  (try simp only [List.getElem_toArray, List.getElem_cons_succ, List.getElem_cons_zero, Act.put, List.setIfInBounds_toArray, List.set_cons_zero, List.set_cons_succ])
  refine wpAnyH_done (by kernel_rfl) ?_ _
  refine NoPanic.normal ?_
  (try simp only [List.getElem_toArray, List.getElem_cons_succ, List.getElem_cons_zero, Act.put, List.setIfInBounds_toArray, List.set_cons_zero, List.set_cons_succ])
  go_wp2
  refine bodyPost_ret (v := .tuple #[.agg #[.int .i64 m.W, .int .i64 m.H, .slice ar m.R.length cr, .slice ac m.C.length cc], .slice ad fs.length cpl, .int .i64 z1, .int .i64 z2]) (by simp [results, Try.results32, go_sem, r0, r1, r2, r3]) rfl ⟨_, _, m, fs, z1, z2, rfl, ⟨ar, cr, ac, cc, rfl, ?_, ?_, HN.out⟩, ?_, hR, hC, hF, ?_⟩
  · have h := HS4.out.d.r
    refine rebase (b := w.heap.size + 1 + 1) ?_ (by omega)
    iterate 4 (refine ownsRow_setCell_below ?_ (by show w.heap.size < _; omega) _)
    exact h
  · have h := HS4.out.d.c
    refine rebase (b := w.heap.size + 1 + 1) ?_ (by omega)
    iterate 4 (refine ownsRow_setCell_below ?_ (by show w.heap.size < _; omega) _)
    exact h
  · have h := HS4.out.L
    refine rebase (b := w.heap.size + 1 + 1) ?_ (by omega)
    iterate 4 (refine ownsRow_setCell_below ?_ (by show w.heap.size < _; omega) _)
    exact h
  · iterate 4 (refine Below.setCell ?_ (by simp) _)
    exact HS4.out.d.b

end Go.Proofs.Ytfpfnnindlfgfaa.CtDw
