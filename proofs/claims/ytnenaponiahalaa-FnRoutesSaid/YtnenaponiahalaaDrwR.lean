/- A drawn map and two open cells: the contracts. -/
import Derived.Test.YtnenaponiahalaaOpnD
import Derived.Test.YtnenaponiahalaaDSt
import Derived.Deep.RegionHeld3
import Derived.Deep.MidRow
namespace Go.Proofs.Ytnenaponiahalaa.DrwM
open Go.RowKit Lb Cur IntS MapS MapV SpecB CurM CodM
set_option linter.unusedSimpArgs false
set_option linter.unusedVariables false

set_option maxRecDepth 100000 in
set_option maxHeartbeats 4000000 in
theorem least_draw (a : Option Addr) (n cap : Nat) (xs : Nat → Nat) (w : World) (hc : Bytes w a n xs) :
    Calls Try.prog 74 #[.slice a n cap] w (SPost w) := by
  have HB := Lib.hid ((Below.refl w.heap.size w).alloc (Nat.le_refl _) (.cells #[.int .i64 0, .int .i64 0, .slice none 0 0, .slice none 0 0] 26))
  have HQ0 := Lib.hid (Blk.new w 26 #[.int .i64 0, .int .i64 0, .slice none 0 0, .slice none 0 0])
  have c1 := Lib.hid (MapD.map_any _ 0 _ (by omega) (begin_ (hc.below HB.out) cap))
  rw [World.size_alloc] at c1
  clear hc
  go_enter Try.func74, Try.ntmps74
  go_wp2_with fail
  refine c1.out.mono ?_
  rintro e w1 ⟨⟨v, rfl, m, ho, hR, hC⟩, hok1, hg1⟩
  obtain ⟨ar, cr, ac, cc, rfl, h1, h2, hne⟩ := ho
  rw [World.size_alloc, World.size_alloc] at h1 h2
  have hz : w.heap.size + 1 < w1.heap.size := hok1.lt
  obtain ⟨B5, hB5e⟩ : ∃ B, w1.heap.size = B := ⟨_, rfl⟩
  have HS1 := Lib.hid (show DSt w m ar cr ac cc B5 200 (w1.alloc (.cells #[.int .i64 m.W, .int .i64 m.H, .slice ar m.R.length cr, .slice ac m.C.length cc] 26)) from by
    have hA : Below w1.heap.size w1 (w1.alloc (.cells #[.int .i64 m.W, .int .i64 m.H, .slice ar m.R.length cr, .slice ac m.C.length cc] 26)) := (Below.refl _ _).alloc (Nat.le_refl _) _
    have hB1 := below_of_grown (HB.out.alloc (by simp) _) hg1 (by simp; omega) (by simp)
    refine ⟨hB1.alloc hB1.size _, (blk_grown (HQ0.out.alloc _) hg1 (by simp)).alloc _, ?_, World.ownsRow.alloc h1 _, World.ownsRow.alloc h2 _, (hok1.below hA).mono (by omega)⟩
    rw [← hB5e]
    exact Blk.new w1 26 #[.int .i64 m.W, .int .i64 m.H, .slice ar m.R.length cr, .slice ac m.C.length cc])
  have HN := Lib.hid hne
  have hB5 : w.heap.size + 1 < B5 := by omega
  have hRm : m.R.length ≤ maxLen := by unfold maxLen; omega
  have hCm : m.C.length ≤ maxLen := by unfold maxLen; omega
  clear hg1 h1 h2 hne hok1 c1 HB HQ0
  obtain ⟨p0, p1, p2, p3, -⟩ := HS1.out.box.four
  rw [← hB5e] at p0 p1 p2 p3
  have HS2 := Lib.hid HS1.out.drew
  have HNR := Lib.hid (show ∀ x, ar = some x → x.block ≠ w.heap.size + 1 from fun x e => by have := (OwnI.lt HS1.out.r x e).1; omega)
  have HNC := Lib.hid (show ∀ x, ac = some x → x.block ≠ w.heap.size + 1 from fun x e => by have := (OwnI.lt HS1.out.c x e).1; omega)
  go_upto_region 3 with (fail)
  clear hB5e HS1 p0 p1 p2 p3
  obtain ⟨p0, p1, p2, p3, -⟩ := HS2.out.box.four
  refine wp_region_noPanic ?_
  refine wp_region_held_drew (S := (fun Wx : World => Wx.cell? ⟨B5, 0, none⟩ = some (.int .i64 m.W) ∧ Wx.cell? ⟨B5, 1, none⟩ = some (.int .i64 m.H) ∧ Wx.cell? ⟨B5, 2, none⟩ = some (.slice ar m.R.length cr) ∧ Wx.cell? ⟨B5, 3, none⟩ = some (.slice ac m.C.length cc))) (by kernel_rfl) ⟨p0, p1, p2, p3⟩ (fun hHeld => ?_)
  refine wpAnyH_take (i := 0) (oi := _) (v := ?_) rfl (by kernel_rfl) (by kernel_rfl) (by kernel_rfl) (fun _ _ _ h => h) (Or.inl ⟨by rfl, ?_⟩) (by assumption) ?_; rotate_left; focus (intro W hSw; (try dsimp only at hSw); go_simp; (first | done | with_reducible rfl))
  (try simp only [List.getElem_toArray, List.getElem_cons_succ, List.getElem_cons_zero, Act.put, List.setIfInBounds_toArray, List.set_cons_zero, List.set_cons_succ])
  refine wpAnyH_take (i := 1) (oi := _) (v := ?_) rfl (by kernel_rfl) (by kernel_rfl) (by kernel_rfl) (fun _ _ _ h => h) (Or.inl ⟨by rfl, ?_⟩) (by assumption) ?_; rotate_left; focus (intro W hSw; (try dsimp only at hSw); go_simp; (first | done | with_reducible rfl))
  (try simp only [List.getElem_toArray, List.getElem_cons_succ, List.getElem_cons_zero, Act.put, List.setIfInBounds_toArray, List.set_cons_zero, List.set_cons_succ])
  refine wpAnyH_take (i := 2) (oi := _) (v := ?_) rfl (by kernel_rfl) (by kernel_rfl) (by kernel_rfl) (fun _ _ _ h => h) (Or.inl ⟨by rfl, ?_⟩) (by assumption) ?_; rotate_left; focus (intro W hSw; (try dsimp only at hSw); go_simp; (first | done | with_reducible rfl))
  (try simp only [List.getElem_toArray, List.getElem_cons_succ, List.getElem_cons_zero, Act.put, List.setIfInBounds_toArray, List.set_cons_zero, List.set_cons_succ])
  refine wpAnyH_take (i := 4) (oi := _) (v := ?_) rfl (by kernel_rfl) (by kernel_rfl) (by kernel_rfl) (fun _ _ _ h => h) (Or.inl ⟨by rfl, ?_⟩) (by assumption) ?_; rotate_left; focus (intro W hSw; (try dsimp only at hSw); go_simp; (first | done | with_reducible rfl))
  (try simp only [List.getElem_toArray, List.getElem_cons_succ, List.getElem_cons_zero, Act.put, List.setIfInBounds_toArray, List.set_cons_zero, List.set_cons_succ])
  refine wpAnyH_take (i := 5) (oi := _) (v := ?_) rfl (by kernel_rfl) (by kernel_rfl) (by kernel_rfl) (fun _ _ _ h => h) (Or.inl ⟨by rfl, ?_⟩) (by assumption) ?_; rotate_left; focus (intro W hSw; (try dsimp only at hSw); go_simp; (first | done | with_reducible rfl))
  (try simp only [List.getElem_toArray, List.getElem_cons_succ, List.getElem_cons_zero, Act.put, List.setIfInBounds_toArray, List.set_cons_zero, List.set_cons_succ])
  refine wpAnyH_ready (rs := [3]) (by kernel_rfl) (by simp) ?_
  refine AllReadyH.cons (o := _) rfl (fun K hK => ?_) AllReadyH.nil
  go_simp
  go_at_call 127
  refine (open_any (w.heap.size + 1) 200 m ar ac cr cc _ (by omega) hR hC HS2.out.rowR HS2.out.rowC HNR.out HNC.out HS2.out.ok).mono ?_
  rintro e w3 ⟨⟨z1, rfl⟩, hok, hg⟩
  have HS3 := Lib.hid (HS2.out.step hB5 hok hg)
  clear hok hg p0 p1 p2 p3
  obtain ⟨p0, p1, p2, p3, -⟩ := HS3.out.box.four
  go_wp2_with fail
  refine hK.out _ _ ⟨p0, p1, p2, p3⟩ (fun _ => ?_)
  clear hK K hHeld
  refine wpAnyH_ready (rs := [6]) (by kernel_rfl) (by simp) ?_
  refine AllReadyH.cons (o := _) rfl (fun K hK => ?_) AllReadyH.nil
  go_simp
  go_at_call 127
  refine (open_any (w.heap.size + 1) 206 m ar ac cr cc _ (by omega) hR hC HS3.out.rowR HS3.out.rowC HNR.out HNC.out HS3.out.ok).mono ?_
  rintro e w4 ⟨⟨z2, rfl⟩, hok, hg⟩
  have HS4 := Lib.hid (HS3.out.step hB5 hok hg)
  clear hok hg p0 p1 p2 p3
  obtain ⟨p0, p1, p2, p3, -⟩ := HS4.out.box.four
  go_wp2_with fail
  refine hK.out _ _ ⟨p0, p1, p2, p3⟩ (fun _ => ?_)
  clear hK K
  obtain ⟨r0, r1, r2, r3, l0, l1, l2, l3⟩ := HS4.out.res.four
  have hx1 := HS4.out.res.lt
  have hx2 := HS4.out.box.lt
  refine wpAnyH_ready (rs := [7]) (by kernel_rfl) (by simp) ?_
  refine AllReadyH.cons (o := _) rfl (fun K hK => ?_) AllReadyH.nil
  go_simp
  have key : ∀ (W : World) (p : Addr) (u : Value), p.block = w.heap.size → Blk W B5 26 #[.int .i64 m.W, .int .i64 m.H, .slice ar m.R.length cr, .slice ac m.C.length cc] → Blk (W.setCell p u) B5 26 #[.int .i64 m.W, .int .i64 m.H, .slice ar m.R.length cr, .slice ac m.C.length cc] := fun W p u hp h => (Below.heap_setCell W p u B5 (by omega)).trans h
  obtain ⟨q0, q1, q2, q3, -⟩ := (key _ ⟨w.heap.size, 3, none⟩ (.slice ac m.C.length cc) rfl (key _ ⟨w.heap.size, 2, none⟩ (.slice ar m.R.length cr) rfl (key _ ⟨w.heap.size, 1, none⟩ (.int .i64 m.H) rfl (key _ ⟨w.heap.size, 0, none⟩ (.int .i64 m.W) rfl HS4.out.box)))).four
  clear key
  refine hK.out _ _ ⟨q0, q1, q2, q3⟩ (fun _ => ?_)
  clear hK K q0 q1 q2 q3
  refine wpAnyH_take (i := 8) (oi := _) (v := ?_) rfl (by kernel_rfl) (by kernel_rfl) (by kernel_rfl) (fun _ _ _ h => h) (Or.inl ⟨by rfl, ?_⟩) (by assumption) ?_; rotate_left; focus (intro W hSw; (try dsimp only at hSw); go_simp; (first | done | with_reducible rfl))
  (try simp only [List.getElem_toArray, List.getElem_cons_succ, List.getElem_cons_zero, Act.put, List.setIfInBounds_toArray, List.set_cons_zero, List.set_cons_succ])
  refine wpAnyH_take (i := 9) (oi := _) (v := ?_) rfl (by kernel_rfl) (by kernel_rfl) (by kernel_rfl) (fun _ _ _ h => h) (Or.inl ⟨by rfl, ?_⟩) (by assumption) ?_; rotate_left; focus (intro W hSw; (try dsimp only at hSw); go_simp; (first | done | with_reducible rfl))
  (try simp only [List.getElem_toArray, List.getElem_cons_succ, List.getElem_cons_zero, Act.put, List.setIfInBounds_toArray, List.set_cons_zero, List.set_cons_succ])
  refine wpAnyH_done (by kernel_rfl) ?_ _
  refine NoPanic.normal ?_
  (try simp only [List.getElem_toArray, List.getElem_cons_succ, List.getElem_cons_zero, Act.put, List.setIfInBounds_toArray, List.set_cons_zero, List.set_cons_succ])
  go_wp2
  refine bodyPost_ret (v := .tuple #[.agg #[.int .i64 m.W, .int .i64 m.H, .slice ar m.R.length cr, .slice ac m.C.length cc], .int .i64 z1, .int .i64 z2]) (by simp [results, Try.results74, go_sem, r0, r1, r2, r3]) rfl ⟨_, z1, z2, rfl, ⟨m, ⟨ar, cr, ac, cc, rfl, ?_, ?_, HN.out⟩, hR, hC⟩, ?_⟩
  · have h := HS4.out.r
    refine rebase (b := w.heap.size + 1 + 1) ?_ (by omega)
    iterate 4 (refine ownsRow_setCell_below ?_ (by show w.heap.size < _; omega) _)
    exact h
  · have h := HS4.out.c
    refine rebase (b := w.heap.size + 1 + 1) ?_ (by omega)
    iterate 4 (refine ownsRow_setCell_below ?_ (by show w.heap.size < _; omega) _)
    exact h
  · iterate 4 (refine Below.setCell ?_ (by simp) _)
    exact HS4.out.b

/-- The same by its other name. -/
theorem best_draw (a : Option Addr) (n cap : Nat) (xs : Nat → Nat) (w : World) (hc : Bytes w a n xs) :
    Calls Try.prog 15 #[.slice a n cap] w (SPost w) := by
  have HB := Lib.hid ((Below.refl w.heap.size w).alloc (Nat.le_refl _) (.cells #[.int .i64 0, .int .i64 0, .slice none 0 0, .slice none 0 0] 26))
  have HQ0 := Lib.hid (Blk.new w 26 #[.int .i64 0, .int .i64 0, .slice none 0 0, .slice none 0 0])
  have c1 := Lib.hid (least_draw a n cap xs _ (hc.below HB.out))
  clear hc
  go_enter Try.func15, Try.ntmps15
  go_wp2_with fail
  refine c1.out.mono ?_
  rintro e w1 ⟨v, z1, z2, rfl, ⟨m, ⟨ar, cr, ac, cc, rfl, h1, h2, hne⟩, hR, hC⟩, hb⟩
  rw [World.size_alloc] at h1 h2 hb
  have HBx := Lib.hid (HB.out.trans (hb.mono (by omega)))
  have HQ1 := Lib.hid (HQ0.out.later (by rw [World.size_alloc]; exact hb))
  have HR := Lib.hid h1
  have HC := Lib.hid h2
  have HN := Lib.hid hne
  have hRm : m.R.length ≤ maxLen := by unfold maxLen; omega
  have hCm : m.C.length ≤ maxLen := by unfold maxLen; omega
  clear h1 h2 hb hne c1 HB HQ0
  obtain ⟨r0, r1, r2, r3, l0, l1, l2, l3⟩ := HQ1.out.four
  have hx1 := HQ1.out.lt
  go_wp2_with fail
  refine bodyPost_ret (v := .tuple #[.agg #[.int .i64 m.W, .int .i64 m.H, .slice ar m.R.length cr, .slice ac m.C.length cc], .int .i64 z1, .int .i64 z2]) (by simp [results, Try.results15, go_sem, r0, r1, r2, r3]) rfl ⟨_, z1, z2, rfl, ⟨m, ⟨ar, cr, ac, cc, rfl, ?_, ?_, HN.out⟩, hR, hC⟩, ?_⟩
  · have h := HR.out
    refine rebase (b := w.heap.size + 1) ?_ (by omega)
    iterate 4 (refine ownsRow_setCell_below ?_ (by show w.heap.size < _; omega) _)
    exact h
  · have h := HC.out
    refine rebase (b := w.heap.size + 1) ?_ (by omega)
    iterate 4 (refine ownsRow_setCell_below ?_ (by show w.heap.size < _; omega) _)
    exact h
  · iterate 4 (refine Below.setCell ?_ (by simp) _)
    exact HBx.out

end Go.Proofs.Ytnenaponiahalaa.DrwM
