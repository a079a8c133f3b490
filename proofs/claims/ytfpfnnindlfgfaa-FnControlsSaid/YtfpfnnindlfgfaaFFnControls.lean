/- 'FnControls': the statement's frame: the walk is in CoW.law_any; here the given row is met by it. -/
import Derived.Test.YtfpfnnindlfgfaaCtDw
import Derived.Test.YtfpfnnindlfgfaaCtM
import Derived.Test.YtfpfnnindlfgfaaPrM
import Derived.Deep.RegionWith
import Derived.Laws.StructEq
import Derived.Test.YtfpfnnindlfgfaaCoV
import Derived.Test.YtfpfnnindlfgfaaCoR
import Derived.Test.YtfpfnnindlfgfaaCoS
import Derived.Test.YtfpfnnindlfgfaaRows
import Derived.WalkKit
import Derived.ProofKit
import Derived.OpenShut
import Derived.ShutString
import Derived.ChangeOld
import Derived.Below
import Derived.Test.YtfpfnnindlfgfaaCodM
namespace Go.Proofs.Ytfpfnnindlfgfaa.CtDx
open Go.RowKit Lb Cur IntS MapS SpecB CurM CodM DrwM CtDr CtSi CtDw
set_option linter.unusedSimpArgs false
set_option linter.unusedVariables false

theorem _root_.Go.Proofs.Ytfpfnnindlfgfaa.CtDw.Dw.below {w : World} {m : Mp} {ar ac ad : Option Addr} {cr cc B mm cap : Nat} {fs : List Ct} {wx w' : World} (h : Dw w m ar cr ac cc B mm ad cap fs wx) (hb : Below wx.heap.size wx w') : Dw w m ar cr ac cc B mm ad cap fs w' := ⟨h.d.below hb, h.L.below hb⟩

set_option maxRecDepth 100000 in
set_option maxHeartbeats 4000000 in
theorem drawCloseControls (a : Option Addr) (n cap : Nat) (xs : Nat → Nat) (w : World) (hc : Bytes w a n xs) :
    Calls Try.prog 53 #[.slice a n cap] w (DP1 (fun z => -1 ≤ z ∧ z ≤ 5) w) := by
  have HB := Lib.hid ((Below.refl w.heap.size w).alloc (Nat.le_refl _) (.cells #[.int .i64 0, .int .i64 0, .slice none 0 0, .slice none 0 0] 26))
  have HQ0 := Lib.hid (Blk.new w 26 #[.int .i64 0, .int .i64 0, .slice none 0 0, .slice none 0 0])
  have c1 := Lib.hid (site_any _ 0 _ (by omega) (begin_ (hc.below HB.out) cap))
  rw [World.size_alloc] at c1
  clear hc
  go_enter Try.func53, Try.ntmps53
  go_wp2_with fail
  refine c1.out.mono ?_
  rintro e w1 ⟨v, lv, m, fs, rfl, ho, hL, hR, hC, hF, hok1, hg1⟩
  obtain ⟨ar, cr, ac, cc, rfl, h1, h2, hne⟩ := ho
  obtain ⟨ad, cpl, rfl, -, -⟩ := hL.slice
  rw [World.size_alloc, World.size_alloc] at h1 h2 hL
  have hz : w.heap.size + 1 < w1.heap.size := hok1.lt
  obtain ⟨B5, hB5e⟩ : ∃ B, w1.heap.size = B := ⟨_, rfl⟩
  have HS2 := Lib.hid (show Dw w m ar cr ac cc B5 400 ad cpl fs (w1.alloc (.cells #[.int .i64 m.W, .int .i64 m.H, .slice ar m.R.length cr, .slice ac m.C.length cc] 26)) from by
    have hA : Below w1.heap.size w1 (w1.alloc (.cells #[.int .i64 m.W, .int .i64 m.H, .slice ar m.R.length cr, .slice ac m.C.length cc] 26)) := (Below.refl _ _).alloc (Nat.le_refl _) _
    have hB1 := below_of_grown (HB.out.alloc (by simp) _) hg1 (by simp; omega) (by simp)
    refine ⟨⟨hB1.alloc hB1.size _, (blk_grown (HQ0.out.alloc _) hg1 (by simp)).alloc _, ?_, World.ownsRow.alloc h1 _, World.ownsRow.alloc h2 _, (hok1.below hA).mono (by omega)⟩, World.ownsRow.alloc hL _⟩
    rw [← hB5e]
    exact Blk.new w1 26 #[.int .i64 m.W, .int .i64 m.H, .slice ar m.R.length cr, .slice ac m.C.length cc])
  have HN := Lib.hid hne
  have hB5 : w.heap.size + 1 < B5 := by omega
  have hRm : m.R.length ≤ maxLen := by unfold maxLen; omega
  have hCm : m.C.length ≤ maxLen := by unfold maxLen; omega
  clear hg1 h1 h2 hL hne hok1 c1 HB HQ0
  go_upto_region 3 with (fail)
  try rw [hB5e]
  obtain ⟨p0, p1, p2, p3, -⟩ := HS2.out.d.box.four
  refine wp_region_noPanic ?_
  refine wp_region_held_drew (S := (fun Wx : World => Wx.cell? ⟨B5, 0, none⟩ = some (.int .i64 m.W) ∧ Wx.cell? ⟨B5, 1, none⟩ = some (.int .i64 m.H) ∧ Wx.cell? ⟨B5, 2, none⟩ = some (.slice ar m.R.length cr) ∧ Wx.cell? ⟨B5, 3, none⟩ = some (.slice ac m.C.length cc))) (by kernel_rfl) ⟨p0, p1, p2, p3⟩ (fun hHeld => ?_)
  refine wpAnyH_take (i := 0) (oi := _) (v := ?_) rfl (by kernel_rfl) (by kernel_rfl) (by kernel_rfl) (fun _ _ _ h => h) (Or.inl ⟨by rfl, ?_⟩) (by assumption) ?_; rotate_left; focus (intro W hSw; (try dsimp only at hSw); go_simp; (first | done | with_reducible rfl))
  (try simp only [List.getElem_toArray, List.getElem_cons_succ, List.getElem_cons_zero, Act.put, List.setIfInBounds_toArray, List.set_cons_zero, List.set_cons_succ])
  refine wpAnyH_take (i := 1) (oi := _) (v := ?_) rfl (by kernel_rfl) (by kernel_rfl) (by kernel_rfl) (fun _ _ _ h => h) (Or.inl ⟨by rfl, ?_⟩) (by assumption) ?_; rotate_left; focus (intro W hSw; (try dsimp only at hSw); go_simp; (first | done | with_reducible rfl))
  (try simp only [List.getElem_toArray, List.getElem_cons_succ, List.getElem_cons_zero, Act.put, List.setIfInBounds_toArray, List.set_cons_zero, List.set_cons_succ])
  refine wpAnyH_take (i := 2) (oi := _) (v := ?_) rfl (by kernel_rfl) (by kernel_rfl) (by kernel_rfl) (fun _ _ _ h => h) (Or.inl ⟨by rfl, ?_⟩) (by assumption) ?_; rotate_left; focus (intro W hSw; (try dsimp only at hSw); go_simp; (first | done | with_reducible rfl))
  (try simp only [List.getElem_toArray, List.getElem_cons_succ, List.getElem_cons_zero, Act.put, List.setIfInBounds_toArray, List.set_cons_zero, List.set_cons_succ])
  clear p0 p1 p2 p3
  refine wpAnyH_ready (rs := [3]) (by kernel_rfl) (by simp) ?_
  refine AllReadyH.cons (o := _) rfl (fun K hK => ?_) AllReadyH.nil
  go_simp
  obtain ⟨wq, hwq⟩ : ∃ wq, w1.alloc (.cells #[.int .i64 m.W, .int .i64 m.H, .slice ar m.R.length cr, .slice ac m.C.length cc] 26) = wq := ⟨_, rfl⟩
  have hq1 : wq.heap.size = B5 + 1 := by rw [← hwq]; simp [hB5e]
  rw [hwq]
  try rw [← hq1]
  rw [hwq] at HS2
  have hA : Below wq.heap.size wq (wq.alloc (.cells (([0, 1, 2, 3, 5, -1] : List Int).map (Value.int .i64)).toArray 3)).drew := ((Below.refl _ _).alloc (Nat.le_refl _) _).drew
  have HS3 := Lib.hid (HS2.out.below hA)
  have HRW := Lib.hid (show IRow (wq.alloc (.cells (([0, 1, 2, 3, 5, -1] : List Int).map (Value.int .i64)).toArray 3)).drew (some ⟨wq.heap.size, 0, none⟩) ([0, 1, 2, 3, 5, -1] : List Int) from row_lit ([0, 1, 2, 3, 5, -1] : List Int) wq (by decide))
  have hgq : B5 < wq.heap.size := HS2.out.d.box.lt
  have HNG := Lib.hid (show ∀ x, some (⟨wq.heap.size, 0, none⟩ : Addr) = some x → x.block ≠ w.heap.size + 1 from fun x e => by cases e; show wq.heap.size ≠ _; omega)
  clear hA hwq hq1 HS2
  obtain ⟨p0, p1, p2, p3, -⟩ := HS3.out.d.box.four
  refine hK.out _ _ ⟨p0, p1, p2, p3⟩ (fun _ => ?_)
  clear hK K hHeld
  clear p0 p1 p2 p3
  refine wpAnyH_ready (rs := [4]) (by kernel_rfl) (by simp) ?_
  refine AllReadyH.cons (o := _) rfl (fun K hK => ?_) AllReadyH.nil
  go_simp
  go_at_call 100
  refine (amongz_any (w.heap.size + 1) 400 _ _ ([0, 1, 2, 3, 5, -1] : List Int) _ (by omega) (by decide) (by decide) HRW.out HNG.out HS3.out.d.ok).mono ?_
  rintro e w4 ⟨⟨z1, rfl, hzm⟩, hok, hg⟩
  have HZm := Lib.hid hzm
  clear hzm
  have HS4 := Lib.hid (HS3.out.step hB5 hok hg)
  clear hok hg HS3
  obtain ⟨p0, p1, p2, p3, -⟩ := HS4.out.d.box.four
  go_wp2_with fail
  refine hK.out _ _ ⟨p0, p1, p2, p3⟩ (fun _ => ?_)
  clear hK K
  clear p0 p1 p2 p3
  have HP1 : -1 ≤ z1 ∧ z1 ≤ 5 := by have h := HZm.out; simp at h; omega
  obtain ⟨r0, r1, r2, r3, l0, l1, l2, l3⟩ := HS4.out.d.res.four
  have hx1 := HS4.out.d.res.lt
  have hx2 := HS4.out.d.box.lt
  refine wpAnyH_ready (rs := [5]) (by kernel_rfl) (by simp) ?_
  refine AllReadyH.cons (o := _) rfl (fun K hK => ?_) AllReadyH.nil
  go_simp
  have key : ∀ (W : World) (p : Addr) (u : Value), p.block = w.heap.size → Blk W B5 26 #[.int .i64 m.W, .int .i64 m.H, .slice ar m.R.length cr, .slice ac m.C.length cc] → Blk (W.setCell p u) B5 26 #[.int .i64 m.W, .int .i64 m.H, .slice ar m.R.length cr, .slice ac m.C.length cc] := fun W p u hp h => (Below.heap_setCell W p u B5 (by omega)).trans h
  obtain ⟨q0, q1, q2, q3, -⟩ := (key _ ⟨w.heap.size, 3, none⟩ (.slice ac m.C.length cc) rfl (key _ ⟨w.heap.size, 2, none⟩ (.slice ar m.R.length cr) rfl (key _ ⟨w.heap.size, 1, none⟩ (.int .i64 m.H) rfl (key _ ⟨w.heap.size, 0, none⟩ (.int .i64 m.W) rfl HS4.out.d.box)))).four
  clear key
  refine hK.out _ _ ⟨q0, q1, q2, q3⟩ (fun _ => ?_)
  clear hK K q0 q1 q2 q3
  refine wpAnyH_take (i := 6) (oi := _) (v := ?_) rfl (by kernel_rfl) (by kernel_rfl) (by kernel_rfl) (fun _ _ _ h => h) (Or.inl ⟨by rfl, ?_⟩) (by assumption) ?_; rotate_left; focus (intro W hSw; (try dsimp only at hSw); go_simp; (first | done | with_reducible rfl))
  (try simp only [List.getElem_toArray, List.getElem_cons_succ, List.getElem_cons_zero, Act.put, List.setIfInBounds_toArray, List.set_cons_zero, List.set_cons_succ])
  refine wpAnyH_take (i := 7) (oi := _) (v := ?_) rfl (by kernel_rfl) (by kernel_rfl) (by kernel_rfl) (fun _ _ _ h => h) (Or.inl ⟨by rfl, ?_⟩) (by assumption) ?_; rotate_left; focus (intro W hSw; (try dsimp only at hSw); go_simp; (first | done | with_reducible rfl))
  (try simp only [List.getElem_toArray, List.getElem_cons_succ, List.getElem_cons_zero, Act.put, List.setIfInBounds_toArray, List.set_cons_zero, List.set_cons_succ])
  refine wpAnyH_done (by kernel_rfl) ?_ _
  refine NoPanic.normal ?_
  (try simp only [List.getElem_toArray, List.getElem_cons_succ, List.getElem_cons_zero, Act.put, List.setIfInBounds_toArray, List.set_cons_zero, List.set_cons_succ])
  go_wp2
  refine bodyPost_ret (v := .tuple #[.agg #[.int .i64 m.W, .int .i64 m.H, .slice ar m.R.length cr, .slice ac m.C.length cc], .slice ad fs.length cpl, .int .i64 z1]) (by simp [results, Try.results53, go_sem, r0, r1, r2, r3]) rfl ⟨_, _, m, fs, z1, rfl, HP1, ⟨ar, cr, ac, cc, rfl, ?_, ?_, HN.out⟩, ?_, hR, hC, hF, ?_⟩
  · have h := HS4.out.d.r
    refine rebase (b := w.heap.size + 1 + 1) ?_ (by omega)
    iterate 4 (refine ownsRow_setCell_below ?_ (by show w.heap.size < _; omega) _)
    exact h
  · have h := HS4.out.d.c
    refine rebase (b := w.heap.size + 1 + 1) ?_ (by omega)
    iterate 4 (refine ownsRow_setCell_below ?_ (by show w.heap.size < _; omega) _)
    exact h
  · have h := HS4.out.L
    refine rebase (b := w.heap.size + 1 + 1) ?_ (by omega)
    iterate 4 (refine ownsRow_setCell_below ?_ (by show w.heap.size < _; omega) _)
    exact h
  · iterate 4 (refine Below.setCell ?_ (by simp) _)
    exact HS4.out.d.b

set_option maxRecDepth 100000 in
set_option maxHeartbeats 4000000 in
theorem drawRecodeControl (a : Option Addr) (n cap : Nat) (xs : Nat → Nat) (w : World) (hc : Bytes w a n xs) :
    Calls Try.prog 40 #[.slice a n cap] w (DP2 w) := by
  have HB := Lib.hid ((Below.refl w.heap.size w).alloc (Nat.le_refl _) (.cells #[.int .i64 0, .int .i64 0, .slice none 0 0, .slice none 0 0] 26))
  have HQ0 := Lib.hid (Blk.new w 26 #[.int .i64 0, .int .i64 0, .slice none 0 0, .slice none 0 0])
  have c1 := Lib.hid (site_any _ 0 _ (by omega) (begin_ (hc.below HB.out) cap))
  rw [World.size_alloc] at c1
  clear hc
  go_enter Try.func40, Try.ntmps40
  go_wp2_with fail
  refine c1.out.mono ?_
  rintro e w1 ⟨v, lv, m, fs, rfl, ho, hL, hR, hC, hF, hok1, hg1⟩
  obtain ⟨ar, cr, ac, cc, rfl, h1, h2, hne⟩ := ho
  obtain ⟨ad, cpl, rfl, -, -⟩ := hL.slice
  rw [World.size_alloc, World.size_alloc] at h1 h2 hL
  have hz : w.heap.size + 1 < w1.heap.size := hok1.lt
  obtain ⟨B5, hB5e⟩ : ∃ B, w1.heap.size = B := ⟨_, rfl⟩
  have HS2 := Lib.hid (show Dw w m ar cr ac cc B5 400 ad cpl fs (w1.alloc (.cells #[.int .i64 m.W, .int .i64 m.H, .slice ar m.R.length cr, .slice ac m.C.length cc] 26)) from by
    have hA : Below w1.heap.size w1 (w1.alloc (.cells #[.int .i64 m.W, .int .i64 m.H, .slice ar m.R.length cr, .slice ac m.C.length cc] 26)) := (Below.refl _ _).alloc (Nat.le_refl _) _
    have hB1 := below_of_grown (HB.out.alloc (by simp) _) hg1 (by simp; omega) (by simp)
    refine ⟨⟨hB1.alloc hB1.size _, (blk_grown (HQ0.out.alloc _) hg1 (by simp)).alloc _, ?_, World.ownsRow.alloc h1 _, World.ownsRow.alloc h2 _, (hok1.below hA).mono (by omega)⟩, World.ownsRow.alloc hL _⟩
    rw [← hB5e]
    exact Blk.new w1 26 #[.int .i64 m.W, .int .i64 m.H, .slice ar m.R.length cr, .slice ac m.C.length cc])
  have HN := Lib.hid hne
  have hB5 : w.heap.size + 1 < B5 := by omega
  have hRm : m.R.length ≤ maxLen := by unfold maxLen; omega
  have hCm : m.C.length ≤ maxLen := by unfold maxLen; omega
  clear hg1 h1 h2 hL hne hok1 c1 HB HQ0
  go_upto_region 3 with (fail)
  try rw [hB5e]
  obtain ⟨p0, p1, p2, p3, -⟩ := HS2.out.d.box.four
  refine wp_region_noPanic ?_
  refine wp_region_held_drew (S := (fun Wx : World => Wx.cell? ⟨B5, 0, none⟩ = some (.int .i64 m.W) ∧ Wx.cell? ⟨B5, 1, none⟩ = some (.int .i64 m.H) ∧ Wx.cell? ⟨B5, 2, none⟩ = some (.slice ar m.R.length cr) ∧ Wx.cell? ⟨B5, 3, none⟩ = some (.slice ac m.C.length cc))) (by kernel_rfl) ⟨p0, p1, p2, p3⟩ (fun hHeld => ?_)
  refine wpAnyH_take (i := 0) (oi := _) (v := ?_) rfl (by kernel_rfl) (by kernel_rfl) (by kernel_rfl) (fun _ _ _ h => h) (Or.inl ⟨by rfl, ?_⟩) (by assumption) ?_; rotate_left; focus (intro W hSw; (try dsimp only at hSw); go_simp; (first | done | with_reducible rfl))
  (try simp only [List.getElem_toArray, List.getElem_cons_succ, List.getElem_cons_zero, Act.put, List.setIfInBounds_toArray, List.set_cons_zero, List.set_cons_succ])
  refine wpAnyH_take (i := 1) (oi := _) (v := ?_) rfl (by kernel_rfl) (by kernel_rfl) (by kernel_rfl) (fun _ _ _ h => h) (Or.inl ⟨by rfl, ?_⟩) (by assumption) ?_; rotate_left; focus (intro W hSw; (try dsimp only at hSw); go_simp; (first | done | with_reducible rfl))
  (try simp only [List.getElem_toArray, List.getElem_cons_succ, List.getElem_cons_zero, Act.put, List.setIfInBounds_toArray, List.set_cons_zero, List.set_cons_succ])
  refine wpAnyH_take (i := 2) (oi := _) (v := ?_) rfl (by kernel_rfl) (by kernel_rfl) (by kernel_rfl) (fun _ _ _ h => h) (Or.inl ⟨by rfl, ?_⟩) (by assumption) ?_; rotate_left; focus (intro W hSw; (try dsimp only at hSw); go_simp; (first | done | with_reducible rfl))
  (try simp only [List.getElem_toArray, List.getElem_cons_succ, List.getElem_cons_zero, Act.put, List.setIfInBounds_toArray, List.set_cons_zero, List.set_cons_succ])
  refine wpAnyH_take (i := 3) (oi := _) (v := ?_) rfl (by kernel_rfl) (by kernel_rfl) (by kernel_rfl) (fun _ _ _ h => h) (Or.inl ⟨by rfl, ?_⟩) (by assumption) ?_; rotate_left; focus (intro W hSw; (try dsimp only at hSw); go_simp; (first | done | with_reducible rfl))
  (try simp only [List.getElem_toArray, List.getElem_cons_succ, List.getElem_cons_zero, Act.put, List.setIfInBounds_toArray, List.set_cons_zero, List.set_cons_succ])
  refine wpAnyH_take (i := 5) (oi := _) (v := ?_) rfl (by kernel_rfl) (by kernel_rfl) (by kernel_rfl) (fun _ _ _ h => h) (Or.inl ⟨by rfl, ?_⟩) (by assumption) ?_; rotate_left; focus (intro W hSw; (try dsimp only at hSw); go_simp; (first | done | with_reducible rfl))
  (try simp only [List.getElem_toArray, List.getElem_cons_succ, List.getElem_cons_zero, Act.put, List.setIfInBounds_toArray, List.set_cons_zero, List.set_cons_succ])
  clear p0 p1 p2 p3
  refine wpAnyH_ready (rs := [4, 6]) (by kernel_rfl) (by simp) ?_
  refine AllReadyH.cons (o := _) rfl (fun K hK => ?_) (AllReadyH.cons (o := _) rfl (fun K hK => ?_) (AllReadyH.nil))
  · go_simp
    replace HS2 := Lib.hid HS2.out.drew
    go_at_call 93
    refine (codeOf_any (w.heap.size + 1) 400 ad cpl fs _ (by omega) (by omega) (CtK.Own.row HS2.out.L) HS2.out.nL HS2.out.d.ok).mono ?_
    rintro e w3 ⟨⟨z1, rfl⟩, hok, hg⟩
    have HS3 := Lib.hid (HS2.out.step hB5 hok hg)
    clear hok hg HS2
    obtain ⟨p0, p1, p2, p3, -⟩ := HS3.out.d.box.four
    go_wp2_with fail
    refine hK.out _ _ ⟨p0, p1, p2, p3⟩ (fun _ => ?_)
    clear hK K hHeld
    clear p0 p1 p2 p3
    refine wpAnyH_ready (rs := [6]) (by kernel_rfl) (by simp) ?_
    refine AllReadyH.cons (o := _) rfl (fun K hK => ?_) AllReadyH.nil
    go_simp
    have hA : Below w3.heap.size w3 (w3.alloc (.cells (([33, 50, 88, 30, 100, 31, 45] : List Int).map (Value.int .i64)).toArray 3)) := (Below.refl _ _).alloc (Nat.le_refl _) _
    have HS4 := Lib.hid (HS3.out.below hA)
    have HRW := Lib.hid (row_lit ([33, 50, 88, 30, 100, 31, 45] : List Int) w3 (by decide))
    have HNG := Lib.hid (show ∀ x, some (⟨w3.heap.size, 0, none⟩ : Addr) = some x → x.block ≠ w.heap.size + 1 from fun x e => by cases e; have := HS3.out.d.box.lt; show w3.heap.size ≠ _; omega)
    clear hA
    obtain ⟨p0, p1, p2, p3, -⟩ := HS4.out.d.box.four
    refine hK.out _ _ ⟨p0, p1, p2, p3⟩ (fun _ => ?_)
    clear hK K
    clear p0 p1 p2 p3
    refine wpAnyH_ready (rs := [7]) (by kernel_rfl) (by simp) ?_
    refine AllReadyH.cons (o := _) rfl (fun K hK => ?_) AllReadyH.nil
    go_simp
    go_at_call 100
    refine (amongz_any (w.heap.size + 1) 406 _ _ ([33, 50, 88, 30, 100, 31, 45] : List Int) _ (by omega) (by decide) (by decide) HRW.out HNG.out HS4.out.d.ok).mono ?_
    rintro e w5 ⟨⟨z2, rfl, hzm⟩, hok, hg⟩
    have HZm := Lib.hid hzm
    clear hzm
    have HS5 := Lib.hid (HS4.out.step hB5 hok hg)
    clear hok hg HS4
    obtain ⟨p0, p1, p2, p3, -⟩ := HS5.out.d.box.four
    go_wp2_with fail
    refine hK.out _ _ ⟨p0, p1, p2, p3⟩ (fun _ => ?_)
    clear hK K
    clear p0 p1 p2 p3
    obtain ⟨r0, r1, r2, r3, l0, l1, l2, l3⟩ := HS5.out.d.res.four
    have hx1 := HS5.out.d.res.lt
    have hx2 := HS5.out.d.box.lt
    refine wpAnyH_ready (rs := [8]) (by kernel_rfl) (by simp) ?_
    refine AllReadyH.cons (o := _) rfl (fun K hK => ?_) AllReadyH.nil
    go_simp
    have key : ∀ (W : World) (p : Addr) (u : Value), p.block = w.heap.size → Blk W B5 26 #[.int .i64 m.W, .int .i64 m.H, .slice ar m.R.length cr, .slice ac m.C.length cc] → Blk (W.setCell p u) B5 26 #[.int .i64 m.W, .int .i64 m.H, .slice ar m.R.length cr, .slice ac m.C.length cc] := fun W p u hp h => (Below.heap_setCell W p u B5 (by omega)).trans h
    obtain ⟨q0, q1, q2, q3, -⟩ := (key _ ⟨w.heap.size, 3, none⟩ (.slice ac m.C.length cc) rfl (key _ ⟨w.heap.size, 2, none⟩ (.slice ar m.R.length cr) rfl (key _ ⟨w.heap.size, 1, none⟩ (.int .i64 m.H) rfl (key _ ⟨w.heap.size, 0, none⟩ (.int .i64 m.W) rfl HS5.out.d.box)))).four
    clear key
    refine hK.out _ _ ⟨q0, q1, q2, q3⟩ (fun _ => ?_)
    clear hK K q0 q1 q2 q3
    refine wpAnyH_take (i := 9) (oi := _) (v := ?_) rfl (by kernel_rfl) (by kernel_rfl) (by kernel_rfl) (fun _ _ _ h => h) (Or.inl ⟨by rfl, ?_⟩) (by assumption) ?_; rotate_left; focus (intro W hSw; (try dsimp only at hSw); go_simp; (first | done | with_reducible rfl))
    (try simp only [List.getElem_toArray, List.getElem_cons_succ, List.getElem_cons_zero, Act.put, List.setIfInBounds_toArray, List.set_cons_zero, List.set_cons_succ])
    refine wpAnyH_take (i := 10) (oi := _) (v := ?_) rfl (by kernel_rfl) (by kernel_rfl) (by kernel_rfl) (fun _ _ _ h => h) (Or.inl ⟨by rfl, ?_⟩) (by assumption) ?_; rotate_left; focus (intro W hSw; (try dsimp only at hSw); go_simp; (first | done | with_reducible rfl))
    (try simp only [List.getElem_toArray, List.getElem_cons_succ, List.getElem_cons_zero, Act.put, List.setIfInBounds_toArray, List.set_cons_zero, List.set_cons_succ])
    refine wpAnyH_take (i := 11) (oi := _) (v := ?_) rfl (by kernel_rfl) (by kernel_rfl) (by kernel_rfl) (fun _ _ _ h => h) (Or.inl ⟨by rfl, ?_⟩) (by assumption) ?_; rotate_left; focus (intro W hSw; (try dsimp only at hSw); go_simp; (first | done | with_reducible rfl))
    (try simp only [List.getElem_toArray, List.getElem_cons_succ, List.getElem_cons_zero, Act.put, List.setIfInBounds_toArray, List.set_cons_zero, List.set_cons_succ])
    refine wpAnyH_done (by kernel_rfl) ?_ _
    refine NoPanic.normal ?_
    (try simp only [List.getElem_toArray, List.getElem_cons_succ, List.getElem_cons_zero, Act.put, List.setIfInBounds_toArray, List.set_cons_zero, List.set_cons_succ])
    go_wp2
    refine bodyPost_ret (v := .tuple #[.agg #[.int .i64 m.W, .int .i64 m.H, .slice ar m.R.length cr, .slice ac m.C.length cc], .slice ad fs.length cpl, .int .i64 z1, .int .i64 z2]) (by simp [results, Try.results40, go_sem, r0, r1, r2, r3]) rfl ⟨_, _, m, fs, z1, z2, rfl, ⟨ar, cr, ac, cc, rfl, ?_, ?_, HN.out⟩, ?_, hR, hC, hF, ?_⟩
    · have h := HS5.out.d.r
      refine rebase (b := w.heap.size + 1 + 1) ?_ (by omega)
      iterate 4 (refine ownsRow_setCell_below ?_ (by show w.heap.size < _; omega) _)
      exact h
    · have h := HS5.out.d.c
      refine rebase (b := w.heap.size + 1 + 1) ?_ (by omega)
      iterate 4 (refine ownsRow_setCell_below ?_ (by show w.heap.size < _; omega) _)
      exact h
    · have h := HS5.out.L
      refine rebase (b := w.heap.size + 1 + 1) ?_ (by omega)
      iterate 4 (refine ownsRow_setCell_below ?_ (by show w.heap.size < _; omega) _)
      exact h
    · iterate 4 (refine Below.setCell ?_ (by simp) _)
      exact HS5.out.d.b
  · go_simp
    obtain ⟨wq, hwq⟩ : ∃ wq, w1.alloc (.cells #[.int .i64 m.W, .int .i64 m.H, .slice ar m.R.length cr, .slice ac m.C.length cc] 26) = wq := ⟨_, rfl⟩
    have hq1 : wq.heap.size = B5 + 1 := by rw [← hwq]; simp [hB5e]
    rw [hwq]
    try rw [← hq1]
    rw [hwq] at HS2
    have hA : Below wq.heap.size wq (wq.alloc (.cells (([33, 50, 88, 30, 100, 31, 45] : List Int).map (Value.int .i64)).toArray 3)).drew := ((Below.refl _ _).alloc (Nat.le_refl _) _).drew
    have HS3 := Lib.hid (HS2.out.below hA)
    have HRW := Lib.hid (show IRow (wq.alloc (.cells (([33, 50, 88, 30, 100, 31, 45] : List Int).map (Value.int .i64)).toArray 3)).drew (some ⟨wq.heap.size, 0, none⟩) ([33, 50, 88, 30, 100, 31, 45] : List Int) from row_lit ([33, 50, 88, 30, 100, 31, 45] : List Int) wq (by decide))
    have hgq : B5 < wq.heap.size := HS2.out.d.box.lt
    have HNG := Lib.hid (show ∀ x, some (⟨wq.heap.size, 0, none⟩ : Addr) = some x → x.block ≠ w.heap.size + 1 from fun x e => by cases e; show wq.heap.size ≠ _; omega)
    clear hA hwq hq1 HS2
    obtain ⟨p0, p1, p2, p3, -⟩ := HS3.out.d.box.four
    refine hK.out _ _ ⟨p0, p1, p2, p3⟩ (fun _ => ?_)
    clear hK K hHeld
    clear p0 p1 p2 p3
    have HRW0 := HRW
    clear HRW
    refine wpAnyH_ready (rs := [4]) (by kernel_rfl) (by simp) ?_
    refine AllReadyH.cons (o := _) rfl (fun K hK => ?_) AllReadyH.nil
    go_simp
    go_at_call 93
    refine (codeOf_any (w.heap.size + 1) 400 ad cpl fs _ (by omega) (by omega) (CtK.Own.row HS3.out.L) HS3.out.nL HS3.out.d.ok).mono ?_
    rintro e w4 ⟨⟨z1, rfl⟩, hok, hg⟩
    have HS4 := Lib.hid (HS3.out.step hB5 hok hg)
    have HRW := Lib.hid (row_beside HRW0.out hg (fun x e => by cases e; simp; omega)); clear hok hg HS3 HRW0
    obtain ⟨p0, p1, p2, p3, -⟩ := HS4.out.d.box.four
    go_wp2_with fail
    refine hK.out _ _ ⟨p0, p1, p2, p3⟩ (fun _ => ?_)
    clear hK K
    clear p0 p1 p2 p3
    refine wpAnyH_ready (rs := [7]) (by kernel_rfl) (by simp) ?_
    refine AllReadyH.cons (o := _) rfl (fun K hK => ?_) AllReadyH.nil
    go_simp
    go_at_call 100
    refine (amongz_any (w.heap.size + 1) 406 _ _ ([33, 50, 88, 30, 100, 31, 45] : List Int) _ (by omega) (by decide) (by decide) HRW.out HNG.out HS4.out.d.ok).mono ?_
    rintro e w5 ⟨⟨z2, rfl, hzm⟩, hok, hg⟩
    have HZm := Lib.hid hzm
    clear hzm
    have HS5 := Lib.hid (HS4.out.step hB5 hok hg)
    clear hok hg HS4
    obtain ⟨p0, p1, p2, p3, -⟩ := HS5.out.d.box.four
    go_wp2_with fail
    refine hK.out _ _ ⟨p0, p1, p2, p3⟩ (fun _ => ?_)
    clear hK K
    clear p0 p1 p2 p3
    obtain ⟨r0, r1, r2, r3, l0, l1, l2, l3⟩ := HS5.out.d.res.four
    have hx1 := HS5.out.d.res.lt
    have hx2 := HS5.out.d.box.lt
    refine wpAnyH_ready (rs := [8]) (by kernel_rfl) (by simp) ?_
    refine AllReadyH.cons (o := _) rfl (fun K hK => ?_) AllReadyH.nil
    go_simp
    have key : ∀ (W : World) (p : Addr) (u : Value), p.block = w.heap.size → Blk W B5 26 #[.int .i64 m.W, .int .i64 m.H, .slice ar m.R.length cr, .slice ac m.C.length cc] → Blk (W.setCell p u) B5 26 #[.int .i64 m.W, .int .i64 m.H, .slice ar m.R.length cr, .slice ac m.C.length cc] := fun W p u hp h => (Below.heap_setCell W p u B5 (by omega)).trans h
    obtain ⟨q0, q1, q2, q3, -⟩ := (key _ ⟨w.heap.size, 3, none⟩ (.slice ac m.C.length cc) rfl (key _ ⟨w.heap.size, 2, none⟩ (.slice ar m.R.length cr) rfl (key _ ⟨w.heap.size, 1, none⟩ (.int .i64 m.H) rfl (key _ ⟨w.heap.size, 0, none⟩ (.int .i64 m.W) rfl HS5.out.d.box)))).four
    clear key
    refine hK.out _ _ ⟨q0, q1, q2, q3⟩ (fun _ => ?_)
    clear hK K q0 q1 q2 q3
    refine wpAnyH_take (i := 9) (oi := _) (v := ?_) rfl (by kernel_rfl) (by kernel_rfl) (by kernel_rfl) (fun _ _ _ h => h) (Or.inl ⟨by rfl, ?_⟩) (by assumption) ?_; rotate_left; focus (intro W hSw; (try dsimp only at hSw); go_simp; (first | done | with_reducible rfl))
    (try simp only [List.getElem_toArray, List.getElem_cons_succ, List.getElem_cons_zero, Act.put, List.setIfInBounds_toArray, List.set_cons_zero, List.set_cons_succ])
    refine wpAnyH_take (i := 10) (oi := _) (v := ?_) rfl (by kernel_rfl) (by kernel_rfl) (by kernel_rfl) (fun _ _ _ h => h) (Or.inl ⟨by rfl, ?_⟩) (by assumption) ?_; rotate_left; focus (intro W hSw; (try dsimp only at hSw); go_simp; (first | done | with_reducible rfl))
    (try simp only [List.getElem_toArray, List.getElem_cons_succ, List.getElem_cons_zero, Act.put, List.setIfInBounds_toArray, List.set_cons_zero, List.set_cons_succ])
    refine wpAnyH_take (i := 11) (oi := _) (v := ?_) rfl (by kernel_rfl) (by kernel_rfl) (by kernel_rfl) (fun _ _ _ h => h) (Or.inl ⟨by rfl, ?_⟩) (by assumption) ?_; rotate_left; focus (intro W hSw; (try dsimp only at hSw); go_simp; (first | done | with_reducible rfl))
    (try simp only [List.getElem_toArray, List.getElem_cons_succ, List.getElem_cons_zero, Act.put, List.setIfInBounds_toArray, List.set_cons_zero, List.set_cons_succ])
    refine wpAnyH_done (by kernel_rfl) ?_ _
    refine NoPanic.normal ?_
    (try simp only [List.getElem_toArray, List.getElem_cons_succ, List.getElem_cons_zero, Act.put, List.setIfInBounds_toArray, List.set_cons_zero, List.set_cons_succ])
    go_wp2
    refine bodyPost_ret (v := .tuple #[.agg #[.int .i64 m.W, .int .i64 m.H, .slice ar m.R.length cr, .slice ac m.C.length cc], .slice ad fs.length cpl, .int .i64 z1, .int .i64 z2]) (by simp [results, Try.results40, go_sem, r0, r1, r2, r3]) rfl ⟨_, _, m, fs, z1, z2, rfl, ⟨ar, cr, ac, cc, rfl, ?_, ?_, HN.out⟩, ?_, hR, hC, hF, ?_⟩
    · have h := HS5.out.d.r
      refine rebase (b := w.heap.size + 1 + 1) ?_ (by omega)
      iterate 4 (refine ownsRow_setCell_below ?_ (by show w.heap.size < _; omega) _)
      exact h
    · have h := HS5.out.d.c
      refine rebase (b := w.heap.size + 1 + 1) ?_ (by omega)
      iterate 4 (refine ownsRow_setCell_below ?_ (by show w.heap.size < _; omega) _)
      exact h
    · have h := HS5.out.L
      refine rebase (b := w.heap.size + 1 + 1) ?_ (by omega)
      iterate 4 (refine ownsRow_setCell_below ?_ (by show w.heap.size < _; omega) _)
      exact h
    · iterate 4 (refine Below.setCell ?_ (by simp) _)
      exact HS5.out.d.b

set_option maxRecDepth 100000 in
set_option maxHeartbeats 4000000 in
theorem drawCodeAt (a : Option Addr) (n cap : Nat) (xs : Nat → Nat) (w : World) (hc : Bytes w a n xs) :
    Calls Try.prog 45 #[.slice a n cap] w (DP1 (fun _ => True) w) := by
  have HB := Lib.hid ((Below.refl w.heap.size w).alloc (Nat.le_refl _) (.cells #[.int .i64 0, .int .i64 0, .slice none 0 0, .slice none 0 0] 26))
  have HQ0 := Lib.hid (Blk.new w 26 #[.int .i64 0, .int .i64 0, .slice none 0 0, .slice none 0 0])
  have c1 := Lib.hid (site_any _ 0 _ (by omega) (begin_ (hc.below HB.out) cap))
  rw [World.size_alloc] at c1
  clear hc
  go_enter Try.func45, Try.ntmps45
  go_wp2_with fail
  refine c1.out.mono ?_
  rintro e w1 ⟨v, lv, m, fs, rfl, ho, hL, hR, hC, hF, hok1, hg1⟩
  obtain ⟨ar, cr, ac, cc, rfl, h1, h2, hne⟩ := ho
  obtain ⟨ad, cpl, rfl, -, -⟩ := hL.slice
  rw [World.size_alloc, World.size_alloc] at h1 h2 hL
  have hz : w.heap.size + 1 < w1.heap.size := hok1.lt
  obtain ⟨B5, hB5e⟩ : ∃ B, w1.heap.size = B := ⟨_, rfl⟩
  have HS2 := Lib.hid (show Dw w m ar cr ac cc B5 400 ad cpl fs (w1.alloc (.cells #[.int .i64 m.W, .int .i64 m.H, .slice ar m.R.length cr, .slice ac m.C.length cc] 26)) from by
    have hA : Below w1.heap.size w1 (w1.alloc (.cells #[.int .i64 m.W, .int .i64 m.H, .slice ar m.R.length cr, .slice ac m.C.length cc] 26)) := (Below.refl _ _).alloc (Nat.le_refl _) _
    have hB1 := below_of_grown (HB.out.alloc (by simp) _) hg1 (by simp; omega) (by simp)
    refine ⟨⟨hB1.alloc hB1.size _, (blk_grown (HQ0.out.alloc _) hg1 (by simp)).alloc _, ?_, World.ownsRow.alloc h1 _, World.ownsRow.alloc h2 _, (hok1.below hA).mono (by omega)⟩, World.ownsRow.alloc hL _⟩
    rw [← hB5e]
    exact Blk.new w1 26 #[.int .i64 m.W, .int .i64 m.H, .slice ar m.R.length cr, .slice ac m.C.length cc])
  have HN := Lib.hid hne
  have hB5 : w.heap.size + 1 < B5 := by omega
  have hRm : m.R.length ≤ maxLen := by unfold maxLen; omega
  have hCm : m.C.length ≤ maxLen := by unfold maxLen; omega
  clear hg1 h1 h2 hL hne hok1 c1 HB HQ0
  by_cases h0 : 0 < fs.length
  case neg =>
    have hd : decide (0 < (fs.length : Int)) = false := decide_eq_false (by omega)
    have hd2 : ¬ 0 < fs.length := h0
    go_upto_region 5 with (fail)
    try rw [hB5e]
    replace HS2 := Lib.hid HS2.out.drew
    obtain ⟨p0, p1, p2, p3, -⟩ := HS2.out.d.box.four
    refine wp_region_noPanic ?_
    refine wp_region_held_drew (S := (fun Wx : World => Wx.cell? ⟨B5, 0, none⟩ = some (.int .i64 m.W) ∧ Wx.cell? ⟨B5, 1, none⟩ = some (.int .i64 m.H) ∧ Wx.cell? ⟨B5, 2, none⟩ = some (.slice ar m.R.length cr) ∧ Wx.cell? ⟨B5, 3, none⟩ = some (.slice ac m.C.length cc))) (by kernel_rfl) ⟨p0, p1, p2, p3⟩ (fun hHeld => ?_)
    refine wpAnyH_take (i := 0) (oi := _) (v := ?_) rfl (by kernel_rfl) (by kernel_rfl) (by kernel_rfl) (fun _ _ _ h => h) (Or.inl ⟨by rfl, ?_⟩) (by assumption) ?_; rotate_left; focus (intro W hSw; (try dsimp only at hSw); go_simp; (first | done | with_reducible rfl))
    (try simp only [List.getElem_toArray, List.getElem_cons_succ, List.getElem_cons_zero, Act.put, List.setIfInBounds_toArray, List.set_cons_zero, List.set_cons_succ])
    refine wpAnyH_take (i := 1) (oi := _) (v := ?_) rfl (by kernel_rfl) (by kernel_rfl) (by kernel_rfl) (fun _ _ _ h => h) (Or.inl ⟨by rfl, ?_⟩) (by assumption) ?_; rotate_left; focus (intro W hSw; (try dsimp only at hSw); go_simp; (first | done | with_reducible rfl))
    (try simp only [List.getElem_toArray, List.getElem_cons_succ, List.getElem_cons_zero, Act.put, List.setIfInBounds_toArray, List.set_cons_zero, List.set_cons_succ])
    refine wpAnyH_take (i := 2) (oi := _) (v := ?_) rfl (by kernel_rfl) (by kernel_rfl) (by kernel_rfl) (fun _ _ _ h => h) (Or.inl ⟨by rfl, ?_⟩) (by assumption) ?_; rotate_left; focus (intro W hSw; (try dsimp only at hSw); go_simp; (first | done | with_reducible rfl))
    (try simp only [List.getElem_toArray, List.getElem_cons_succ, List.getElem_cons_zero, Act.put, List.setIfInBounds_toArray, List.set_cons_zero, List.set_cons_succ])
    refine wpAnyH_take (i := 3) (oi := _) (v := ?_) rfl (by kernel_rfl) (by kernel_rfl) (by kernel_rfl) (fun _ _ _ h => h) (Or.inl ⟨by rfl, ?_⟩) (by assumption) ?_; rotate_left; focus (intro W hSw; (try dsimp only at hSw); go_simp; (first | done | with_reducible rfl))
    (try simp only [List.getElem_toArray, List.getElem_cons_succ, List.getElem_cons_zero, Act.put, List.setIfInBounds_toArray, List.set_cons_zero, List.set_cons_succ])
    refine wpAnyH_ready (rs := [4]) (by kernel_rfl) (by simp) ?_
    refine AllReadyH.cons (o := _) rfl (fun K hK => ?_) AllReadyH.nil
    go_simp
    go_at_call 104
    refine (cell_any (w.heap.size + 1) 400 m ar ac cr cc _ (by omega) hC HS2.out.d.ok).mono ?_
    rintro e w3 ⟨⟨z1, rfl⟩, hok, hg⟩
    have HS3 := Lib.hid (HS2.out.step hB5 hok hg)
    clear hok hg HS2
    obtain ⟨p0, p1, p2, p3, -⟩ := HS3.out.d.box.four
    go_wp2_with fail
    refine hK.out _ _ ⟨p0, p1, p2, p3⟩ (fun _ => ?_)
    clear hK K hHeld
    clear p0 p1 p2 p3
    obtain ⟨r0, r1, r2, r3, l0, l1, l2, l3⟩ := HS3.out.d.res.four
    have hx1 := HS3.out.d.res.lt
    have hx2 := HS3.out.d.box.lt
    refine wpAnyH_ready (rs := [5]) (by kernel_rfl) (by simp) ?_
    refine AllReadyH.cons (o := _) rfl (fun K hK => ?_) AllReadyH.nil
    go_simp
    have key : ∀ (W : World) (p : Addr) (u : Value), p.block = w.heap.size → Blk W B5 26 #[.int .i64 m.W, .int .i64 m.H, .slice ar m.R.length cr, .slice ac m.C.length cc] → Blk (W.setCell p u) B5 26 #[.int .i64 m.W, .int .i64 m.H, .slice ar m.R.length cr, .slice ac m.C.length cc] := fun W p u hp h => (Below.heap_setCell W p u B5 (by omega)).trans h
    obtain ⟨q0, q1, q2, q3, -⟩ := (key _ ⟨w.heap.size, 3, none⟩ (.slice ac m.C.length cc) rfl (key _ ⟨w.heap.size, 2, none⟩ (.slice ar m.R.length cr) rfl (key _ ⟨w.heap.size, 1, none⟩ (.int .i64 m.H) rfl (key _ ⟨w.heap.size, 0, none⟩ (.int .i64 m.W) rfl HS3.out.d.box)))).four
    clear key
    refine hK.out _ _ ⟨q0, q1, q2, q3⟩ (fun _ => ?_)
    clear hK K q0 q1 q2 q3
    refine wpAnyH_take (i := 6) (oi := _) (v := ?_) rfl (by kernel_rfl) (by kernel_rfl) (by kernel_rfl) (fun _ _ _ h => h) (Or.inl ⟨by rfl, ?_⟩) (by assumption) ?_; rotate_left; focus (intro W hSw; (try dsimp only at hSw); go_simp; (first | done | with_reducible rfl))
    (try simp only [List.getElem_toArray, List.getElem_cons_succ, List.getElem_cons_zero, Act.put, List.setIfInBounds_toArray, List.set_cons_zero, List.set_cons_succ])
    refine wpAnyH_take (i := 7) (oi := _) (v := ?_) rfl (by kernel_rfl) (by kernel_rfl) (by kernel_rfl) (fun _ _ _ h => h) (Or.inl ⟨by rfl, ?_⟩) (by assumption) ?_; rotate_left; focus (intro W hSw; (try dsimp only at hSw); go_simp; (first | done | with_reducible rfl))
    (try simp only [List.getElem_toArray, List.getElem_cons_succ, List.getElem_cons_zero, Act.put, List.setIfInBounds_toArray, List.set_cons_zero, List.set_cons_succ])
    refine wpAnyH_done (by kernel_rfl) ?_ _
    refine NoPanic.normal ?_
    (try simp only [List.getElem_toArray, List.getElem_cons_succ, List.getElem_cons_zero, Act.put, List.setIfInBounds_toArray, List.set_cons_zero, List.set_cons_succ])
    go_wp2
    refine bodyPost_ret (v := .tuple #[.agg #[.int .i64 m.W, .int .i64 m.H, .slice ar m.R.length cr, .slice ac m.C.length cc], .slice ad fs.length cpl, .int .i64 z1]) (by simp [results, Try.results45, go_sem, r0, r1, r2, r3]) rfl ⟨_, _, m, fs, z1, rfl, trivial, ⟨ar, cr, ac, cc, rfl, ?_, ?_, HN.out⟩, ?_, hR, hC, hF, ?_⟩
    · have h := HS3.out.d.r
      refine rebase (b := w.heap.size + 1 + 1) ?_ (by omega)
      iterate 4 (refine ownsRow_setCell_below ?_ (by show w.heap.size < _; omega) _)
      exact h
    · have h := HS3.out.d.c
      refine rebase (b := w.heap.size + 1 + 1) ?_ (by omega)
      iterate 4 (refine ownsRow_setCell_below ?_ (by show w.heap.size < _; omega) _)
      exact h
    · have h := HS3.out.L
      refine rebase (b := w.heap.size + 1 + 1) ?_ (by omega)
      iterate 4 (refine ownsRow_setCell_below ?_ (by show w.heap.size < _; omega) _)
      exact h
    · iterate 4 (refine Below.setCell ?_ (by simp) _)
      exact HS3.out.d.b
  have hd : decide (0 < (fs.length : Int)) = true := decide_eq_true (by omega)
  go_wp2_with fail
  try rw [hB5e]
  refine (one_any (w.heap.size + 1) 400 2 _ (by omega) (by omega) (by omega) HS2.out.d.ok).mono ?_
  rintro e w3 ⟨⟨t, rfl⟩, hok, hg⟩
  have HS3 := Lib.hid (HS2.out.step hB5 hok hg)
  clear hok hg HS2
  cases t with
  | false =>
    go_upto_region 5 with (fail)
    try rw [hB5e]
    replace HS3 := Lib.hid HS3.out.drew
    obtain ⟨p0, p1, p2, p3, -⟩ := HS3.out.d.box.four
    refine wp_region_noPanic ?_
    refine wp_region_held_drew (S := (fun Wx : World => Wx.cell? ⟨B5, 0, none⟩ = some (.int .i64 m.W) ∧ Wx.cell? ⟨B5, 1, none⟩ = some (.int .i64 m.H) ∧ Wx.cell? ⟨B5, 2, none⟩ = some (.slice ar m.R.length cr) ∧ Wx.cell? ⟨B5, 3, none⟩ = some (.slice ac m.C.length cc))) (by kernel_rfl) ⟨p0, p1, p2, p3⟩ (fun hHeld => ?_)
    refine wpAnyH_take (i := 0) (oi := _) (v := ?_) rfl (by kernel_rfl) (by kernel_rfl) (by kernel_rfl) (fun _ _ _ h => h) (Or.inl ⟨by rfl, ?_⟩) (by assumption) ?_; rotate_left; focus (intro W hSw; (try dsimp only at hSw); go_simp; (first | done | with_reducible rfl))
    (try simp only [List.getElem_toArray, List.getElem_cons_succ, List.getElem_cons_zero, Act.put, List.setIfInBounds_toArray, List.set_cons_zero, List.set_cons_succ])
    refine wpAnyH_take (i := 1) (oi := _) (v := ?_) rfl (by kernel_rfl) (by kernel_rfl) (by kernel_rfl) (fun _ _ _ h => h) (Or.inl ⟨by rfl, ?_⟩) (by assumption) ?_; rotate_left; focus (intro W hSw; (try dsimp only at hSw); go_simp; (first | done | with_reducible rfl))
    (try simp only [List.getElem_toArray, List.getElem_cons_succ, List.getElem_cons_zero, Act.put, List.setIfInBounds_toArray, List.set_cons_zero, List.set_cons_succ])
    refine wpAnyH_take (i := 2) (oi := _) (v := ?_) rfl (by kernel_rfl) (by kernel_rfl) (by kernel_rfl) (fun _ _ _ h => h) (Or.inl ⟨by rfl, ?_⟩) (by assumption) ?_; rotate_left; focus (intro W hSw; (try dsimp only at hSw); go_simp; (first | done | with_reducible rfl))
    (try simp only [List.getElem_toArray, List.getElem_cons_succ, List.getElem_cons_zero, Act.put, List.setIfInBounds_toArray, List.set_cons_zero, List.set_cons_succ])
    refine wpAnyH_take (i := 3) (oi := _) (v := ?_) rfl (by kernel_rfl) (by kernel_rfl) (by kernel_rfl) (fun _ _ _ h => h) (Or.inl ⟨by rfl, ?_⟩) (by assumption) ?_; rotate_left; focus (intro W hSw; (try dsimp only at hSw); go_simp; (first | done | with_reducible rfl))
    (try simp only [List.getElem_toArray, List.getElem_cons_succ, List.getElem_cons_zero, Act.put, List.setIfInBounds_toArray, List.set_cons_zero, List.set_cons_succ])
    refine wpAnyH_ready (rs := [4]) (by kernel_rfl) (by simp) ?_
    refine AllReadyH.cons (o := _) rfl (fun K hK => ?_) AllReadyH.nil
    go_simp
    go_at_call 104
    refine (cell_any (w.heap.size + 1) 402 m ar ac cr cc _ (by omega) hC HS3.out.d.ok).mono ?_
    rintro e w4 ⟨⟨z1, rfl⟩, hok, hg⟩
    have HS4 := Lib.hid (HS3.out.step hB5 hok hg)
    clear hok hg HS3
    obtain ⟨p0, p1, p2, p3, -⟩ := HS4.out.d.box.four
    go_wp2_with fail
    refine hK.out _ _ ⟨p0, p1, p2, p3⟩ (fun _ => ?_)
    clear hK K hHeld
    clear p0 p1 p2 p3
    obtain ⟨r0, r1, r2, r3, l0, l1, l2, l3⟩ := HS4.out.d.res.four
    have hx1 := HS4.out.d.res.lt
    have hx2 := HS4.out.d.box.lt
    refine wpAnyH_ready (rs := [5]) (by kernel_rfl) (by simp) ?_
    refine AllReadyH.cons (o := _) rfl (fun K hK => ?_) AllReadyH.nil
    go_simp
    have key : ∀ (W : World) (p : Addr) (u : Value), p.block = w.heap.size → Blk W B5 26 #[.int .i64 m.W, .int .i64 m.H, .slice ar m.R.length cr, .slice ac m.C.length cc] → Blk (W.setCell p u) B5 26 #[.int .i64 m.W, .int .i64 m.H, .slice ar m.R.length cr, .slice ac m.C.length cc] := fun W p u hp h => (Below.heap_setCell W p u B5 (by omega)).trans h
    obtain ⟨q0, q1, q2, q3, -⟩ := (key _ ⟨w.heap.size, 3, none⟩ (.slice ac m.C.length cc) rfl (key _ ⟨w.heap.size, 2, none⟩ (.slice ar m.R.length cr) rfl (key _ ⟨w.heap.size, 1, none⟩ (.int .i64 m.H) rfl (key _ ⟨w.heap.size, 0, none⟩ (.int .i64 m.W) rfl HS4.out.d.box)))).four
    clear key
    refine hK.out _ _ ⟨q0, q1, q2, q3⟩ (fun _ => ?_)
    clear hK K q0 q1 q2 q3
    refine wpAnyH_take (i := 6) (oi := _) (v := ?_) rfl (by kernel_rfl) (by kernel_rfl) (by kernel_rfl) (fun _ _ _ h => h) (Or.inl ⟨by rfl, ?_⟩) (by assumption) ?_; rotate_left; focus (intro W hSw; (try dsimp only at hSw); go_simp; (first | done | with_reducible rfl))
    (try simp only [List.getElem_toArray, List.getElem_cons_succ, List.getElem_cons_zero, Act.put, List.setIfInBounds_toArray, List.set_cons_zero, List.set_cons_succ])
    refine wpAnyH_take (i := 7) (oi := _) (v := ?_) rfl (by kernel_rfl) (by kernel_rfl) (by kernel_rfl) (fun _ _ _ h => h) (Or.inl ⟨by rfl, ?_⟩) (by assumption) ?_; rotate_left; focus (intro W hSw; (try dsimp only at hSw); go_simp; (first | done | with_reducible rfl))
    (try simp only [List.getElem_toArray, List.getElem_cons_succ, List.getElem_cons_zero, Act.put, List.setIfInBounds_toArray, List.set_cons_zero, List.set_cons_succ])
    refine wpAnyH_done (by kernel_rfl) ?_ _
    refine NoPanic.normal ?_
    (try simp only [List.getElem_toArray, List.getElem_cons_succ, List.getElem_cons_zero, Act.put, List.setIfInBounds_toArray, List.set_cons_zero, List.set_cons_succ])
    go_wp2
    refine bodyPost_ret (v := .tuple #[.agg #[.int .i64 m.W, .int .i64 m.H, .slice ar m.R.length cr, .slice ac m.C.length cc], .slice ad fs.length cpl, .int .i64 z1]) (by simp [results, Try.results45, go_sem, r0, r1, r2, r3]) rfl ⟨_, _, m, fs, z1, rfl, trivial, ⟨ar, cr, ac, cc, rfl, ?_, ?_, HN.out⟩, ?_, hR, hC, hF, ?_⟩
    · have h := HS4.out.d.r
      refine rebase (b := w.heap.size + 1 + 1) ?_ (by omega)
      iterate 4 (refine ownsRow_setCell_below ?_ (by show w.heap.size < _; omega) _)
      exact h
    · have h := HS4.out.d.c
      refine rebase (b := w.heap.size + 1 + 1) ?_ (by omega)
      iterate 4 (refine ownsRow_setCell_below ?_ (by show w.heap.size < _; omega) _)
      exact h
    · have h := HS4.out.L
      refine rebase (b := w.heap.size + 1 + 1) ?_ (by omega)
      iterate 4 (refine ownsRow_setCell_below ?_ (by show w.heap.size < _; omega) _)
      exact h
    · iterate 4 (refine Below.setCell ?_ (by simp) _)
      exact HS4.out.d.b
  | true =>
    go_upto_region 4 with (fail)
    try rw [hB5e]
    replace HS3 := Lib.hid HS3.out.drew
    have HFc := Lib.hid (fun (wx : World) (hL : CtK.Own wx (w.heap.size + 1 + 1) (.slice ad fs.length cpl) fs) (p : Nat) (hp : p < fs.length) => (CtK.Own.row hL).cells hp)
    obtain ⟨b1, off, hadr, -, -⟩ := (CtK.Own.row HS3.out.L).cells h0
    subst hadr
    obtain ⟨p0, p1, p2, p3, -⟩ := HS3.out.d.box.four
    refine wp_region_noPanic ?_
    refine wp_region_held_drew (S := (fun Wx : World => (Wx.cell? ⟨B5, 0, none⟩ = some (.int .i64 m.W) ∧ Wx.cell? ⟨B5, 1, none⟩ = some (.int .i64 m.H) ∧ Wx.cell? ⟨B5, 2, none⟩ = some (.slice ar m.R.length cr) ∧ Wx.cell? ⟨B5, 3, none⟩ = some (.slice ac m.C.length cc)) ∧ ∀ q, q < fs.length → Wx.cell? ⟨b1, off + q * 2 + 1, none⟩ = some (.int .i64 (CtK.at_ fs q).ce))) (by kernel_rfl) ⟨⟨p0, p1, p2, p3⟩, fun q hq => by obtain ⟨b2, o2, e, -, d0⟩ := (CtK.Own.row HS3.out.L).cells hq; cases e; exact d0⟩ (fun hHeld => ?_)
    refine wpAnyH_take (i := 0) (oi := _) (v := ?_) rfl (by kernel_rfl) (by kernel_rfl) (by kernel_rfl) (fun _ _ _ h => h) (Or.inl ⟨by rfl, ?_⟩) (by assumption) ?_; rotate_left; focus (intro W hSw; (try dsimp only at hSw); go_simp; (first | done | with_reducible rfl))
    (try simp only [List.getElem_toArray, List.getElem_cons_succ, List.getElem_cons_zero, Act.put, List.setIfInBounds_toArray, List.set_cons_zero, List.set_cons_succ])
    refine wpAnyH_take (i := 1) (oi := _) (v := ?_) rfl (by kernel_rfl) (by kernel_rfl) (by kernel_rfl) (fun _ _ _ h => h) (Or.inl ⟨by rfl, ?_⟩) (by assumption) ?_; rotate_left; focus (intro W hSw; (try dsimp only at hSw); go_simp; (first | done | with_reducible rfl))
    (try simp only [List.getElem_toArray, List.getElem_cons_succ, List.getElem_cons_zero, Act.put, List.setIfInBounds_toArray, List.set_cons_zero, List.set_cons_succ])
    refine wpAnyH_take (i := 2) (oi := _) (v := ?_) rfl (by kernel_rfl) (by kernel_rfl) (by kernel_rfl) (fun _ _ _ h => h) (Or.inl ⟨by rfl, ?_⟩) (by assumption) ?_; rotate_left; focus (intro W hSw; (try dsimp only at hSw); go_simp; (first | done | with_reducible rfl))
    (try simp only [List.getElem_toArray, List.getElem_cons_succ, List.getElem_cons_zero, Act.put, List.setIfInBounds_toArray, List.set_cons_zero, List.set_cons_succ])
    refine wpAnyH_take (i := 3) (oi := _) (v := ?_) rfl (by kernel_rfl) (by kernel_rfl) (by kernel_rfl) (fun _ _ _ h => h) (Or.inl ⟨by rfl, ?_⟩) (by assumption) ?_; rotate_left; focus (intro W hSw; (try dsimp only at hSw); go_simp; (first | done | with_reducible rfl))
    (try simp only [List.getElem_toArray, List.getElem_cons_succ, List.getElem_cons_zero, Act.put, List.setIfInBounds_toArray, List.set_cons_zero, List.set_cons_succ])
    refine wpAnyH_take (i := 4) (oi := _) (v := ?_) rfl (by kernel_rfl) (by kernel_rfl) (by kernel_rfl) (fun _ _ _ h => h) (Or.inl ⟨by rfl, ?_⟩) (by assumption) ?_; rotate_left; focus (intro W hSw; (try dsimp only at hSw); go_simp; (first | done | with_reducible rfl))
    (try simp only [List.getElem_toArray, List.getElem_cons_succ, List.getElem_cons_zero, Act.put, List.setIfInBounds_toArray, List.set_cons_zero, List.set_cons_succ])
    refine wpAnyH_take (i := 5) (oi := _) (v := ?_) rfl (by kernel_rfl) (by kernel_rfl) (by kernel_rfl) (fun _ _ _ h => h) (Or.inl ⟨by rfl, ?_⟩) (by assumption) ?_; rotate_left; focus (intro W hSw; (try dsimp only at hSw); go_simp; (first | done | with_reducible rfl))
    (try simp only [List.getElem_toArray, List.getElem_cons_succ, List.getElem_cons_zero, Act.put, List.setIfInBounds_toArray, List.set_cons_zero, List.set_cons_succ])
    refine wpAnyH_ready (rs := [6]) (by kernel_rfl) (by simp) ?_
    refine AllReadyH.cons (o := _) rfl (fun K hK => ?_) AllReadyH.nil
    go_simp
    go_at_call 103
    refine (pick_any (w.heap.size + 1) 402 fs.length _ (by omega) (by omega) (by omega) HS3.out.d.ok).mono ?_
    rintro e w4 ⟨⟨p, rfl, _, hp⟩, hok, hg⟩
    have HS4 := Lib.hid (HS3.out.step hB5 hok hg)
    have hpn : p < fs.length := by omega
    clear hok hg HS3 p0 p1 p2 p3 hp
    obtain ⟨p0, p1, p2, p3, -⟩ := HS4.out.d.box.four
    go_wp2_with fail
    refine hK.out _ _ ⟨⟨p0, p1, p2, p3⟩, fun q hq => by obtain ⟨b2, o2, e, -, d0⟩ := (CtK.Own.row HS4.out.L).cells hq; cases e; exact d0⟩ (fun _ => ?_)
    clear hK K hHeld p0 p1 p2 p3
    have hp0 : (0 : Int) ≤ (p : Int) := by omega
    have hp1 : (p : Int) < (fs.length : Int) := by omega
    have hp2 : p < fs.length := hpn
    refine wpAnyH_take (i := 7) (oi := _) (v := ?_) rfl (by kernel_rfl) (by kernel_rfl) (by kernel_rfl) (fun _ _ _ h => h) (Or.inl ⟨by rfl, ?_⟩) (by assumption) ?_; rotate_left; focus (intro W hSw; (try dsimp only at hSw); go_simp; (first | done | with_reducible rfl))
    (try simp only [List.getElem_toArray, List.getElem_cons_succ, List.getElem_cons_zero, Act.put, List.setIfInBounds_toArray, List.set_cons_zero, List.set_cons_succ])
    refine wpAnyH_take (i := 8) (oi := _) (v := ?_) rfl (by kernel_rfl) (by kernel_rfl) (by kernel_rfl) (fun _ _ _ h => h) (Or.inl ⟨by rfl, ?_⟩) (by assumption) ?_; rotate_left; focus (intro W hSw; (try dsimp only at hSw); go_simp; (first | done | with_reducible rfl))
    (try simp only [List.getElem_toArray, List.getElem_cons_succ, List.getElem_cons_zero, Act.put, List.setIfInBounds_toArray, List.set_cons_zero, List.set_cons_succ])
    obtain ⟨z1, hz1⟩ : ∃ z, (CtK.at_ fs p).ce = z := ⟨_, rfl⟩
    refine wpAnyH_take (i := 9) (oi := _) (v := .int .i64 z1) rfl (by kernel_rfl) (by kernel_rfl) (by kernel_rfl) (fun _ _ _ h => h) (Or.inl ⟨by rfl, ?_⟩) (by assumption) ?_
    · intro W hSw
      have hq := hSw.2 p hpn
      rw [hz1] at hq
      clear hSw
      (try dsimp only)
      go_simp
      (first | done | with_reducible rfl)
    (try simp only [List.getElem_toArray, List.getElem_cons_succ, List.getElem_cons_zero, Act.put, List.setIfInBounds_toArray, List.set_cons_zero, List.set_cons_succ])
    obtain ⟨r0, r1, r2, r3, l0, l1, l2, l3⟩ := HS4.out.d.res.four
    have hx1 := HS4.out.d.res.lt
    have hx2 := HS4.out.d.box.lt
    refine wpAnyH_ready (rs := [10]) (by kernel_rfl) (by simp) ?_
    refine AllReadyH.cons (o := _) rfl (fun K hK => ?_) AllReadyH.nil
    go_simp
    have key : ∀ (W : World) (p : Addr) (u : Value), p.block = w.heap.size → Blk W B5 26 #[.int .i64 m.W, .int .i64 m.H, .slice ar m.R.length cr, .slice ac m.C.length cc] → Blk (W.setCell p u) B5 26 #[.int .i64 m.W, .int .i64 m.H, .slice ar m.R.length cr, .slice ac m.C.length cc] := fun W p u hp h => (Below.heap_setCell W p u B5 (by omega)).trans h
    obtain ⟨q0, q1, q2, q3, -⟩ := (key _ ⟨w.heap.size, 3, none⟩ (.slice ac m.C.length cc) rfl (key _ ⟨w.heap.size, 2, none⟩ (.slice ar m.R.length cr) rfl (key _ ⟨w.heap.size, 1, none⟩ (.int .i64 m.H) rfl (key _ ⟨w.heap.size, 0, none⟩ (.int .i64 m.W) rfl HS4.out.d.box)))).four
    clear key
    have hown5 : CtK.Own ((((w4.setCell ⟨w.heap.size, 0, none⟩ (.int .i64 m.W)).setCell ⟨w.heap.size, 1, none⟩ (.int .i64 m.H)).setCell ⟨w.heap.size, 2, none⟩ (.slice ar m.R.length cr)).setCell ⟨w.heap.size, 3, none⟩ (.slice ac m.C.length cc)) (w.heap.size + 1 + 1) (.slice (some ⟨b1, off, none⟩) fs.length cpl) fs := by
      iterate 4 (refine ownsRow_setCell_below ?_ (by show w.heap.size < _; omega) _)
      exact HS4.out.L
    refine hK.out _ _ ⟨⟨q0, q1, q2, q3⟩, fun q hq => by obtain ⟨b2, o2, e, -, d0⟩ := (CtK.Own.row hown5).cells hq; cases e; exact d0⟩ (fun _ => ?_)
    clear hK K q0 q1 q2 q3 hown5
    refine wpAnyH_take (i := 11) (oi := _) (v := ?_) rfl (by kernel_rfl) (by kernel_rfl) (by kernel_rfl) (fun _ _ _ h => h) (Or.inl ⟨by rfl, ?_⟩) (by assumption) ?_; rotate_left; focus (intro W hSw; (try dsimp only at hSw); go_simp; (first | done | with_reducible rfl))
    (try simp only [List.getElem_toArray, List.getElem_cons_succ, List.getElem_cons_zero, Act.put, List.setIfInBounds_toArray, List.set_cons_zero, List.set_cons_succ])
    refine wpAnyH_take (i := 12) (oi := _) (v := ?_) rfl (by kernel_rfl) (by kernel_rfl) (by kernel_rfl) (fun _ _ _ h => h) (Or.inl ⟨by rfl, ?_⟩) (by assumption) ?_; rotate_left; focus (intro W hSw; (try dsimp only at hSw); go_simp; (first | done | with_reducible rfl))
    (try simp only [List.getElem_toArray, List.getElem_cons_succ, List.getElem_cons_zero, Act.put, List.setIfInBounds_toArray, List.set_cons_zero, List.set_cons_succ])
    refine wpAnyH_done (by kernel_rfl) ?_ _
    refine NoPanic.normal ?_
    (try simp only [List.getElem_toArray, List.getElem_cons_succ, List.getElem_cons_zero, Act.put, List.setIfInBounds_toArray, List.set_cons_zero, List.set_cons_succ])
    go_wp2
    refine bodyPost_ret (v := .tuple #[.agg #[.int .i64 m.W, .int .i64 m.H, .slice ar m.R.length cr, .slice ac m.C.length cc], .slice (some ⟨b1, off, none⟩) fs.length cpl, .int .i64 z1]) (by simp [results, Try.results45, go_sem, r0, r1, r2, r3]) rfl ⟨_, _, m, fs, z1, rfl, trivial, ⟨ar, cr, ac, cc, rfl, ?_, ?_, HN.out⟩, ?_, hR, hC, hF, ?_⟩
    · have h := HS4.out.d.r
      refine rebase (b := w.heap.size + 1 + 1) ?_ (by omega)
      iterate 4 (refine ownsRow_setCell_below ?_ (by show w.heap.size < _; omega) _)
      exact h
    · have h := HS4.out.d.c
      refine rebase (b := w.heap.size + 1 + 1) ?_ (by omega)
      iterate 4 (refine ownsRow_setCell_below ?_ (by show w.heap.size < _; omega) _)
      exact h
    · have h := HS4.out.L
      refine rebase (b := w.heap.size + 1 + 1) ?_ (by omega)
      iterate 4 (refine ownsRow_setCell_below ?_ (by show w.heap.size < _; omega) _)
      exact h
    · iterate 4 (refine Below.setCell ?_ (by simp) _)
      exact HS4.out.d.b

set_option maxHeartbeats 2000000 in
theorem drawFreeCode (a : Option Addr) (n cap : Nat) (xs : Nat → Nat) (w : World) (hc : Bytes w a n xs) :
    Calls Try.prog 47 #[.slice a n cap] w (DP0 w) := by
  have HB := Lib.hid ((Below.refl w.heap.size w).alloc (Nat.le_refl _) (.cells #[.int .i64 0, .int .i64 0, .slice none 0 0, .slice none 0 0] 26))
  have HQ0 := Lib.hid (Blk.new w 26 #[.int .i64 0, .int .i64 0, .slice none 0 0, .slice none 0 0])
  have c1 := Lib.hid (drawAreControls a n cap xs _ (hc.below HB.out))
  clear hc
  go_enter Try.func47, Try.ntmps47
  go_wp2_with fail
  refine c1.out.mono ?_
  rintro e w1 ⟨v, lv, m, fs, rfl, ho, hL, hR, hC, hF, hb⟩
  obtain ⟨ar, cr, ac, cc, rfl, h1, h2, hne⟩ := ho
  rw [World.size_alloc] at h1 h2 hL
  have HQ1 := Lib.hid (HQ0.out.later hb)
  have HB1 := Lib.hid (HB.out.trans (hb.mono (by simp)))
  have H1 := Lib.hid h1
  have H2 := Lib.hid h2
  have H3 := Lib.hid hL
  have HN := Lib.hid hne
  clear h1 h2 hL hne hb HB HQ0
  obtain ⟨r0, r1, r2, r3, l0, l1, l2, l3⟩ := HQ1.out.four
  have hx1 := HQ1.out.lt
  go_wp2
  refine bodyPost_ret (v := .tuple #[.agg #[.int .i64 m.W, .int .i64 m.H, .slice ar m.R.length cr, .slice ac m.C.length cc], lv]) (by simp [results, Try.results47, go_sem, r0, r1, r2, r3]) rfl ⟨_, _, m, fs, rfl, ⟨ar, cr, ac, cc, rfl, ?_, ?_, HN.out⟩, ?_, hR, hC, hF, ?_⟩
  · have h := H1.out
    refine rebase (b := w.heap.size + 1) ?_ (by omega)
    iterate 4 (refine ownsRow_setCell_below ?_ (by show w.heap.size < _; omega) _)
    exact h
  · have h := H2.out
    refine rebase (b := w.heap.size + 1) ?_ (by omega)
    iterate 4 (refine ownsRow_setCell_below ?_ (by show w.heap.size < _; omega) _)
    exact h
  · have h := H3.out
    refine rebase (b := w.heap.size + 1) ?_ (by omega)
    iterate 4 (refine ownsRow_setCell_below ?_ (by show w.heap.size < _; omega) _)
    exact h
  · iterate 4 (refine Below.setCell ?_ (by simp) _)
    exact HB1.out

end Go.Proofs.Ytfpfnnindlfgfaa.CtDx

namespace Go.Proofs.Ytfpfnnindlfgfaa.CoX
open Go.RowKit Lb Bk
set_option linter.unusedSimpArgs false
set_option linter.unusedVariables false

set_option maxHeartbeats 2000000 in
theorem ctl_same (a b : Option Addr) (cap cap' : Nat) (fs : List Ct) (w : World) (hr : CtK.Row w a fs) (hr' : CtK.Row w b fs) (hl : fs.length ≤ 1000000) :
    Calls Try.prog 35 #[.slice a fs.length cap, .slice b fs.length cap'] w fun e w' => e = .returned (.bool true) ∧ Below w.heap.size w w' := by
  have H := Lib.hid hr
  have H' := Lib.hid hr'
  obtain ⟨n, hn⟩ : ∃ n, fs.length = n := ⟨_, rfl⟩
  have HN := Lib.hid hn
  rw [hn] at hl ⊢
  clear hr hr' hn
  go_enter Try.func35, Try.ntmps35
  go_wp2
  go_loopw [5] (fun i wr => ∃ k : Nat, k ≤ n ∧ i = .int .i64 k ∧ Below w.heap.size w wr) (fun i _ => n - (intOf i).toNat)
  case atStart => exact ⟨0, Nat.zero_le _, rfl, Below.refl _ _⟩
  case round =>
    obtain ⟨k, hk, rfl, hb⟩ := hrel
    have HB := Lib.hid hb
    clear hb
    by_cases hlt : k < n
    · obtain ⟨b1, o1, rfl, c0, c1⟩ := (H.out.later HB.out).cells (i := k) (by rw [HN.out]; exact hlt)
      obtain ⟨b2, o2, rfl, d0, d1⟩ := (H'.out.later HB.out).cells (i := k) (by rw [HN.out]; exact hlt)
      obtain ⟨x, hx⟩ : ∃ x, (CtK.at_ fs k).co = x := ⟨_, rfl⟩
      obtain ⟨y, hy⟩ : ∃ x, (CtK.at_ fs k).ce = x := ⟨_, rfl⟩
      rw [hx] at c0 d0
      rw [hy] at c1 d1
      have hk0 : (0 : Int) ≤ (k : Int) := by omega
      have hk1 : (k : Int) < (n : Int) := by omega
      clear hx hy
      go_wp2
      go_quiet (fail)
      go_wp2
      go_roundw
      case rel => exact ⟨k + 1, by omega, by go_num, below_drewN HB.out _⟩
      case measure => simp [intOf]; omega
    · obtain rfl : k = n := by omega
      go_wp2
      go_ret
      exact ⟨rfl, HB.out⟩

set_option maxRecDepth 4000 in
theorem eq_arrd (d : Nat) (x y : Int) (w : World) : (Op.equalIn (d + 1 + 1) 59 (.agg #[.int .i64 x, .int .i64 y]) (.agg #[.int .i64 x, .int .i64 y])).run Try.prog w = .ok true w := by
  have hs : Sem.run Try.prog (Go.sizeOf 3) w = .ok 1 w := by
    obtain ⟨i0, hi, hz0, hz1, hz2⟩ := info_parts (show (Try.prog.info? 3).map (fun i => (i.zero, i.size, i.bytes)) = some (some (.int .i64 0), 1, 8) by kernel_rfl)
    simp [Go.sizeOf, typeInfo, hi, hz1]
  have hi := run_equalIn_int (P := Try.prog) w d 3 .i64 .i64 x x Try.underlying3
  have hj := run_equalIn_int (P := Try.prog) w d 3 .i64 .i64 y y Try.underlying3
  have hp1 : (Sem.run Try.prog (part 3 #[.int .i64 x, .int .i64 y] 0) w) = .ok (.int .i64 x) w := by simp [part]
  have hp2 : (Sem.run Try.prog (part 3 #[.int .i64 x, .int .i64 y] 1) w) = .ok (.int .i64 y) w := by simp [part]
  rw [Op.equalIn]
  simp only [Sem.run_bind, run_underlying Try.underlying59, Result.andThen_ok, hs]
  simp [Std.Legacy.Range.forIn_eq_forIn_range', Std.Legacy.Range.size, List.range', hp1, hp2, hi, hj]
theorem neq_arr (x y : Int) (w : World) : (binOp .neq 59 (.agg #[.int .i64 x, .int .i64 y]) (.agg #[.int .i64 x, .int .i64 y])).run Try.prog w = .ok (.bool false) w := by
  rw [run_neq_struct, show (10000 : Nat) = 9998 + 1 + 1 from rfl, eq_arrd]
  rfl

set_option maxHeartbeats 2000000 in
theorem prs_same (a b : Option Addr) (cap cap' : Nat) (fs : List Pr) (w : World) (hr : PrK.Row w a fs) (hr' : PrK.Row w b fs) (hl : fs.length ≤ 1000000) :
    Calls Try.prog 52 #[.slice a fs.length cap, .slice b fs.length cap'] w fun e w' => e = .returned (.bool true) ∧ Below w.heap.size w w' := by
  have H := Lib.hid hr
  have H' := Lib.hid hr'
  obtain ⟨n, hn⟩ : ∃ n, fs.length = n := ⟨_, rfl⟩
  have HN := Lib.hid hn
  rw [hn] at hl ⊢
  clear hr hr' hn
  go_enter Try.func52, Try.ntmps52
  go_wp2
  go_loopw [5] (fun i wr => ∃ k : Nat, k ≤ n ∧ i = .int .i64 k ∧ Below w.heap.size w wr) (fun i _ => n - (intOf i).toNat)
  case atStart => exact ⟨0, Nat.zero_le _, rfl, Below.refl _ _⟩
  case round =>
    obtain ⟨k, hk, rfl, hb⟩ := hrel
    have HB := Lib.hid hb
    clear hb
    by_cases hlt : k < n
    · obtain ⟨b1, o1, rfl, c0, c1⟩ := (H.out.later HB.out).cells (i := k) (by rw [HN.out]; exact hlt)
      obtain ⟨b2, o2, rfl, d0, d1⟩ := (H'.out.later HB.out).cells (i := k) (by rw [HN.out]; exact hlt)
      obtain ⟨x, hx⟩ : ∃ x, (PrK.at_ fs k).a = x := ⟨_, rfl⟩
      obtain ⟨y, hy⟩ : ∃ x, (PrK.at_ fs k).b = x := ⟨_, rfl⟩
      rw [hx] at c0 d0
      rw [hy] at c1 d1
      have hk0 : (0 : Int) ≤ (k : Int) := by omega
      have hk1 : (k : Int) < (n : Int) := by omega
      clear hx hy
      have qn := neq_arr x y
      have qe : (Op.equalIn 10000 59 (.agg #[.int .i64 x, .int .i64 y]) (.agg #[.int .i64 x, .int .i64 y])) = Op.equalIn (9998 + 1 + 1) 59 (.agg #[.int .i64 x, .int .i64 y]) (.agg #[.int .i64 x, .int .i64 y]) := rfl
      have qf : ∀ w : World, (Op.equalIn 10000 59 (.agg #[.int .i64 x, .int .i64 y]) (.agg #[.int .i64 x, .int .i64 y])).run Try.prog w = .ok true w := fun w => by rw [qe]; exact eq_arrd 9998 x y w
      clear qe
      go_wp2
      go_quiet (fail)
      go_wp2
      go_roundw
      case rel => exact ⟨k + 1, by omega, by go_num, below_drewN HB.out _⟩
      case measure => simp [intOf]; omega
    · obtain rfl : k = n := by omega
      go_wp2
      go_ret
      exact ⟨rfl, HB.out⟩

end Go.Proofs.Ytfpfnnindlfgfaa.CoX

namespace Go.Proofs.Ytfpfnnindlfgfaa.CoY
open Go.RowKit Lb CtK CoM CoP CoF CoC CoB CoV CoR
set_option linter.unusedSimpArgs false
set_option linter.unusedVariables false

theorem set_same {cs : List Ct} {k : Nat} (x : Ct) (h : k < cs.length) : at_ (cs.set k x) k = x := by
  unfold at_
  rw [List.getD_eq_getElem?_getD, List.getElem?_set_self h]
  rfl
theorem at_ext {cs ds : List Ct} (hl : cs.length = ds.length) (h : ∀ i, i < cs.length → at_ cs i = at_ ds i) : cs = ds := by
  apply List.ext_getElem hl
  intro i h1 h2
  have := h i h1
  rwa [at_lt h1, at_lt h2] at this
/-- What holds of a list of which one has been moved. -/
theorem move_back {m : Mp} {cs : List Ct} {x c : Int} (h : mvO m cs x c = true) :
    ccB m cs x = true ∧ mvO m (mvL m cs x c) x (ccZ m cs x) = true ∧ mvL m (mvL m cs x c) x (ccZ m cs x) = cs ∧ caB m (mvL m cs x c) c = true ∧ caZ m (mvL m cs x c) c = x := by
  have hL : mvL m cs x c = mvS cs x c := by unfold mvL; rw [h]; rfl
  have h' := h
  unfold mvO at h'
  rw [Bool.and_eq_true, Bool.and_eq_true] at h'
  obtain ⟨hg, h0, hg2⟩ := h'
  rcases fi_cases cs x with hf | ⟨k, hf, hk, hc⟩
  · rw [hf] at h0; exact absurd (of_decide_eq_true h0) (by omega)
  have hS := mv_at (c := c) hf
  have hcc : ccB m cs x = true := by unfold ccB; rw [hg, hf]; simp
  have hcz : ccZ m cs x = (at_ cs k).ce := by unfold ccZ; rw [hcc, hf]; rfl
  rw [hL, hS, hcz]
  rw [hS] at hg2
  have hasc := good_asc hg
  have hf2 : fiZ (cs.set k ⟨x, c⟩) x = (k : Int) := by
    refine fi_at (by rw [List.length_set]; exact hk) (fun j hj => ?_) (by rw [set_same _ hk])
    rw [set_at _ (show k ≠ j by omega)]
    have := hasc.lt hj hk
    omega
  have hback : (cs.set k ⟨x, c⟩).set k ⟨x, (at_ cs k).ce⟩ = cs := by
    rw [List.set_set]
    refine at_ext (List.length_set) (fun i hi => ?_)
    rw [List.length_set] at hi
    by_cases e : k = i
    · subst e
      rw [set_same _ hk, ← hc]
    · rw [set_at _ e]
  have hS2 : mvS (cs.set k ⟨x, c⟩) x (at_ cs k).ce = cs := by rw [mv_at hf2, hback]
  have hO2 : mvO m (cs.set k ⟨x, c⟩) x (at_ cs k).ce = true := by unfold mvO; rw [hg2, hS2, hg, hf2]; simp
  have hca := ca_at (c := c) hg2 (k := k) (by rw [List.length_set]; exact hk) (fun j hj e => by
    have hne := good_ne hg2 (show k < (cs.set k ⟨x, c⟩).length by rw [List.length_set]; exact hk) hj
    rw [set_same _ hk] at hne
    exact hne e) (by rw [set_same _ hk])
  rw [set_same _ hk] at hca
  exact ⟨hcc, hO2, by unfold mvL; rw [hO2, hS2]; rfl, hca.1, hca.2⟩

theorem rs_ins {rs : List Ct} {y : Ct} : rsT (insR rs y) (pl rs y.co) = rs := by
  unfold rsT insR
  have hk := pl_le rs y.co
  have h1 : (rs.take (pl rs y.co)).length = pl rs y.co := by rw [List.length_take]; omega
  rw [List.append_assoc, List.take_append_of_le_length (by omega), List.take_of_length_le (by omega)]
  have h2 : (rs.take (pl rs y.co) ++ ([y] ++ rs.drop (pl rs y.co))).drop (pl rs y.co + 1) = rs.drop (pl rs y.co) := by
    rw [List.drop_append, h1, show pl rs y.co + 1 - pl rs y.co = 1 by omega, List.drop_of_length_le (by omega)]
    rfl
  rw [h2, List.take_append_drop]
theorem ins_at {rs : List Ct} {y : Ct} : at_ (insR rs y) (pl rs y.co) = y := by
  have hk := pl_le rs y.co
  have h1 : (rs.take (pl rs y.co)).length = pl rs y.co := by rw [List.length_take]; omega
  unfold insR at_
  rw [List.append_assoc, List.getD_eq_getElem?_getD, List.getElem?_append_right (by omega), h1, Nat.sub_self]
  rfl
theorem ins_lt {rs : List Ct} {y : Ct} {j : Nat} (h : j < pl rs y.co) : at_ (insR rs y) j = at_ rs j := by
  have hk := pl_le rs y.co
  unfold insR at_
  rw [List.append_assoc, List.getD_eq_getElem?_getD, List.getElem?_append_left (by rw [List.length_take]; omega), List.getElem?_take_of_lt h, List.getD_eq_getElem?_getD]
theorem ins_back {cs : List Ct} {k : Nat} (h : Asc cs) (hk : k < cs.length) : insR (rsT cs k) (at_ cs k) = cs := by
  have hp : pl (rsT cs k) (at_ cs k).co = k := by
    have hA := rs_asc h hk
    refine ((plc_pl hA (at_ cs k).co).unique (by rw [rs_len rfl hk]; omega) (fun t ht => ?_) (fun t h1 h2 => ?_)).symm
    · rw [rs_at hk, if_pos ht]
      exact h.lt ht hk
    · rw [rs_len rfl hk] at h2
      rw [rs_at hk, if_neg (by omega)]
      have := h.lt (show k < t + 1 by omega) (by omega)
      omega
  unfold insR
  rw [hp]
  have h1 : (cs.take k).length = k := by rw [List.length_take]; omega
  unfold rsT
  rw [List.take_append_of_le_length (by omega), List.take_of_length_le (by omega), List.drop_append, List.drop_of_length_le (by omega), h1, Nat.sub_self, List.drop_zero, List.nil_append, List.append_assoc, at_lt hk]
  show cs.take k ++ (cs[k] :: cs.drop (k + 1)) = cs
  rw [← List.drop_eq_getElem_cons hk, List.take_append_drop]
/-- What holds of a list of which one has been recoded. -/
theorem recode_back {m : Mp} {cs : List Ct} {x y : Int} (h : rcO m cs x y = true) :
    ccB m cs x = true ∧ ccB m (rcL m cs x y) y = true ∧ ccZ m (rcL m cs x y) y = ccZ m cs x ∧ rcO m (rcL m cs x y) y x = true ∧ rcL m (rcL m cs x y) y x = cs := by
  have hL : rcL m cs x y = rcS cs x y := by unfold rcL; rw [h]; rfl
  have h' := h
  unfold rcO at h'
  rw [Bool.and_eq_true, Bool.and_eq_true] at h'
  obtain ⟨hg, h0, hg2⟩ := h'
  rcases fi_cases cs x with hf | ⟨k, hf, hk, hc⟩
  · rw [hf] at h0; exact absurd (of_decide_eq_true h0) (by omega)
  have hasc := good_asc hg
  obtain ⟨e, he⟩ : ∃ e : Ct, e = ⟨y, (at_ cs k).ce⟩ := ⟨_, rfl⟩
  have hy : e.co = y := by rw [he]
  have hce : e.ce = (at_ cs k).ce := by rw [he]
  have hS : rcS cs x y = insR (rsT cs k) e := by rw [← hy]; exact rc_at hf hce
  have hcc : ccB m cs x = true := by unfold ccB; rw [hg, hf]; simp
  have hcz : ccZ m cs x = (at_ cs k).ce := by unfold ccZ; rw [hcc, hf]; rfl
  rw [hS] at hg2
  rw [hL, hS, hcz]
  have hA := rs_asc hasc hk
  have hPl := plc_pl hA e.co
  have hlen := ins_len (rsT cs k) e
  have hle := pl_le (rsT cs k) e.co
  have hf2 : fiZ (insR (rsT cs k) e) y = ((pl (rsT cs k) e.co : Nat) : Int) := by
    refine fi_at (by omega) (fun j hj => ?_) (by rw [ins_at]; exact hy)
    rw [ins_lt hj]
    have := hPl.2.1 j hj
    omega
  have hcc2 : ccB m (insR (rsT cs k) e) y = true := by unfold ccB; rw [hg2, hf2]; simp
  have hcz2 : ccZ m (insR (rsT cs k) e) y = (at_ cs k).ce := by
    unfold ccZ
    rw [hcc2, hf2]
    show (at_ (insR (rsT cs k) e) (pl (rsT cs k) e.co)).ce = _
    rw [ins_at, hce]
  have hS2 : rcS (insR (rsT cs k) e) y x = cs := by
    rw [← hc]
    rw [rc_at (y := at_ cs k) hf2 (by rw [ins_at, hce]), rs_ins]
    exact ins_back hasc hk
  have hO2 : rcO m (insR (rsT cs k) e) y x = true := by unfold rcO; rw [hg2, hS2, hg, hf2]; simp
  exact ⟨hcc, hcc2, hcz2, hO2, by unfold rcL; rw [hO2, hS2]; rfl⟩

end Go.Proofs.Ytfpfnnindlfgfaa.CoY

namespace Go.Proofs.Ytfpfnnindlfgfaa.CoW
open Go.RowKit Lb Cur IntS MapS CodM CoM CoC CoF CoV CoR CoY
set_option linter.unusedSimpArgs false
set_option linter.unusedVariables false

/-- A map in its box, and a list of controls. -/
structure Cx (m : Mp) (a : Option Addr) (ca : Nat) (b : Option Addr) (cb B : Nat) (ad : Option Addr) (fs : List Ct) (wx : World) : Prop where
  x : Blk wx B 26 #[.int .i64 m.W, .int .i64 m.H, .slice a m.R.length ca, .slice b m.C.length cb]
  r : IRow wx a m.R
  c : IRow wx b m.C
  l : CtK.Row wx ad fs
section
variable {m : Mp} {a b ad : Option Addr} {ca cb B : Nat} {fs : List Ct} {w wx w' W : World}
theorem Cx.later (h : Cx m a ca b cb B ad fs wx) (hb : Below wx.heap.size wx w') : Cx m a ca b cb B ad fs w' := ⟨h.x.later hb, RowAt.below h.r hb, RowAt.below h.c hb, h.l.later hb⟩
theorem Cx.drew (h : Cx m a ca b cb B ad fs wx) : Cx m a ca b cb B ad fs wx.drew := h.later (Below.refl _ _).drew
theorem Cx.new (hr : IRow w a m.R) (hc : IRow w b m.C) (hl : CtK.Row w ad fs) : Cx m a ca b cb w.heap.size ad fs (w.alloc (.cells #[.int .i64 m.W, .int .i64 m.H, .slice a m.R.length ca, .slice b m.C.length cb] 26)) :=
  ⟨Blk.new _ _ _, RowAt.below hr ((Below.refl _ _).alloc (Nat.le_refl _) _), RowAt.below hc ((Below.refl _ _).alloc (Nat.le_refl _) _), hl.later ((Below.refl _ _).alloc (Nat.le_refl _) _)⟩
theorem Cx.rd (h : Cx m a ca b cb B ad fs wx) : Rd m fs a b ad wx := ⟨h.r, h.c, h.l⟩
theorem Cx.rd2 {ad' : Option Addr} {gs : List Ct} (h : Cx m a ca b cb B ad fs wx) (hl : CtK.Row wx ad' gs) : Rd m gs a b ad' wx := ⟨h.r, h.c, hl⟩
theorem nxt (h : Below W.heap.size W w) (hb : Below w.heap.size w w') : Below W.heap.size W w' := h.trans (hb.mono h.size)
theorem al (h : Below W.heap.size W w) (o : Obj) : Below W.heap.size W (w.alloc o) := h.alloc h.size o
end

theorem spec_are (m : Mp) (cs : List Ct) (hl : cs.length ≤ 1048576) (hR : m.R.length ≤ maxLen) (hC : m.C.length ≤ maxLen) (a b : Option Addr) (ca cb : Nat) (ad : Option Addr) (cap : Nat) (w : World) (h : Rd m cs a b ad w) :
    Calls Try.prog 37 #[.agg #[.int .i64 m.W, .int .i64 m.H, .slice a m.R.length ca, .slice b m.C.length cb], .slice ad cs.length cap] w fun e w' => e = .returned (.bool (goodB m cs)) ∧ Below w.heap.size w w' := by
  have HB := Lib.hid ((Below.refl w.heap.size w).alloc (Nat.le_refl _) (.cells #[.int .i64 m.W, .int .i64 m.H, .slice a m.R.length ca, .slice b m.C.length cb] 26))
  have c1 := Lib.hid (spec_good m cs hl hR hC a b ca cb ad cap _ (h.later HB.out))
  clear h
  go_enter Try.func37, Try.ntmps37
  go_wp2_with fail
  refine c1.out.mono ?_
  rintro e w1 ⟨rfl, hb⟩
  have HB1 := Lib.hid (HB.out.trans (hb.mono (by simp)))
  clear hb
  go_wp2
  go_ret
  exact ⟨rfl, HB1.out⟩

set_option maxRecDepth 100000 in
set_option maxHeartbeats 16000000 in
theorem law_any (W : World) (a : Option Addr) (n cap : Nat) (xs : Nat → Nat) (hc : Bytes W a n xs) :
    Calls Try.prog 4 #[.slice a n cap] W fun e w' => e = .returned (.bool true) ∧ Below W.heap.size W w' := by
  by_cases hbig : 65536 < n
  · have hbi : (65536 : Int) < (n : Int) := by omega
    go_enter Try.func4, Try.ntmps4
    go_wp2_with (go_at_call 15; go_in)
    go_ret
    exact ⟨rfl, Below.refl _ _⟩
  have HCo := Lib.hid (show ∀ w' : World, Below W.heap.size W w' → Bytes w' a n xs from fun w' h => hc.below h)
  have HB := Lib.hid (Below.refl W.heap.size W)
  have hbi : ¬ (65536 : Int) < (n : Int) := by omega
  clear hc hbig
  go_enter Try.func4, Try.ntmps4
  go_wp2_with (go_at_call 15; go_in)
  refine (CtDw.drawMoveControl a n cap xs _ (HCo.out _ HB.out)).mono ?_
  rintro e w1 ⟨v, lv, m1, fs1, x1, y1, rfl, ho, hL, hR1, hC1, hF1, hb⟩
  obtain ⟨ar1, cr1, ac1, cc1, rfl, h1, h2, -⟩ := ho
  obtain ⟨ad1, cp1, rfl, hl, -⟩ := hL.slice
  have hcp1 := hL.le
  replace HB := Lib.hid (nxt HB.out hb)
  have hA : Below w1.heap.size w1 (w1.alloc (.cells #[.int .i64 m1.W, .int .i64 m1.H, .slice ar1 m1.R.length cr1, .slice ac1 m1.C.length cc1] 26)) := (Below.refl _ _).alloc (Nat.le_refl _) _
  replace HB := Lib.hid (nxt HB.out hA)
  obtain ⟨B1, hB1⟩ : ∃ B, w1.heap.size = B := ⟨_, rfl⟩
  have M1 := Lib.hid (Cx.new (ca := cr1) (cb := cc1) (OwnI.row h1) (OwnI.row h2) hl)
  rw [hB1] at M1
  clear hA hb h1 h2 hl hL
  have hRm1 : m1.R.length ≤ maxLen := by unfold maxLen; omega
  have hCm1 : m1.C.length ≤ maxLen := by unfold maxLen; omega
  have hfl1 : fs1.length ≤ 1048576 := by omega
  have hfm1 : fs1.length ≤ 1000000 := by omega
  obtain ⟨u1, hu1⟩ : ∃ x, mvL m1 fs1 x1 y1 = x := ⟨_, rfl⟩
  obtain ⟨o1, ho1⟩ : ∃ x, mvO m1 fs1 x1 y1 = x := ⟨_, rfl⟩
  have hul1 : u1.length ≤ 11 := by rw [← hu1]; exact Nat.le_trans (mv_len m1 fs1 x1 y1) hF1
  have cI := Lib.hid (fun w h => hu1 ▸ ho1 ▸ move_impl m1 fs1 hfl1 hRm1 hCm1 x1 y1 ar1 ac1 cr1 cc1 ad1 cp1 w h)
  have cS := Lib.hid (fun w h => hu1 ▸ ho1 ▸ move_spec m1 fs1 hfl1 hRm1 hCm1 x1 y1 ar1 ac1 cr1 cc1 ad1 cp1 w h)
  have HU1 := Lib.hid hu1
  have HO1 := Lib.hid ho1
  clear hu1 ho1
  obtain ⟨p0, p1, p2, p3, -⟩ := MapS.Blk.four M1.out.x
  go_wp2_with fail
  refine (cI.out _ M1.out.rd).mono ?_
  rintro e w1 ⟨v, rfl, ho, hb⟩
  clear p0 p1 p2 p3
  replace HB := Lib.hid (nxt HB.out hb)
  replace M1 := Lib.hid (M1.out.later hb)
  obtain ⟨i1a, i1c, rfl, hrr, -⟩ := ho.slice
  have i1h := Lib.hid ho.le
  have i1R := Lib.hid hrr
  clear ho hrr
  clear hb
  obtain ⟨p0, p1, p2, p3, -⟩ := MapS.Blk.four M1.out.x
  go_wp2_with fail
  refine (cS.out _ M1.out.rd).mono ?_
  rintro e w1 ⟨v, rfl, ho, hb⟩
  clear p0 p1 p2 p3
  replace HB := Lib.hid (nxt HB.out hb)
  replace M1 := Lib.hid (M1.out.later hb)
  replace i1R := Lib.hid (i1R.out.later hb)
  obtain ⟨s1a, s1c, rfl, hrr, -⟩ := ho.slice
  have s1h := Lib.hid ho.le
  have s1R := Lib.hid hrr
  clear ho hrr
  clear hb
  clear cI cS
  have e7 : (o1 != o1) = false := by simp
  obtain ⟨gd, hgd⟩ : ∃ x, goodB m1 fs1 = x := ⟨_, rfl⟩
  have cI := Lib.hid (fun w h => hgd ▸ impl_good m1 fs1 hfl1 hRm1 hCm1 ar1 ac1 cr1 cc1 ad1 cp1 w h)
  have e8 : (gd != gd) = false := by simp
  have cS := Lib.hid (show ∀ w, Rd m1 fs1 ar1 ac1 ad1 w → Calls Try.prog 37 #[.agg #[.int .i64 m1.W, .int .i64 m1.H, .slice ar1 m1.R.length cr1, .slice ac1 m1.C.length cc1], .slice ad1 fs1.length cp1] w fun e w' => e = .returned (.bool gd) ∧ Below w.heap.size w w' from fun w h => hgd ▸ spec_are m1 fs1 hfl1 hRm1 hCm1 ar1 ac1 cr1 cc1 ad1 cp1 w h)
  clear hgd
  go_upto_region 6 with (fail)
  try rw [hB1]
  obtain ⟨p0, p1, p2, p3, -⟩ := MapS.Blk.four M1.out.x
  refine wp_region_noPanic ?_
  refine wp_region_held_drew (S := (fun Wx : World => Wx.cell? ⟨B1, 0, none⟩ = some (.int .i64 m1.W) ∧ Wx.cell? ⟨B1, 1, none⟩ = some (.int .i64 m1.H) ∧ Wx.cell? ⟨B1, 2, none⟩ = some (.slice ar1 m1.R.length cr1) ∧ Wx.cell? ⟨B1, 3, none⟩ = some (.slice ac1 m1.C.length cc1))) (by kernel_rfl) ⟨p0, p1, p2, p3⟩ (fun hHeld => ?_)
  replace HB := Lib.hid (show Below W.heap.size W (World.drew _) from HB.out.drew)
  replace M1 := Lib.hid (M1.out.drew)
  replace i1R := Lib.hid (i1R.out.drew)
  replace s1R := Lib.hid (s1R.out.drew)
  refine wpAnyH_take (i := 0) (oi := _) (v := ?_) rfl (by kernel_rfl) (by kernel_rfl) (by kernel_rfl) (fun _ _ _ h => h) (Or.inl ⟨by rfl, ?_⟩) (by assumption) ?_; rotate_left; focus (intro W hSw; (try dsimp only at hSw); go_simp; (first | done | with_reducible rfl))
  (try simp only [List.getElem_toArray, List.getElem_cons_succ, List.getElem_cons_zero, Act.put, List.setIfInBounds_toArray, List.set_cons_zero, List.set_cons_succ])
  refine wpAnyH_take (i := 1) (oi := _) (v := ?_) rfl (by kernel_rfl) (by kernel_rfl) (by kernel_rfl) (fun _ _ _ h => h) (Or.inl ⟨by rfl, ?_⟩) (by assumption) ?_; rotate_left; focus (intro W hSw; (try dsimp only at hSw); go_simp; (first | done | with_reducible rfl))
  (try simp only [List.getElem_toArray, List.getElem_cons_succ, List.getElem_cons_zero, Act.put, List.setIfInBounds_toArray, List.set_cons_zero, List.set_cons_succ])
  refine wpAnyH_take (i := 2) (oi := _) (v := ?_) rfl (by kernel_rfl) (by kernel_rfl) (by kernel_rfl) (fun _ _ _ h => h) (Or.inl ⟨by rfl, ?_⟩) (by assumption) ?_; rotate_left; focus (intro W hSw; (try dsimp only at hSw); go_simp; (first | done | with_reducible rfl))
  (try simp only [List.getElem_toArray, List.getElem_cons_succ, List.getElem_cons_zero, Act.put, List.setIfInBounds_toArray, List.set_cons_zero, List.set_cons_succ])
  refine wpAnyH_take (i := 3) (oi := _) (v := ?_) rfl (by kernel_rfl) (by kernel_rfl) (by kernel_rfl) (fun _ _ _ h => h) (Or.inl ⟨by rfl, ?_⟩) (by assumption) ?_; rotate_left; focus (intro W hSw; (try dsimp only at hSw); go_simp; (first | done | with_reducible rfl))
  (try simp only [List.getElem_toArray, List.getElem_cons_succ, List.getElem_cons_zero, Act.put, List.setIfInBounds_toArray, List.set_cons_zero, List.set_cons_succ])
  refine wpAnyH_take (i := 4) (oi := _) (v := ?_) rfl (by kernel_rfl) (by kernel_rfl) (by kernel_rfl) (fun _ _ _ h => h) (Or.inl ⟨by rfl, ?_⟩) (by assumption) ?_; rotate_left; focus (intro W hSw; (try dsimp only at hSw); go_simp; (first | done | with_reducible rfl))
  (try simp only [List.getElem_toArray, List.getElem_cons_succ, List.getElem_cons_zero, Act.put, List.setIfInBounds_toArray, List.set_cons_zero, List.set_cons_succ])
  refine wpAnyH_take (i := 5) (oi := _) (v := ?_) rfl (by kernel_rfl) (by kernel_rfl) (by kernel_rfl) (fun _ _ _ h => h) (Or.inl ⟨by rfl, ?_⟩) (by assumption) ?_; rotate_left; focus (intro W hSw; (try dsimp only at hSw); go_simp; (first | done | with_reducible rfl))
  (try simp only [List.getElem_toArray, List.getElem_cons_succ, List.getElem_cons_zero, Act.put, List.setIfInBounds_toArray, List.set_cons_zero, List.set_cons_succ])
  refine wpAnyH_ready (rs := [6]) (by kernel_rfl) (by simp) ?_
  refine AllReadyH.cons (o := _) rfl (fun K hK => ?_) AllReadyH.nil
  go_simp
  go_at_call 35
  refine (CoX.ctl_same _ _ _ _ u1 _ i1R.out s1R.out (by omega)).mono ?_
  rintro e w1 ⟨rfl, hb⟩
  clear p0 p1 p2 p3
  replace HB := Lib.hid (nxt HB.out hb)
  replace M1 := Lib.hid (M1.out.later hb)
  replace i1R := Lib.hid (i1R.out.later hb)
  replace s1R := Lib.hid (s1R.out.later hb)
  clear hb
  obtain ⟨p0, p1, p2, p3, -⟩ := MapS.Blk.four M1.out.x
  go_wp2_with fail
  refine hK.out _ _ ⟨p0, p1, p2, p3⟩ (fun hsA => ?_)
  clear hK K hHeld
  refine wpAnyH_take (i := 7) (oi := _) (v := ?_) rfl (by kernel_rfl) (by kernel_rfl) (by kernel_rfl) (fun _ _ _ h => h) (Or.inl ⟨by rfl, ?_⟩) (by assumption) ?_; rotate_left; focus (intro W hSw; (try dsimp only at hSw); go_simp; (first | done | with_reducible rfl))
  (try simp only [List.getElem_toArray, List.getElem_cons_succ, List.getElem_cons_zero, Act.put, List.setIfInBounds_toArray, List.set_cons_zero, List.set_cons_succ])
  refine wpAnyH_take (i := 8) (oi := _) (v := ?_) rfl (by kernel_rfl) (by kernel_rfl) (by kernel_rfl) (fun _ _ _ h => h) (Or.inl ⟨by rfl, ?_⟩) (by assumption) ?_; rotate_left; focus (intro W hSw; (try dsimp only at hSw); go_simp; (first | done | with_reducible rfl))
  (try simp only [List.getElem_toArray, List.getElem_cons_succ, List.getElem_cons_zero, Act.put, List.setIfInBounds_toArray, List.set_cons_zero, List.set_cons_succ])
  refine wpAnyH_take (i := 9) (oi := _) (v := ?_) rfl (by kernel_rfl) (by kernel_rfl) (by kernel_rfl) (fun _ _ _ h => h) (Or.inl ⟨by rfl, ?_⟩) (by assumption) ?_; rotate_left; focus (intro W hSw; (try dsimp only at hSw); go_simp; (first | done | with_reducible rfl))
  (try simp only [List.getElem_toArray, List.getElem_cons_succ, List.getElem_cons_zero, Act.put, List.setIfInBounds_toArray, List.set_cons_zero, List.set_cons_succ])
  refine wpAnyH_take (i := 10) (oi := _) (v := ?_) rfl (by kernel_rfl) (by kernel_rfl) (by kernel_rfl) (fun _ _ _ h => h) (Or.inl ⟨by rfl, ?_⟩) (by assumption) ?_; rotate_left; focus (intro W hSw; (try dsimp only at hSw); go_simp; (first | done | with_reducible rfl))
  (try simp only [List.getElem_toArray, List.getElem_cons_succ, List.getElem_cons_zero, Act.put, List.setIfInBounds_toArray, List.set_cons_zero, List.set_cons_succ])
  refine wpAnyH_take (i := 11) (oi := _) (v := ?_) rfl (by kernel_rfl) (by kernel_rfl) (by kernel_rfl) (fun _ _ _ h => h) (Or.inl ⟨by rfl, ?_⟩) (by assumption) ?_; rotate_left; focus (intro W hSw; (try dsimp only at hSw); go_simp; (first | done | with_reducible rfl))
  (try simp only [List.getElem_toArray, List.getElem_cons_succ, List.getElem_cons_zero, Act.put, List.setIfInBounds_toArray, List.set_cons_zero, List.set_cons_succ])
  refine wpAnyH_take (i := 13) (oi := _) (v := ?_) rfl (by kernel_rfl) (by kernel_rfl) (by kernel_rfl) (fun _ _ _ h => h) (Or.inl ⟨by rfl, ?_⟩) (by assumption) ?_; rotate_left; focus (intro W hSw; (try dsimp only at hSw); go_simp; (first | done | with_reducible rfl))
  (try simp only [List.getElem_toArray, List.getElem_cons_succ, List.getElem_cons_zero, Act.put, List.setIfInBounds_toArray, List.set_cons_zero, List.set_cons_succ])
  refine wpAnyH_take (i := 14) (oi := _) (v := ?_) rfl (by kernel_rfl) (by kernel_rfl) (by kernel_rfl) (fun _ _ _ h => h) (Or.inl ⟨by rfl, ?_⟩) (by assumption) ?_; rotate_left; focus (intro W hSw; (try dsimp only at hSw); go_simp; (first | done | with_reducible rfl))
  (try simp only [List.getElem_toArray, List.getElem_cons_succ, List.getElem_cons_zero, Act.put, List.setIfInBounds_toArray, List.set_cons_zero, List.set_cons_succ])
  refine wpAnyH_ready (rs := [12]) (by kernel_rfl) (by simp) ?_
  refine AllReadyH.cons (o := _) rfl (fun K hK => ?_) AllReadyH.nil
  go_simp
  go_at_call 36
  refine (cI.out _ M1.out.rd).mono ?_
  rintro e w1 ⟨rfl, hb⟩
  clear p0 p1 p2 p3
  replace HB := Lib.hid (nxt HB.out hb)
  replace M1 := Lib.hid (M1.out.later hb)
  replace i1R := Lib.hid (i1R.out.later hb)
  replace s1R := Lib.hid (s1R.out.later hb)
  clear hb
  obtain ⟨p0, p1, p2, p3, -⟩ := MapS.Blk.four M1.out.x
  go_wp2_with fail
  refine hK.out _ _ ⟨p0, p1, p2, p3⟩ (fun hsA => ?_)
  clear hK K
  refine wpAnyH_ready (rs := [15]) (by kernel_rfl) (by simp) ?_
  refine AllReadyH.cons (o := _) rfl (fun K hK => ?_) AllReadyH.nil
  go_simp
  go_at_call 37
  refine (cS.out _ M1.out.rd).mono ?_
  rintro e w1 ⟨rfl, hb⟩
  clear p0 p1 p2 p3
  replace HB := Lib.hid (nxt HB.out hb)
  replace M1 := Lib.hid (M1.out.later hb)
  replace i1R := Lib.hid (i1R.out.later hb)
  replace s1R := Lib.hid (s1R.out.later hb)
  clear hb
  obtain ⟨p0, p1, p2, p3, -⟩ := MapS.Blk.four M1.out.x
  go_wp2_with fail
  refine hK.out _ _ ⟨p0, p1, p2, p3⟩ (fun hsA => ?_)
  clear hK K
  refine wpAnyH_take (i := 16) (oi := _) (v := ?_) rfl (by kernel_rfl) (by kernel_rfl) (by kernel_rfl) (fun _ _ _ h => h) (Or.inl ⟨by rfl, ?_⟩) (by assumption) ?_; rotate_left; focus (intro W hSw; (try dsimp only at hSw); go_simp; (first | done | with_reducible rfl))
  (try simp only [List.getElem_toArray, List.getElem_cons_succ, List.getElem_cons_zero, Act.put, List.setIfInBounds_toArray, List.set_cons_zero, List.set_cons_succ])
  refine wpAnyH_take (i := 17) (oi := _) (v := ?_) rfl (by kernel_rfl) (by kernel_rfl) (by kernel_rfl) (fun _ _ _ h => h) (Or.inl ⟨by rfl, ?_⟩) (by assumption) ?_; rotate_left; focus (intro W hSw; (try dsimp only at hSw); go_simp; (first | done | with_reducible rfl))
  (try simp only [List.getElem_toArray, List.getElem_cons_succ, List.getElem_cons_zero, Act.put, List.setIfInBounds_toArray, List.set_cons_zero, List.set_cons_succ])
  refine wpAnyH_done (by kernel_rfl) ?_ _
  refine NoPanic.normal ?_
  (try simp only [List.getElem_toArray, List.getElem_cons_succ, List.getElem_cons_zero, Act.put, List.setIfInBounds_toArray, List.set_cons_zero, List.set_cons_succ])
  clear p0 p1 p2 p3 cI cS
  clear s1R
  cases o1 with
  | false =>
    clear HU1 HO1
    clear i1R
    clear M1
    go_wp2_with fail
    refine (CtDx.drawRecodeControl a n cap xs _ (HCo.out _ HB.out)).mono ?_
    rintro e w1 ⟨v, lv, m2, fs2, x2, y2, rfl, ho, hL, hR2, hC2, hF2, hb⟩
    obtain ⟨ar2, cr2, ac2, cc2, rfl, h1, h2, -⟩ := ho
    obtain ⟨ad2, cp2, rfl, hl, -⟩ := hL.slice
    have hcp2 := hL.le
    replace HB := Lib.hid (nxt HB.out hb)
    have hA : Below w1.heap.size w1 (w1.alloc (.cells #[.int .i64 m2.W, .int .i64 m2.H, .slice ar2 m2.R.length cr2, .slice ac2 m2.C.length cc2] 26)) := (Below.refl _ _).alloc (Nat.le_refl _) _
    replace HB := Lib.hid (nxt HB.out hA)
    have M2 := Lib.hid (Cx.new (ca := cr2) (cb := cc2) (OwnI.row h1) (OwnI.row h2) hl)
    clear hA hb h1 h2 hl hL
    have hRm2 : m2.R.length ≤ maxLen := by unfold maxLen; omega
    have hCm2 : m2.C.length ≤ maxLen := by unfold maxLen; omega
    have hfl2 : fs2.length ≤ 1048576 := by omega
    have hfm2 : fs2.length ≤ 1000000 := by omega
    obtain ⟨u2, hu2⟩ : ∃ x, rcL m2 fs2 x2 y2 = x := ⟨_, rfl⟩
    obtain ⟨o2, ho2⟩ : ∃ x, rcO m2 fs2 x2 y2 = x := ⟨_, rfl⟩
    have hul2 : u2.length ≤ 10 := by rw [← hu2]; exact rc_len m2 fs2 x2 y2
    have cI := Lib.hid (fun w h => hu2 ▸ ho2 ▸ recode_impl m2 fs2 hfl2 hRm2 hCm2 x2 y2 ar2 ac2 cr2 cc2 ad2 cp2 w hcp2 h)
    have cS := Lib.hid (fun w h => hu2 ▸ ho2 ▸ CoS.recode_spec m2 fs2 hfl2 hRm2 hCm2 x2 y2 ar2 ac2 cr2 cc2 ad2 cp2 w hcp2 h)
    have HU2 := Lib.hid hu2
    have HO2 := Lib.hid ho2
    clear hu2 ho2
    obtain ⟨p0, p1, p2, p3, -⟩ := MapS.Blk.four M2.out.x
    go_wp2_with fail
    refine (cI.out _ M2.out.rd).mono ?_
    rintro e w1 ⟨v, rfl, ho, hb⟩
    clear p0 p1 p2 p3
    replace HB := Lib.hid (nxt HB.out hb)
    replace M2 := Lib.hid (M2.out.later hb)
    obtain ⟨i2a, i2c, rfl, hrr, -⟩ := ho.slice
    have i2h := Lib.hid ho.le
    have i2R := Lib.hid hrr
    clear ho hrr
    clear hb
    obtain ⟨p0, p1, p2, p3, -⟩ := MapS.Blk.four M2.out.x
    go_wp2_with fail
    refine (cS.out _ M2.out.rd).mono ?_
    rintro e w1 ⟨v, rfl, ho, hb⟩
    clear p0 p1 p2 p3
    replace HB := Lib.hid (nxt HB.out hb)
    replace M2 := Lib.hid (M2.out.later hb)
    replace i2R := Lib.hid (i2R.out.later hb)
    obtain ⟨s2a, s2c, rfl, hrr, -⟩ := ho.slice
    have s2h := Lib.hid ho.le
    have s2R := Lib.hid hrr
    clear ho hrr
    clear hb
    clear cI cS
    have e5 : (o2 != o2) = false := by simp
    go_wp2_with fail
    refine (CoX.ctl_same _ _ _ _ u2 _ i2R.out s2R.out (by omega)).mono ?_
    rintro e w1 ⟨rfl, hb⟩
    replace HB := Lib.hid (nxt HB.out hb)
    replace M2 := Lib.hid (M2.out.later hb)
    replace i2R := Lib.hid (i2R.out.later hb)
    replace s2R := Lib.hid (s2R.out.later hb)
    clear hb
    clear s2R
    cases o2 with
    | false =>
      clear HU2 HO2
      clear i2R
      clear M2
      go_wp2_with fail
      refine (CtDw.drawCellOfCode a n cap xs _ (HCo.out _ HB.out)).mono ?_
      rintro e w1 ⟨v, lv, m3, fs3, y3, rfl, -, ho, hL, hR3, hC3, hF3, hb⟩
      obtain ⟨ar3, cr3, ac3, cc3, rfl, h1, h2, -⟩ := ho
      obtain ⟨ad3, cp3, rfl, hl, -⟩ := hL.slice
      have hcp3 := hL.le
      replace HB := Lib.hid (nxt HB.out hb)
      have hA : Below w1.heap.size w1 (w1.alloc (.cells #[.int .i64 m3.W, .int .i64 m3.H, .slice ar3 m3.R.length cr3, .slice ac3 m3.C.length cc3] 26)) := (Below.refl _ _).alloc (Nat.le_refl _) _
      replace HB := Lib.hid (nxt HB.out hA)
      have M3 := Lib.hid (Cx.new (ca := cr3) (cb := cc3) (OwnI.row h1) (OwnI.row h2) hl)
      clear hA hb h1 h2 hl hL
      have hRm3 : m3.R.length ≤ maxLen := by unfold maxLen; omega
      have hCm3 : m3.C.length ≤ maxLen := by unfold maxLen; omega
      have hfl3 : fs3.length ≤ 1048576 := by omega
      have hfm3 : fs3.length ≤ 1000000 := by omega
      obtain ⟨g3, hg3⟩ : ∃ x, ccZ m3 fs3 y3 = x := ⟨_, rfl⟩
      obtain ⟨q3, hq3⟩ : ∃ x, ccB m3 fs3 y3 = x := ⟨_, rfl⟩
      have cI := Lib.hid (fun w h => hg3 ▸ hq3 ▸ cell_impl m3 fs3 hfl3 hRm3 hCm3 y3 ar3 ac3 cr3 cc3 ad3 cp3 w h)
      have cS := Lib.hid (fun w h => hg3 ▸ hq3 ▸ cell_spec m3 fs3 hfl3 hRm3 hCm3 y3 ar3 ac3 cr3 cc3 ad3 cp3 w h)
      clear hg3 hq3
      obtain ⟨p0, p1, p2, p3, -⟩ := MapS.Blk.four M3.out.x
      go_wp2_with fail
      refine (cI.out _ M3.out.rd).mono ?_
      rintro e w1 ⟨rfl, hb⟩
      clear p0 p1 p2 p3
      replace HB := Lib.hid (nxt HB.out hb)
      replace M3 := Lib.hid (M3.out.later hb)
      clear hb
      obtain ⟨p0, p1, p2, p3, -⟩ := MapS.Blk.four M3.out.x
      go_wp2_with fail
      refine (cS.out _ M3.out.rd).mono ?_
      rintro e w1 ⟨rfl, hb⟩
      clear p0 p1 p2 p3
      replace HB := Lib.hid (nxt HB.out hb)
      replace M3 := Lib.hid (M3.out.later hb)
      clear hb
      have e3 : (g3 != g3) = false := by simp
      have e4 : (q3 != q3) = false := by simp
      clear cI cS
      clear M3
      go_wp2_with fail
      refine (CtDx.drawCodeAt a n cap xs _ (HCo.out _ HB.out)).mono ?_
      rintro e w1 ⟨v, lv, m4, fs4, y4, rfl, -, ho, hL, hR4, hC4, hF4, hb⟩
      obtain ⟨ar4, cr4, ac4, cc4, rfl, h1, h2, -⟩ := ho
      obtain ⟨ad4, cp4, rfl, hl, -⟩ := hL.slice
      have hcp4 := hL.le
      replace HB := Lib.hid (nxt HB.out hb)
      have hA : Below w1.heap.size w1 (w1.alloc (.cells #[.int .i64 m4.W, .int .i64 m4.H, .slice ar4 m4.R.length cr4, .slice ac4 m4.C.length cc4] 26)) := (Below.refl _ _).alloc (Nat.le_refl _) _
      replace HB := Lib.hid (nxt HB.out hA)
      have M4 := Lib.hid (Cx.new (ca := cr4) (cb := cc4) (OwnI.row h1) (OwnI.row h2) hl)
      clear hA hb h1 h2 hl hL
      have hRm4 : m4.R.length ≤ maxLen := by unfold maxLen; omega
      have hCm4 : m4.C.length ≤ maxLen := by unfold maxLen; omega
      have hfl4 : fs4.length ≤ 1048576 := by omega
      have hfm4 : fs4.length ≤ 1000000 := by omega
      obtain ⟨g4, hg4⟩ : ∃ x, caZ m4 fs4 y4 = x := ⟨_, rfl⟩
      obtain ⟨q4, hq4⟩ : ∃ x, caB m4 fs4 y4 = x := ⟨_, rfl⟩
      have cI := Lib.hid (fun w h => hg4 ▸ hq4 ▸ code_impl m4 fs4 hfl4 hRm4 hCm4 y4 ar4 ac4 cr4 cc4 ad4 cp4 w h)
      have cS := Lib.hid (fun w h => hg4 ▸ hq4 ▸ code_spec m4 fs4 hfl4 hRm4 hCm4 y4 ar4 ac4 cr4 cc4 ad4 cp4 w h)
      clear hg4 hq4
      obtain ⟨p0, p1, p2, p3, -⟩ := MapS.Blk.four M4.out.x
      go_wp2_with fail
      refine (cI.out _ M4.out.rd).mono ?_
      rintro e w1 ⟨rfl, hb⟩
      clear p0 p1 p2 p3
      replace HB := Lib.hid (nxt HB.out hb)
      replace M4 := Lib.hid (M4.out.later hb)
      clear hb
      obtain ⟨p0, p1, p2, p3, -⟩ := MapS.Blk.four M4.out.x
      go_wp2_with fail
      refine (cS.out _ M4.out.rd).mono ?_
      rintro e w1 ⟨rfl, hb⟩
      clear p0 p1 p2 p3
      replace HB := Lib.hid (nxt HB.out hb)
      replace M4 := Lib.hid (M4.out.later hb)
      clear hb
      have e1 : (g4 == g4) = true := by simp
      have e2 : (q4 == q4) = true := by simp
      go_wp2
      go_ret
      exact ⟨rfl, HB.out⟩
    | true =>
      obtain ⟨k1, k2, k3, k4, k5⟩ := recode_back HO2.out
      rw [HU2.out] at k2 k3 k4 k5
      obtain ⟨z2, hz2⟩ : ∃ z, ccZ m2 fs2 x2 = z := ⟨_, rfl⟩
      rw [hz2] at k3
      have cA := Lib.hid (fun w h => hz2 ▸ k1 ▸ cell_impl m2 fs2 hfl2 hRm2 hCm2 x2 ar2 ac2 cr2 cc2 ad2 cp2 w h)
      have cB := Lib.hid (fun (ad : Option Addr) (cp : Nat) w h => k3 ▸ k2 ▸ cell_impl m2 u2 (by omega) hRm2 hCm2 y2 ar2 ac2 cr2 cc2 ad cp w h)
      have cC := Lib.hid (fun (ad : Option Addr) (cp : Nat) w hc h => k5 ▸ k4 ▸ recode_impl m2 u2 (by omega) hRm2 hCm2 y2 x2 ar2 ac2 cr2 cc2 ad cp w hc h)
      clear hz2 k1 k2 k3 k4 k5 HU2 HO2
      obtain ⟨p0, p1, p2, p3, -⟩ := MapS.Blk.four M2.out.x
      go_wp2_with fail
      refine (cA.out _ M2.out.rd).mono ?_
      rintro e w1 ⟨rfl, hb⟩
      clear p0 p1 p2 p3
      replace HB := Lib.hid (nxt HB.out hb)
      replace M2 := Lib.hid (M2.out.later hb)
      replace i2R := Lib.hid (i2R.out.later hb)
      clear hb
      obtain ⟨p0, p1, p2, p3, -⟩ := MapS.Blk.four M2.out.x
      go_wp2_with fail
      refine (cB.out _ _ _ (M2.out.rd2 i2R.out)).mono ?_
      rintro e w1 ⟨rfl, hb⟩
      clear p0 p1 p2 p3
      replace HB := Lib.hid (nxt HB.out hb)
      replace M2 := Lib.hid (M2.out.later hb)
      replace i2R := Lib.hid (i2R.out.later hb)
      clear hb
      obtain ⟨p0, p1, p2, p3, -⟩ := MapS.Blk.four M2.out.x
      go_wp2_with fail
      refine (cC.out _ _ _ i2h.out (M2.out.rd2 i2R.out)).mono ?_
      rintro e w1 ⟨v, rfl, ho, hb⟩
      clear p0 p1 p2 p3
      replace HB := Lib.hid (nxt HB.out hb)
      replace M2 := Lib.hid (M2.out.later hb)
      replace i2R := Lib.hid (i2R.out.later hb)
      obtain ⟨b2a, b2c, rfl, hrr, -⟩ := ho.slice
      have b2h := Lib.hid ho.le
      have b2R := Lib.hid hrr
      clear ho hrr
      clear hb
      clear cA cB cC
      have e6 : (z2 != z2) = false := by simp
      go_wp2_with fail
      refine (CoX.ctl_same _ _ _ _ fs2 _ b2R.out M2.out.l hfm2).mono ?_
      rintro e w1 ⟨rfl, hb⟩
      replace HB := Lib.hid (nxt HB.out hb)
      replace M2 := Lib.hid (M2.out.later hb)
      replace i2R := Lib.hid (i2R.out.later hb)
      replace b2R := Lib.hid (b2R.out.later hb)
      clear hb
      clear b2R
      clear i2R
      clear M2
      go_wp2_with fail
      refine (CtDw.drawCellOfCode a n cap xs _ (HCo.out _ HB.out)).mono ?_
      rintro e w1 ⟨v, lv, m3, fs3, y3, rfl, -, ho, hL, hR3, hC3, hF3, hb⟩
      obtain ⟨ar3, cr3, ac3, cc3, rfl, h1, h2, -⟩ := ho
      obtain ⟨ad3, cp3, rfl, hl, -⟩ := hL.slice
      have hcp3 := hL.le
      replace HB := Lib.hid (nxt HB.out hb)
      have hA : Below w1.heap.size w1 (w1.alloc (.cells #[.int .i64 m3.W, .int .i64 m3.H, .slice ar3 m3.R.length cr3, .slice ac3 m3.C.length cc3] 26)) := (Below.refl _ _).alloc (Nat.le_refl _) _
      replace HB := Lib.hid (nxt HB.out hA)
      have M3 := Lib.hid (Cx.new (ca := cr3) (cb := cc3) (OwnI.row h1) (OwnI.row h2) hl)
      clear hA hb h1 h2 hl hL
      have hRm3 : m3.R.length ≤ maxLen := by unfold maxLen; omega
      have hCm3 : m3.C.length ≤ maxLen := by unfold maxLen; omega
      have hfl3 : fs3.length ≤ 1048576 := by omega
      have hfm3 : fs3.length ≤ 1000000 := by omega
      obtain ⟨g3, hg3⟩ : ∃ x, ccZ m3 fs3 y3 = x := ⟨_, rfl⟩
      obtain ⟨q3, hq3⟩ : ∃ x, ccB m3 fs3 y3 = x := ⟨_, rfl⟩
      have cI := Lib.hid (fun w h => hg3 ▸ hq3 ▸ cell_impl m3 fs3 hfl3 hRm3 hCm3 y3 ar3 ac3 cr3 cc3 ad3 cp3 w h)
      have cS := Lib.hid (fun w h => hg3 ▸ hq3 ▸ cell_spec m3 fs3 hfl3 hRm3 hCm3 y3 ar3 ac3 cr3 cc3 ad3 cp3 w h)
      clear hg3 hq3
      obtain ⟨p0, p1, p2, p3, -⟩ := MapS.Blk.four M3.out.x
      go_wp2_with fail
      refine (cI.out _ M3.out.rd).mono ?_
      rintro e w1 ⟨rfl, hb⟩
      clear p0 p1 p2 p3
      replace HB := Lib.hid (nxt HB.out hb)
      replace M3 := Lib.hid (M3.out.later hb)
      clear hb
      obtain ⟨p0, p1, p2, p3, -⟩ := MapS.Blk.four M3.out.x
      go_wp2_with fail
      refine (cS.out _ M3.out.rd).mono ?_
      rintro e w1 ⟨rfl, hb⟩
      clear p0 p1 p2 p3
      replace HB := Lib.hid (nxt HB.out hb)
      replace M3 := Lib.hid (M3.out.later hb)
      clear hb
      have e3 : (g3 != g3) = false := by simp
      have e4 : (q3 != q3) = false := by simp
      clear cI cS
      clear M3
      go_wp2_with fail
      refine (CtDx.drawCodeAt a n cap xs _ (HCo.out _ HB.out)).mono ?_
      rintro e w1 ⟨v, lv, m4, fs4, y4, rfl, -, ho, hL, hR4, hC4, hF4, hb⟩
      obtain ⟨ar4, cr4, ac4, cc4, rfl, h1, h2, -⟩ := ho
      obtain ⟨ad4, cp4, rfl, hl, -⟩ := hL.slice
      have hcp4 := hL.le
      replace HB := Lib.hid (nxt HB.out hb)
      have hA : Below w1.heap.size w1 (w1.alloc (.cells #[.int .i64 m4.W, .int .i64 m4.H, .slice ar4 m4.R.length cr4, .slice ac4 m4.C.length cc4] 26)) := (Below.refl _ _).alloc (Nat.le_refl _) _
      replace HB := Lib.hid (nxt HB.out hA)
      have M4 := Lib.hid (Cx.new (ca := cr4) (cb := cc4) (OwnI.row h1) (OwnI.row h2) hl)
      clear hA hb h1 h2 hl hL
      have hRm4 : m4.R.length ≤ maxLen := by unfold maxLen; omega
      have hCm4 : m4.C.length ≤ maxLen := by unfold maxLen; omega
      have hfl4 : fs4.length ≤ 1048576 := by omega
      have hfm4 : fs4.length ≤ 1000000 := by omega
      obtain ⟨g4, hg4⟩ : ∃ x, caZ m4 fs4 y4 = x := ⟨_, rfl⟩
      obtain ⟨q4, hq4⟩ : ∃ x, caB m4 fs4 y4 = x := ⟨_, rfl⟩
      have cI := Lib.hid (fun w h => hg4 ▸ hq4 ▸ code_impl m4 fs4 hfl4 hRm4 hCm4 y4 ar4 ac4 cr4 cc4 ad4 cp4 w h)
      have cS := Lib.hid (fun w h => hg4 ▸ hq4 ▸ code_spec m4 fs4 hfl4 hRm4 hCm4 y4 ar4 ac4 cr4 cc4 ad4 cp4 w h)
      clear hg4 hq4
      obtain ⟨p0, p1, p2, p3, -⟩ := MapS.Blk.four M4.out.x
      go_wp2_with fail
      refine (cI.out _ M4.out.rd).mono ?_
      rintro e w1 ⟨rfl, hb⟩
      clear p0 p1 p2 p3
      replace HB := Lib.hid (nxt HB.out hb)
      replace M4 := Lib.hid (M4.out.later hb)
      clear hb
      obtain ⟨p0, p1, p2, p3, -⟩ := MapS.Blk.four M4.out.x
      go_wp2_with fail
      refine (cS.out _ M4.out.rd).mono ?_
      rintro e w1 ⟨rfl, hb⟩
      clear p0 p1 p2 p3
      replace HB := Lib.hid (nxt HB.out hb)
      replace M4 := Lib.hid (M4.out.later hb)
      clear hb
      have e1 : (g4 == g4) = true := by simp
      have e2 : (q4 == q4) = true := by simp
      go_wp2
      go_ret
      exact ⟨rfl, HB.out⟩
  | true =>
    obtain ⟨k1, k2, k3, k4, k5⟩ := move_back HO1.out
    rw [HU1.out] at k2 k3 k4 k5
    obtain ⟨z1, hz1⟩ : ∃ z, ccZ m1 fs1 x1 = z := ⟨_, rfl⟩
    rw [hz1] at k2 k3
    have cA := Lib.hid (fun w h => hz1 ▸ k1 ▸ cell_impl m1 fs1 hfl1 hRm1 hCm1 x1 ar1 ac1 cr1 cc1 ad1 cp1 w h)
    have cB := Lib.hid (fun (ad : Option Addr) (cp : Nat) w h => k3 ▸ k2 ▸ move_impl m1 u1 (by omega) hRm1 hCm1 x1 z1 ar1 ac1 cr1 cc1 ad cp w h)
    have cC := Lib.hid (fun (ad : Option Addr) (cp : Nat) w h => k5 ▸ k4 ▸ code_impl m1 u1 (by omega) hRm1 hCm1 y1 ar1 ac1 cr1 cc1 ad cp w h)
    clear hz1 k1 k2 k3 k4 k5 HU1 HO1
    obtain ⟨p0, p1, p2, p3, -⟩ := MapS.Blk.four M1.out.x
    go_wp2_with fail
    refine (cA.out _ M1.out.rd).mono ?_
    rintro e w1 ⟨rfl, hb⟩
    clear p0 p1 p2 p3
    replace HB := Lib.hid (nxt HB.out hb)
    replace M1 := Lib.hid (M1.out.later hb)
    replace i1R := Lib.hid (i1R.out.later hb)
    clear hb
    obtain ⟨p0, p1, p2, p3, -⟩ := MapS.Blk.four M1.out.x
    go_wp2_with fail
    refine (cB.out _ _ _ (M1.out.rd2 i1R.out)).mono ?_
    rintro e w1 ⟨v, rfl, ho, hb⟩
    clear p0 p1 p2 p3
    replace HB := Lib.hid (nxt HB.out hb)
    replace M1 := Lib.hid (M1.out.later hb)
    replace i1R := Lib.hid (i1R.out.later hb)
    obtain ⟨b1a, b1c, rfl, hrr, -⟩ := ho.slice
    have b1h := Lib.hid ho.le
    have b1R := Lib.hid hrr
    clear ho hrr
    clear hb
    obtain ⟨p0, p1, p2, p3, -⟩ := MapS.Blk.four M1.out.x
    go_wp2_with fail
    refine (cC.out _ _ _ (M1.out.rd2 i1R.out)).mono ?_
    rintro e w1 ⟨rfl, hb⟩
    clear p0 p1 p2 p3
    replace HB := Lib.hid (nxt HB.out hb)
    replace M1 := Lib.hid (M1.out.later hb)
    replace i1R := Lib.hid (i1R.out.later hb)
    replace b1R := Lib.hid (b1R.out.later hb)
    clear hb
    clear cA cB cC
    have e9 : (x1 != x1) = false := by simp
    go_wp2_with fail
    refine (CoX.ctl_same _ _ _ _ fs1 _ b1R.out M1.out.l hfm1).mono ?_
    rintro e w1 ⟨rfl, hb⟩
    replace HB := Lib.hid (nxt HB.out hb)
    replace M1 := Lib.hid (M1.out.later hb)
    replace i1R := Lib.hid (i1R.out.later hb)
    replace b1R := Lib.hid (b1R.out.later hb)
    clear hb
    clear b1R
    clear i1R
    clear M1
    go_wp2_with fail
    refine (CtDx.drawRecodeControl a n cap xs _ (HCo.out _ HB.out)).mono ?_
    rintro e w1 ⟨v, lv, m2, fs2, x2, y2, rfl, ho, hL, hR2, hC2, hF2, hb⟩
    obtain ⟨ar2, cr2, ac2, cc2, rfl, h1, h2, -⟩ := ho
    obtain ⟨ad2, cp2, rfl, hl, -⟩ := hL.slice
    have hcp2 := hL.le
    replace HB := Lib.hid (nxt HB.out hb)
    have hA : Below w1.heap.size w1 (w1.alloc (.cells #[.int .i64 m2.W, .int .i64 m2.H, .slice ar2 m2.R.length cr2, .slice ac2 m2.C.length cc2] 26)) := (Below.refl _ _).alloc (Nat.le_refl _) _
    replace HB := Lib.hid (nxt HB.out hA)
    have M2 := Lib.hid (Cx.new (ca := cr2) (cb := cc2) (OwnI.row h1) (OwnI.row h2) hl)
    clear hA hb h1 h2 hl hL
    have hRm2 : m2.R.length ≤ maxLen := by unfold maxLen; omega
    have hCm2 : m2.C.length ≤ maxLen := by unfold maxLen; omega
    have hfl2 : fs2.length ≤ 1048576 := by omega
    have hfm2 : fs2.length ≤ 1000000 := by omega
    obtain ⟨u2, hu2⟩ : ∃ x, rcL m2 fs2 x2 y2 = x := ⟨_, rfl⟩
    obtain ⟨o2, ho2⟩ : ∃ x, rcO m2 fs2 x2 y2 = x := ⟨_, rfl⟩
    have hul2 : u2.length ≤ 10 := by rw [← hu2]; exact rc_len m2 fs2 x2 y2
    have cI := Lib.hid (fun w h => hu2 ▸ ho2 ▸ recode_impl m2 fs2 hfl2 hRm2 hCm2 x2 y2 ar2 ac2 cr2 cc2 ad2 cp2 w hcp2 h)
    have cS := Lib.hid (fun w h => hu2 ▸ ho2 ▸ CoS.recode_spec m2 fs2 hfl2 hRm2 hCm2 x2 y2 ar2 ac2 cr2 cc2 ad2 cp2 w hcp2 h)
    have HU2 := Lib.hid hu2
    have HO2 := Lib.hid ho2
    clear hu2 ho2
    obtain ⟨p0, p1, p2, p3, -⟩ := MapS.Blk.four M2.out.x
    go_wp2_with fail
    refine (cI.out _ M2.out.rd).mono ?_
    rintro e w1 ⟨v, rfl, ho, hb⟩
    clear p0 p1 p2 p3
    replace HB := Lib.hid (nxt HB.out hb)
    replace M2 := Lib.hid (M2.out.later hb)
    obtain ⟨i2a, i2c, rfl, hrr, -⟩ := ho.slice
    have i2h := Lib.hid ho.le
    have i2R := Lib.hid hrr
    clear ho hrr
    clear hb
    obtain ⟨p0, p1, p2, p3, -⟩ := MapS.Blk.four M2.out.x
    go_wp2_with fail
    refine (cS.out _ M2.out.rd).mono ?_
    rintro e w1 ⟨v, rfl, ho, hb⟩
    clear p0 p1 p2 p3
    replace HB := Lib.hid (nxt HB.out hb)
    replace M2 := Lib.hid (M2.out.later hb)
    replace i2R := Lib.hid (i2R.out.later hb)
    obtain ⟨s2a, s2c, rfl, hrr, -⟩ := ho.slice
    have s2h := Lib.hid ho.le
    have s2R := Lib.hid hrr
    clear ho hrr
    clear hb
    clear cI cS
    have e5 : (o2 != o2) = false := by simp
    go_wp2_with fail
    refine (CoX.ctl_same _ _ _ _ u2 _ i2R.out s2R.out (by omega)).mono ?_
    rintro e w1 ⟨rfl, hb⟩
    replace HB := Lib.hid (nxt HB.out hb)
    replace M2 := Lib.hid (M2.out.later hb)
    replace i2R := Lib.hid (i2R.out.later hb)
    replace s2R := Lib.hid (s2R.out.later hb)
    clear hb
    clear s2R
    cases o2 with
    | false =>
      clear HU2 HO2
      clear i2R
      clear M2
      go_wp2_with fail
      refine (CtDw.drawCellOfCode a n cap xs _ (HCo.out _ HB.out)).mono ?_
      rintro e w1 ⟨v, lv, m3, fs3, y3, rfl, -, ho, hL, hR3, hC3, hF3, hb⟩
      obtain ⟨ar3, cr3, ac3, cc3, rfl, h1, h2, -⟩ := ho
      obtain ⟨ad3, cp3, rfl, hl, -⟩ := hL.slice
      have hcp3 := hL.le
      replace HB := Lib.hid (nxt HB.out hb)
      have hA : Below w1.heap.size w1 (w1.alloc (.cells #[.int .i64 m3.W, .int .i64 m3.H, .slice ar3 m3.R.length cr3, .slice ac3 m3.C.length cc3] 26)) := (Below.refl _ _).alloc (Nat.le_refl _) _
      replace HB := Lib.hid (nxt HB.out hA)
      have M3 := Lib.hid (Cx.new (ca := cr3) (cb := cc3) (OwnI.row h1) (OwnI.row h2) hl)
      clear hA hb h1 h2 hl hL
      have hRm3 : m3.R.length ≤ maxLen := by unfold maxLen; omega
      have hCm3 : m3.C.length ≤ maxLen := by unfold maxLen; omega
      have hfl3 : fs3.length ≤ 1048576 := by omega
      have hfm3 : fs3.length ≤ 1000000 := by omega
      obtain ⟨g3, hg3⟩ : ∃ x, ccZ m3 fs3 y3 = x := ⟨_, rfl⟩
      obtain ⟨q3, hq3⟩ : ∃ x, ccB m3 fs3 y3 = x := ⟨_, rfl⟩
      have cI := Lib.hid (fun w h => hg3 ▸ hq3 ▸ cell_impl m3 fs3 hfl3 hRm3 hCm3 y3 ar3 ac3 cr3 cc3 ad3 cp3 w h)
      have cS := Lib.hid (fun w h => hg3 ▸ hq3 ▸ cell_spec m3 fs3 hfl3 hRm3 hCm3 y3 ar3 ac3 cr3 cc3 ad3 cp3 w h)
      clear hg3 hq3
      obtain ⟨p0, p1, p2, p3, -⟩ := MapS.Blk.four M3.out.x
      go_wp2_with fail
      refine (cI.out _ M3.out.rd).mono ?_
      rintro e w1 ⟨rfl, hb⟩
      clear p0 p1 p2 p3
      replace HB := Lib.hid (nxt HB.out hb)
      replace M3 := Lib.hid (M3.out.later hb)
      clear hb
      obtain ⟨p0, p1, p2, p3, -⟩ := MapS.Blk.four M3.out.x
      go_wp2_with fail
      refine (cS.out _ M3.out.rd).mono ?_
      rintro e w1 ⟨rfl, hb⟩
      clear p0 p1 p2 p3
      replace HB := Lib.hid (nxt HB.out hb)
      replace M3 := Lib.hid (M3.out.later hb)
      clear hb
      have e3 : (g3 != g3) = false := by simp
      have e4 : (q3 != q3) = false := by simp
      clear cI cS
      clear M3
      go_wp2_with fail
      refine (CtDx.drawCodeAt a n cap xs _ (HCo.out _ HB.out)).mono ?_
      rintro e w1 ⟨v, lv, m4, fs4, y4, rfl, -, ho, hL, hR4, hC4, hF4, hb⟩
      obtain ⟨ar4, cr4, ac4, cc4, rfl, h1, h2, -⟩ := ho
      obtain ⟨ad4, cp4, rfl, hl, -⟩ := hL.slice
      have hcp4 := hL.le
      replace HB := Lib.hid (nxt HB.out hb)
      have hA : Below w1.heap.size w1 (w1.alloc (.cells #[.int .i64 m4.W, .int .i64 m4.H, .slice ar4 m4.R.length cr4, .slice ac4 m4.C.length cc4] 26)) := (Below.refl _ _).alloc (Nat.le_refl _) _
      replace HB := Lib.hid (nxt HB.out hA)
      have M4 := Lib.hid (Cx.new (ca := cr4) (cb := cc4) (OwnI.row h1) (OwnI.row h2) hl)
      clear hA hb h1 h2 hl hL
      have hRm4 : m4.R.length ≤ maxLen := by unfold maxLen; omega
      have hCm4 : m4.C.length ≤ maxLen := by unfold maxLen; omega
      have hfl4 : fs4.length ≤ 1048576 := by omega
      have hfm4 : fs4.length ≤ 1000000 := by omega
      obtain ⟨g4, hg4⟩ : ∃ x, caZ m4 fs4 y4 = x := ⟨_, rfl⟩
      obtain ⟨q4, hq4⟩ : ∃ x, caB m4 fs4 y4 = x := ⟨_, rfl⟩
      have cI := Lib.hid (fun w h => hg4 ▸ hq4 ▸ code_impl m4 fs4 hfl4 hRm4 hCm4 y4 ar4 ac4 cr4 cc4 ad4 cp4 w h)
      have cS := Lib.hid (fun w h => hg4 ▸ hq4 ▸ code_spec m4 fs4 hfl4 hRm4 hCm4 y4 ar4 ac4 cr4 cc4 ad4 cp4 w h)
      clear hg4 hq4
      obtain ⟨p0, p1, p2, p3, -⟩ := MapS.Blk.four M4.out.x
      go_wp2_with fail
      refine (cI.out _ M4.out.rd).mono ?_
      rintro e w1 ⟨rfl, hb⟩
      clear p0 p1 p2 p3
      replace HB := Lib.hid (nxt HB.out hb)
      replace M4 := Lib.hid (M4.out.later hb)
      clear hb
      obtain ⟨p0, p1, p2, p3, -⟩ := MapS.Blk.four M4.out.x
      go_wp2_with fail
      refine (cS.out _ M4.out.rd).mono ?_
      rintro e w1 ⟨rfl, hb⟩
      clear p0 p1 p2 p3
      replace HB := Lib.hid (nxt HB.out hb)
      replace M4 := Lib.hid (M4.out.later hb)
      clear hb
      have e1 : (g4 == g4) = true := by simp
      have e2 : (q4 == q4) = true := by simp
      go_wp2
      go_ret
      exact ⟨rfl, HB.out⟩
    | true =>
      obtain ⟨k1, k2, k3, k4, k5⟩ := recode_back HO2.out
      rw [HU2.out] at k2 k3 k4 k5
      obtain ⟨z2, hz2⟩ : ∃ z, ccZ m2 fs2 x2 = z := ⟨_, rfl⟩
      rw [hz2] at k3
      have cA := Lib.hid (fun w h => hz2 ▸ k1 ▸ cell_impl m2 fs2 hfl2 hRm2 hCm2 x2 ar2 ac2 cr2 cc2 ad2 cp2 w h)
      have cB := Lib.hid (fun (ad : Option Addr) (cp : Nat) w h => k3 ▸ k2 ▸ cell_impl m2 u2 (by omega) hRm2 hCm2 y2 ar2 ac2 cr2 cc2 ad cp w h)
      have cC := Lib.hid (fun (ad : Option Addr) (cp : Nat) w hc h => k5 ▸ k4 ▸ recode_impl m2 u2 (by omega) hRm2 hCm2 y2 x2 ar2 ac2 cr2 cc2 ad cp w hc h)
      clear hz2 k1 k2 k3 k4 k5 HU2 HO2
      obtain ⟨p0, p1, p2, p3, -⟩ := MapS.Blk.four M2.out.x
      go_wp2_with fail
      refine (cA.out _ M2.out.rd).mono ?_
      rintro e w1 ⟨rfl, hb⟩
      clear p0 p1 p2 p3
      replace HB := Lib.hid (nxt HB.out hb)
      replace M2 := Lib.hid (M2.out.later hb)
      replace i2R := Lib.hid (i2R.out.later hb)
      clear hb
      obtain ⟨p0, p1, p2, p3, -⟩ := MapS.Blk.four M2.out.x
      go_wp2_with fail
      refine (cB.out _ _ _ (M2.out.rd2 i2R.out)).mono ?_
      rintro e w1 ⟨rfl, hb⟩
      clear p0 p1 p2 p3
      replace HB := Lib.hid (nxt HB.out hb)
      replace M2 := Lib.hid (M2.out.later hb)
      replace i2R := Lib.hid (i2R.out.later hb)
      clear hb
      obtain ⟨p0, p1, p2, p3, -⟩ := MapS.Blk.four M2.out.x
      go_wp2_with fail
      refine (cC.out _ _ _ i2h.out (M2.out.rd2 i2R.out)).mono ?_
      rintro e w1 ⟨v, rfl, ho, hb⟩
      clear p0 p1 p2 p3
      replace HB := Lib.hid (nxt HB.out hb)
      replace M2 := Lib.hid (M2.out.later hb)
      replace i2R := Lib.hid (i2R.out.later hb)
      obtain ⟨b2a, b2c, rfl, hrr, -⟩ := ho.slice
      have b2h := Lib.hid ho.le
      have b2R := Lib.hid hrr
      clear ho hrr
      clear hb
      clear cA cB cC
      have e6 : (z2 != z2) = false := by simp
      go_wp2_with fail
      refine (CoX.ctl_same _ _ _ _ fs2 _ b2R.out M2.out.l hfm2).mono ?_
      rintro e w1 ⟨rfl, hb⟩
      replace HB := Lib.hid (nxt HB.out hb)
      replace M2 := Lib.hid (M2.out.later hb)
      replace i2R := Lib.hid (i2R.out.later hb)
      replace b2R := Lib.hid (b2R.out.later hb)
      clear hb
      clear b2R
      clear i2R
      clear M2
      go_wp2_with fail
      refine (CtDw.drawCellOfCode a n cap xs _ (HCo.out _ HB.out)).mono ?_
      rintro e w1 ⟨v, lv, m3, fs3, y3, rfl, -, ho, hL, hR3, hC3, hF3, hb⟩
      obtain ⟨ar3, cr3, ac3, cc3, rfl, h1, h2, -⟩ := ho
      obtain ⟨ad3, cp3, rfl, hl, -⟩ := hL.slice
      have hcp3 := hL.le
      replace HB := Lib.hid (nxt HB.out hb)
      have hA : Below w1.heap.size w1 (w1.alloc (.cells #[.int .i64 m3.W, .int .i64 m3.H, .slice ar3 m3.R.length cr3, .slice ac3 m3.C.length cc3] 26)) := (Below.refl _ _).alloc (Nat.le_refl _) _
      replace HB := Lib.hid (nxt HB.out hA)
      have M3 := Lib.hid (Cx.new (ca := cr3) (cb := cc3) (OwnI.row h1) (OwnI.row h2) hl)
      clear hA hb h1 h2 hl hL
      have hRm3 : m3.R.length ≤ maxLen := by unfold maxLen; omega
      have hCm3 : m3.C.length ≤ maxLen := by unfold maxLen; omega
      have hfl3 : fs3.length ≤ 1048576 := by omega
      have hfm3 : fs3.length ≤ 1000000 := by omega
      obtain ⟨g3, hg3⟩ : ∃ x, ccZ m3 fs3 y3 = x := ⟨_, rfl⟩
      obtain ⟨q3, hq3⟩ : ∃ x, ccB m3 fs3 y3 = x := ⟨_, rfl⟩
      have cI := Lib.hid (fun w h => hg3 ▸ hq3 ▸ cell_impl m3 fs3 hfl3 hRm3 hCm3 y3 ar3 ac3 cr3 cc3 ad3 cp3 w h)
      have cS := Lib.hid (fun w h => hg3 ▸ hq3 ▸ cell_spec m3 fs3 hfl3 hRm3 hCm3 y3 ar3 ac3 cr3 cc3 ad3 cp3 w h)
      clear hg3 hq3
      obtain ⟨p0, p1, p2, p3, -⟩ := MapS.Blk.four M3.out.x
      go_wp2_with fail
      refine (cI.out _ M3.out.rd).mono ?_
      rintro e w1 ⟨rfl, hb⟩
      clear p0 p1 p2 p3
      replace HB := Lib.hid (nxt HB.out hb)
      replace M3 := Lib.hid (M3.out.later hb)
      clear hb
      obtain ⟨p0, p1, p2, p3, -⟩ := MapS.Blk.four M3.out.x
      go_wp2_with fail
      refine (cS.out _ M3.out.rd).mono ?_
      rintro e w1 ⟨rfl, hb⟩
      clear p0 p1 p2 p3
      replace HB := Lib.hid (nxt HB.out hb)
      replace M3 := Lib.hid (M3.out.later hb)
      clear hb
      have e3 : (g3 != g3) = false := by simp
      have e4 : (q3 != q3) = false := by simp
      clear cI cS
      clear M3
      go_wp2_with fail
      refine (CtDx.drawCodeAt a n cap xs _ (HCo.out _ HB.out)).mono ?_
      rintro e w1 ⟨v, lv, m4, fs4, y4, rfl, -, ho, hL, hR4, hC4, hF4, hb⟩
      obtain ⟨ar4, cr4, ac4, cc4, rfl, h1, h2, -⟩ := ho
      obtain ⟨ad4, cp4, rfl, hl, -⟩ := hL.slice
      have hcp4 := hL.le
      replace HB := Lib.hid (nxt HB.out hb)
      have hA : Below w1.heap.size w1 (w1.alloc (.cells #[.int .i64 m4.W, .int .i64 m4.H, .slice ar4 m4.R.length cr4, .slice ac4 m4.C.length cc4] 26)) := (Below.refl _ _).alloc (Nat.le_refl _) _
      replace HB := Lib.hid (nxt HB.out hA)
      have M4 := Lib.hid (Cx.new (ca := cr4) (cb := cc4) (OwnI.row h1) (OwnI.row h2) hl)
      clear hA hb h1 h2 hl hL
      have hRm4 : m4.R.length ≤ maxLen := by unfold maxLen; omega
      have hCm4 : m4.C.length ≤ maxLen := by unfold maxLen; omega
      have hfl4 : fs4.length ≤ 1048576 := by omega
      have hfm4 : fs4.length ≤ 1000000 := by omega
      obtain ⟨g4, hg4⟩ : ∃ x, caZ m4 fs4 y4 = x := ⟨_, rfl⟩
      obtain ⟨q4, hq4⟩ : ∃ x, caB m4 fs4 y4 = x := ⟨_, rfl⟩
      have cI := Lib.hid (fun w h => hg4 ▸ hq4 ▸ code_impl m4 fs4 hfl4 hRm4 hCm4 y4 ar4 ac4 cr4 cc4 ad4 cp4 w h)
      have cS := Lib.hid (fun w h => hg4 ▸ hq4 ▸ code_spec m4 fs4 hfl4 hRm4 hCm4 y4 ar4 ac4 cr4 cc4 ad4 cp4 w h)
      clear hg4 hq4
      obtain ⟨p0, p1, p2, p3, -⟩ := MapS.Blk.four M4.out.x
      go_wp2_with fail
      refine (cI.out _ M4.out.rd).mono ?_
      rintro e w1 ⟨rfl, hb⟩
      clear p0 p1 p2 p3
      replace HB := Lib.hid (nxt HB.out hb)
      replace M4 := Lib.hid (M4.out.later hb)
      clear hb
      obtain ⟨p0, p1, p2, p3, -⟩ := MapS.Blk.four M4.out.x
      go_wp2_with fail
      refine (cS.out _ M4.out.rd).mono ?_
      rintro e w1 ⟨rfl, hb⟩
      clear p0 p1 p2 p3
      replace HB := Lib.hid (nxt HB.out hb)
      replace M4 := Lib.hid (M4.out.later hb)
      clear hb
      have e1 : (g4 == g4) = true := by simp
      have e2 : (q4 == q4) = true := by simp
      go_wp2
      go_ret
      exact ⟨rfl, HB.out⟩

end Go.Proofs.Ytfpfnnindlfgfaa.CoW

namespace Go.Proofs.Ytfpfnnindlfgfaa.fnControlsFr
open Go.ChangeShapes Go.WideShapes Go.ChangeAt Go.RowKit
open Go.ChangeMaps (open_string shut_string)
set_option linter.unusedVariables false

theorem own : ownKnob Try.prog.godebug = none := by kernel_rfl
theorem laidOut : laidOutB Try.prog = true := by kernel_rfl

set_option maxRecDepth 100000 in
theorem lifted (os : Os) (started : os.Started) (H : Type) (enc : TypeId × Value → H) :
    ReturnsInHanded {} Try.checked os 4 .any (Rows.fnControlsSpec.pre6 enc Try.prog Try.f4 Rows.fnControlsRow.domain false) (Rows.fnControlsSpec.post enc Try.prog Try.f4 false true false false) := by
  refine returnsInHanded_of_change (C := Try.checked) own started (by kernel_rfl) Try.func4
    (ChangeSpec.witness6 (enc := enc) (C := Try.checked) false ⟨#[], #[.slice none 0 0], []⟩ 8 (by kernel_rfl) (by kernel_rfl) (by kernel_rfl) (by kernel_rfl)) ?_
  intro W base args ds gs before hval0 hW hcnd _
  have hval : ∀ (j : Nat) t v, Try.f4.params[j]? = some t → args[j]? = some v → Value.okWide Try.prog W .any base t v := hval0
  have hW' := hW
  obtain ⟨p, q, hA0, hV, rfl, hfz, hnd⟩ := hW
  have hA : DataW.TrodAll enc Try.prog W 0 (fun _ => true) true Try.f4.params.toList args.toList ds p := hA0
  rw [Try.params4] at hA hval
  obtain ⟨v0, vs0, d0, ds0, p0, q0, hargs, rfl, rfl, h0, r0⟩ := trodAll_cons hA
  obtain ⟨rfl, rfl, rfl⟩ := trodAll_nil r0
  obtain rfl : args = #[v0] := by cases args; simp_all
  obtain ⟨rfl, rfl⟩ := trodVars_none hV
  have k0 := h0
  have lt0 : ∀ x ∈ p0, x.block < W.heap.size := by obtain ⟨m, hm⟩ := k0; exact DataW.trod_lt m _ _ _ hm
  obtain ⟨x0_0, x0_1, x0_2, x0_3, rfl, w0⟩ := (CodM.open_bytes Try.underlying22 Try.underlying5 (by kernel_rfl)) (hval 0 22 v0 rfl rfl) h0
  clear hA0 hval0
  refine (CoW.law_any W x0_0 x0_1 x0_2 x0_3 w0).mono fun e W' ⟨he, bel⟩ => ?_
  subst he
  exact ⟨_, rfl, _, _, _, [], _, [], hW', trodAll_mk1 (shut_bool Try.underlying4 _), (trodAll_cons_mk (Below.trod laidOut (by kernel_rfl) (of_decide_eq_true (by kernel_rfl)) k0 bel lt0) trodAll_mk0), rfl, bel.frame _, fun h => by cases h⟩

theorem over : Rows.fnControlsRow.holds Try.pinned (OpenSpec.ofChange Rows.fnControlsSpec) :=
  OpenClaim.holds_of_wide 4 Try.f4 rfl rfl rfl rfl rfl rfl rfl ⟨rfl, rfl, rfl, rfl, rfl⟩ rfl rfl rfl rfl rfl (by kernel_rfl) Try.func4 (by kernel_rfl)
    (of_decide_eq_true (by kernel_rfl)) (by unfold Func.isWrapper; first | (rw [if_pos (by decide +kernel)]; kernel_rfl) | (rw [if_neg (by decide +kernel)]; exact ⟨rfl, rfl⟩))
    (fun os started H enc _ => lifted os started H enc)

theorem proved : Rows.FnControlsSaid := over
end Go.Proofs.Ytfpfnnindlfgfaa.fnControlsFr
