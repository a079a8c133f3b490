/- Courses: BackLegs, both texts. -/
import Derived.Test.YtdfmfmndmldggaaKrU
namespace Go.Proofs.Ytdfmfmndmldggaa.KrW
open Go.RowKit Lb Bk IntS CtK CoM CoP CoF CoC KrM KrI KrG KrT LtI TblS
open KrR (blk_keep rn r_yes r_no)
open KrO (own_ints rn_le rn_csp lgC tab_at)
open PrtB (TPst)
open Cells (NPost)
set_option linter.unusedSimpArgs false
set_option linter.unusedVariables false

/-- Whether the leg behind one goes back. -/
noncomputable def bkB (m : Mp) (T : Nat → Nat → Int) (cs : List Ct) (zs : List Int) (l : Nat) : Bool := zAt (lgR m T cs zs l) ((lgR m T cs zs l).length - 2) == zAt (lgR m T cs zs (l + 1)) 1
noncomputable def bkL (m : Mp) (T : Nat → Nat → Int) (cs : List Ct) (zs : List Int) : Nat → List Int
  | 0 => []
  | k + 1 => if bkB m T cs zs k then bkL m T cs zs k ++ [(k : Int) + 1] else bkL m T cs zs k
theorem bk_len (m : Mp) (T : Nat → Nat → Int) (cs : List Ct) (zs : List Int) : ∀ k, (bkL m T cs zs k).length ≤ k
  | 0 => Nat.le_refl _
  | k + 1 => by
    have := bk_len m T cs zs k
    rw [bkL]
    split <;> simp <;> omega
theorem bk_yes {m : Mp} {T : Nat → Nat → Int} {cs : List Ct} {zs : List Int} {k : Nat} (h : bkB m T cs zs k = true) : bkL m T cs zs (k + 1) = bkL m T cs zs k ++ [(k : Int) + 1] := by rw [bkL, h]; rfl
theorem bk_no {m : Mp} {T : Nat → Nat → Int} {cs : List Ct} {zs : List Int} {k : Nat} (h : bkB m T cs zs k = false) : bkL m T cs zs (k + 1) = bkL m T cs zs k := by rw [bkL, h]; rfl
/-- What BackLegs answers. -/
noncomputable def blL (m : Mp) (T : Nat → Nat → Int) (cs : List Ct) (zs : List Int) : List Int := if csB m T cs zs then bkL m T cs zs (zs.length - 2) else []
theorem bl_len (m : Mp) (T : Nat → Nat → Int) (cs : List Ct) (zs : List Int) : (blL m T cs zs).length ≤ 6 := by
  unfold blL
  split
  · rename_i h
    have h1 := bk_len m T cs zs (zs.length - 2)
    have h2 := (cs_iff.1 h).2.1
    omega
  · exact Nat.zero_le _
/-- A route's length. -/
theorem lgr_len {m : Mp} {T : Nat → Nat → Int} (hT : TT m T) {cs : List Ct} {zs : List Int} (h : CsP m T cs zs) {l : Nat} (hl : l < zs.length - 1) : 2 ≤ (lgR m T cs zs l).length ∧ (lgR m T cs zs l).length ≤ 1000 := by
  obtain ⟨ww, hh, i, j, k, L⟩ := h.leg hT hl
  have h1 := L.len
  have h2 := L.pos
  have h3 := L.top
  omega

set_option maxRecDepth 20000 in
set_option maxHeartbeats 4000000 in
theorem back_impl (m : Mp) (T : Nat → Nat → Int) (hT : TT m T) (cs : List Ct) (hl : cs.length ≤ 1048576) (zs : List Int) (hl2 : zs.length ≤ 1048576) (hR : m.R.length ≤ maxLen) (hC : m.C.length ≤ maxLen) (a b : Option Addr) (ca cb : Nat) (ad : Option Addr) (cap : Nat) (al : Option Addr) (cl : Nat) (w : World) (h : Rc m cs zs a b ad al w) :
    Calls Try.prog 27 #[.agg #[.int .i64 m.W, .int .i64 m.H, .slice a m.R.length ca, .slice b m.C.length cb], .slice ad cs.length cap, .slice al zs.length cl] w (NPost w (blL m T cs zs) (csB m T cs zs)) := by
  obtain ⟨t0, hi0, hz0, hz1, hz2⟩ := info_parts iInfo
  have HB := Lib.hid ((Below.refl w.heap.size w).alloc (Nat.le_refl _) (.cells #[.int .i64 m.W, .int .i64 m.H, .slice a m.R.length ca, .slice b m.C.length cb] 26))
  have H := Lib.hid h
  obtain ⟨ok, hok⟩ : ∃ o, csB m T cs zs = o := ⟨_, rfl⟩
  obtain ⟨r0, hr0⟩ : ∃ o, rn m T cs zs = o := ⟨_, rfl⟩
  have c1 : ∀ w, Rc m cs zs a b ad al w → Calls Try.prog 59 #[.agg #[.int .i64 m.W, .int .i64 m.H, .slice a m.R.length ca, .slice b m.C.length cb], .slice ad cs.length cap, .slice al zs.length cl] w (TPst w r0 (lgR m T cs zs) ok) := fun w h => by
    have := KrR.routes_any m T hT cs hl zs hl2 hR hC a b ca cb ad cap al cl w h
    rwa [hok, hr0] at this
  replace c1 := Lib.hid c1
  have HO := Lib.hid hok
  have HZ := Lib.hid hr0
  have HT := Lib.hid hT
  obtain ⟨us, hus⟩ : ∃ o, blL m T cs zs = o := ⟨_, rfl⟩
  have HU := Lib.hid hus
  rw [hok, hus]
  clear h hok hr0 hT hus
  go_enter Try.func27, Try.ntmps27
  go_wp2_with fail
  refine (c1.out _ (H.out.later HB.out)).mono ?_
  rintro e w1 ⟨v1, rs, rfl, ho, hb⟩
  have HB1 := Lib.hid (HB.out.trans (hb.mono (by simp)))
  have HQ := Lib.hid ho
  have hs1 := HB1.out.size
  clear hb HB c1 ho
  cases ok with
  | false =>
    have h2 : us = [] := by rw [← HU.out]; unfold blL; rw [HO.out]; rfl
    subst h2
    go_wp2
    go_ret2
    exact ⟨_, rfl, own_ints w1 _ hs1, HB1.out.alloc hs1 _⟩
  | true =>
  have HP := Lib.hid (cs_iff.1 HO.out)
  have hn8 := HP.out.2.1
  have hr : zs.length - 1 = r0 := by rw [← HZ.out]; unfold rn; rw [HO.out]; rfl
  have h2 : bkL m T cs zs (r0 - 1) = us := by rw [← HU.out]; unfold blL; rw [HO.out, ← hr]; rfl
  obtain ⟨r, hr2⟩ : ∃ r, r0 = r + 1 := ⟨r0 - 1, by omega⟩
  subst hr2
  rw [Nat.add_sub_cancel] at h2
  have H2 := Lib.hid h2
  have hr7 : r ≤ 6 := by omega
  obtain ⟨ta, tc, rfl⟩ := OwnP.slice HQ.out
  have HW := Lib.hid hr
  obtain ⟨tb, rfl⟩ : ∃ g, ta = some ⟨g, 0, none⟩ := by
    rcases HQ.out.tbl.2 with ⟨e, h0⟩ | ⟨g, c, cur, e, _⟩
    · omega
    · exact ⟨g, by simpa using (Value.slice.inj e).1⟩
  have htc : r + 1 ≤ tc := by
    rcases HQ.out.tbl.2 with ⟨e, h0⟩ | ⟨g, c, cur, hv, _, _, h3, _⟩
    · omega
    · obtain ⟨-, -, rfl⟩ := Value.slice.inj hv
      omega
  have hci : (r : Int) + 1 ≤ (tc : Int) := by omega
  have hc1 : (1 : Int) ≤ (r : Int) + 1 := by omega
  have HS0 := Lib.hid (IntK.Gr.start w1)
  have hTc1 : (r : Int) + 1 - 1 = (r : Int) := by omega
  clear hr hn8 hl hl2 h2
  by_cases htc1 : tc = 1
  · subst htc1
    obtain rfl : r = 0 := by omega
    go_wp2
    go_loopg [28, 10] 0 (fun gk i v wr => i = .int .i64 (0 : Nat) ∧ IntK.Gr w1 v [] wr)
    case atStart => exact ⟨rfl, HS0.out⟩
    case round =>
      clear HS0
      obtain ⟨rfl, hS⟩ := hrel
      have HS := Lib.hid hS
      clear hS
      go_wp2
      go_ret2
      exact ⟨_, rfl, by rw [← H2.out]; exact IntS.rebase HS.out.own hs1, HB1.out.trans (HS.out.b.mono hs1)⟩
  have htc2 : 1 < tc := by omega
  go_wp2
  go_loopg [28, 10] r (fun gk i v wr => ∃ k : Nat, k ≤ r ∧ gk = r - k ∧ i = .int .i64 k ∧ IntK.Gr w1 v (bkL m T cs zs k) wr)
  case atStart => exact ⟨0, Nat.zero_le _, rfl, rfl, HS0.out⟩
  case round =>
    clear HS0
    obtain ⟨k, hk, hgk, rfl, hS⟩ := hrel
    have HS := Lib.hid hS
    clear hS
    by_cases hlt : k < r
    · obtain ⟨g1, fa, fc, e1, c0, hf3, -, hgl⟩ := tab_at (HQ.out.below HS.out.b) (i := k) (by omega)
      cases e1
      obtain ⟨g2, ra, rc, e2, c1, hr3, -, -⟩ := tab_at (HQ.out.below HS.out.b) (i := k + 1) (by omega)
      cases e2
      rw [show k + 1 = 1 + k by omega] at c1
      have hl1 := lgr_len HT.out HP.out (l := k) (by have := HW.out; omega)
      have hl2 := lgr_len HT.out HP.out (l := k + 1) (by have := HW.out; omega)
      obtain ⟨y1, hy1⟩ : ∃ z, zAt (lgR m T cs zs (k + 1)) 1 = z := ⟨_, rfl⟩
      obtain ⟨y2, hy2⟩ : ∃ z, zAt (lgR m T cs zs k) ((lgR m T cs zs k).length - 2) = z := ⟨_, rfl⟩
      have HBk := Lib.hid (show bkB m T cs zs k = (y2 == y1) from by unfold bkB; rw [hy1, hy2])
      obtain ⟨j, hj⟩ : ∃ j, (lgR m T cs zs k).length - 2 = j := ⟨_, rfl⟩
      rcases hf3 with h0 | ⟨fb, fo, rfl, hfc⟩
      · omega
      rcases hr3 with h0 | ⟨rb, ro, rfl, hrc⟩
      · omega
      have d1 := hrc 1 (by omega)
      have d2 := hfc j (by omega)
      simp only [hy1] at d1
      simp only [← hj, hy2] at d2
      rw [hj] at d2
      obtain ⟨L1, hL1⟩ : ∃ L, (lgR m T cs zs k).length = L := ⟨_, rfl⟩
      obtain ⟨L2, hL2⟩ : ∃ L, (lgR m T cs zs (k + 1)).length = L := ⟨_, rfl⟩
      rw [hL1] at hl1 hj
      rw [hL1] at c0
      rw [show 1 + k = k + 1 by omega, hL2, show k + 1 = 1 + k by omega] at c1
      rw [hL2] at hl2
      have hk0 : (0 : Int) ≤ (k : Int) := by omega
      have hk1 : (k : Int) < (r : Int) := by omega
      have hk2 : (k : Int) < (r : Int) + 1 := by omega
      have hkw : IntKind.i64.wrap ((k : Int) + 1) = (k : Int) + 1 := IntWalk.i64_in _ (by omega)
      have hjw : IntKind.i64.wrap ((L1 : Int) - 2) = (j : Int) := by rw [IntWalk.i64_in _ (by omega)]; omega
      have hj0 : (0 : Int) ≤ (j : Int) := by omega
      have hj1 : (j : Int) < (L1 : Int) := by omega
      have h1L : (1 : Int) < (L2 : Int) := by omega
      have hu : undef = Value.tuple #[] := rfl
      clear hfc hrc hy1 hy2 hL1 hL2 hl1 hl2
      go_upto_region 9 with (fail)
      refine wp_region_noPanic ?_
      refine wp_region_held_drew (S := (fun Wx : World => Wx.cell? ⟨rb, ro + 1, none⟩ = some (.int .i64 y1) ∧ Wx.cell? ⟨fb, fo + j, none⟩ = some (.int .i64 y2))) (by kernel_rfl) ⟨d1, d2⟩ (fun hHeld => ?_)
      refine wpAnyH_take (i := 0) (oi := _) (v := ?_) rfl (by kernel_rfl) (by kernel_rfl) (by kernel_rfl) (fun _ _ _ h => h) (Or.inl ⟨by rfl, ?_⟩) (by assumption) ?_; rotate_left; focus (intro W hSw; (try dsimp only at hSw); go_simp; (first | done | with_reducible rfl))
      (try simp only [List.getElem_toArray, List.getElem_cons_succ, List.getElem_cons_zero, Act.put, List.setIfInBounds_toArray, List.set_cons_zero, List.set_cons_succ])
      refine wpAnyH_take (i := 1) (oi := _) (v := ?_) rfl (by kernel_rfl) (by kernel_rfl) (by kernel_rfl) (fun _ _ _ h => h) (Or.inl ⟨by rfl, ?_⟩) (by assumption) ?_; rotate_left; focus (intro W hSw; (try dsimp only at hSw); go_simp; (first | done | with_reducible rfl))
      (try simp only [List.getElem_toArray, List.getElem_cons_succ, List.getElem_cons_zero, Act.put, List.setIfInBounds_toArray, List.set_cons_zero, List.set_cons_succ])
      refine wpAnyH_take (i := 2) (oi := _) (v := ?_) rfl (by kernel_rfl) (by kernel_rfl) (by kernel_rfl) (fun _ _ _ h => h) (Or.inl ⟨by rfl, ?_⟩) (by assumption) ?_; rotate_left; focus (intro W hSw; (try dsimp only at hSw); go_simp; (first | done | with_reducible rfl))
      (try simp only [List.getElem_toArray, List.getElem_cons_succ, List.getElem_cons_zero, Act.put, List.setIfInBounds_toArray, List.set_cons_zero, List.set_cons_succ])
      refine wpAnyH_take (i := 3) (oi := _) (v := ?_) rfl (by kernel_rfl) (by kernel_rfl) (by kernel_rfl) (fun _ _ _ h => h) (Or.inl ⟨by rfl, ?_⟩) (by assumption) ?_; rotate_left; focus (intro W hSw; (try dsimp only at hSw); go_simp; (first | done | with_reducible rfl))
      (try simp only [List.getElem_toArray, List.getElem_cons_succ, List.getElem_cons_zero, Act.put, List.setIfInBounds_toArray, List.set_cons_zero, List.set_cons_succ])
      refine wpAnyH_take (i := 4) (oi := _) (v := ?_) rfl (by kernel_rfl) (by kernel_rfl) (by kernel_rfl) (fun _ _ _ h => h) (Or.inl ⟨by rfl, ?_⟩) (by assumption) ?_; rotate_left; focus (intro W hSw; (try dsimp only at hSw); go_simp; (first | done | with_reducible rfl))
      (try simp only [List.getElem_toArray, List.getElem_cons_succ, List.getElem_cons_zero, Act.put, List.setIfInBounds_toArray, List.set_cons_zero, List.set_cons_succ])
      refine wpAnyH_take (i := 5) (oi := _) (v := ?_) rfl (by kernel_rfl) (by kernel_rfl) (by kernel_rfl) (fun _ _ _ h => h) (Or.inl ⟨by rfl, ?_⟩) (by assumption) ?_; rotate_left; focus (intro W hSw; (try dsimp only at hSw); go_simp; (first | done | with_reducible rfl))
      (try simp only [List.getElem_toArray, List.getElem_cons_succ, List.getElem_cons_zero, Act.put, List.setIfInBounds_toArray, List.set_cons_zero, List.set_cons_succ])
      refine wpAnyH_take (i := 6) (oi := _) (v := ?_) rfl (by kernel_rfl) (by kernel_rfl) (by kernel_rfl) (fun _ _ _ h => h) (Or.inl ⟨by rfl, ?_⟩) (by assumption) ?_; rotate_left; focus (intro W hSw; (try dsimp only at hSw); go_simp; (first | done | with_reducible rfl))
      (try simp only [List.getElem_toArray, List.getElem_cons_succ, List.getElem_cons_zero, Act.put, List.setIfInBounds_toArray, List.set_cons_zero, List.set_cons_succ])
      refine wpAnyH_take (i := 7) (oi := _) (v := ?_) rfl (by kernel_rfl) (by kernel_rfl) (by kernel_rfl) (fun _ _ _ h => h) (Or.inl ⟨by rfl, ?_⟩) (by assumption) ?_; rotate_left; focus (intro W hSw; (try dsimp only at hSw); go_simp; (first | done | with_reducible rfl))
      (try simp only [List.getElem_toArray, List.getElem_cons_succ, List.getElem_cons_zero, Act.put, List.setIfInBounds_toArray, List.set_cons_zero, List.set_cons_succ])
      refine wpAnyH_take (i := 8) (oi := _) (v := ?_) rfl (by kernel_rfl) (by kernel_rfl) (by kernel_rfl) (fun _ _ _ h => h) (Or.inl ⟨by rfl, ?_⟩) (by assumption) ?_; rotate_left; focus (intro W hSw; (try dsimp only at hSw); go_simp; (first | done | with_reducible rfl))
      (try simp only [List.getElem_toArray, List.getElem_cons_succ, List.getElem_cons_zero, Act.put, List.setIfInBounds_toArray, List.set_cons_zero, List.set_cons_succ])
      refine wpAnyH_take (i := 9) (oi := _) (v := ?_) rfl (by kernel_rfl) (by kernel_rfl) (by kernel_rfl) (fun _ _ _ h => h) (Or.inl ⟨by rfl, ?_⟩) (by assumption) ?_; rotate_left; focus (intro W hSw; (try dsimp only at hSw); go_simp; (first | done | with_reducible rfl))
      (try simp only [List.getElem_toArray, List.getElem_cons_succ, List.getElem_cons_zero, Act.put, List.setIfInBounds_toArray, List.set_cons_zero, List.set_cons_succ])
      refine wpAnyH_done (by kernel_rfl) ?_ _
      refine NoPanic.normal ?_
      (try simp only [List.getElem_toArray, List.getElem_cons_succ, List.getElem_cons_zero, Act.put, List.setIfInBounds_toArray, List.set_cons_zero, List.set_cons_succ])
      clear hHeld hu hj
      cases hbq : (y2 == y1) with
      | false =>
        rw [hbq] at HBk
        have HNx := Lib.hid (bk_no HBk.out)
        have hbs : (y1 == y2) = false := (BEq.comm (a := y1) (b := y2)).trans hbq
        clear hbq
        go_wp2
        go_roundg (r - (k + 1))
        case measure => omega
        case rel => exact ⟨k + 1, by omega, rfl, by go_num, by rw [HNx.out]; exact HS.out.below (Below.refl _ _).drew⟩
      | true =>
        rw [hbq] at HBk
        have HNx := Lib.hid (bk_yes HBk.out)
        have hbs : (y1 == y2) = true := (BEq.comm (a := y1) (b := y2)).trans hbq
        clear hbq
        have HSd := Lib.hid (HS.out.below (Below.refl _ _).drew)
        have hbl := bk_len m T cs zs k
        obtain ⟨q, hq⟩ : ∃ q, (bkL m T cs zs k).length = q := ⟨_, rfl⟩
        rw [hq] at hbl
        have HM := Lib.hid hq
        have hown := HSd.out.own.below ((Below.refl _ _).alloc (Nat.le_refl _) (.cells #[.int .i64 ((k : Int) + 1)] 3))
        unfold OwnI at hown
        rw [hq] at hown
        have HTa := Lib.hid (HSd.out.alloc (.cells #[.int .i64 ((k : Int) + 1)] 3))
        have hsz := HS.out.b.size
        clear hq
        go_wp2_with (go_loud (at_builtin; (refine wpList_append_own _ rfl (.tmp 47) (.tmp 50) 24 rfl w1.heap.size 3 t0 (.int .i64 0) 1 8 Try.underlying24 hi0 hz0 hz1 hz2 rfl (by decide) _ q _ rfl hown ⟨_, 0, none⟩ 1 1 [.int .i64 ((k : Int) + 1)] rfl rfl (cell_one_new _ _ _) (by simp [Value.oneCell']) (by unfold maxLen; omega) (by omega) (by simp; omega) ?_; intro v' w3 hown3 hgr3 _; have HP3 := Lib.hid (HTa.out.put HM.out hgr3 hown3); clear hown3 hgr3)))
        go_roundg (r - (k + 1))
        case measure => omega
        case rel => exact ⟨k + 1, by omega, rfl, by go_num, by rw [HNx.out]; exact HP3.out⟩
    · obtain rfl : k = r := by omega
      go_wp2
      go_ret2
      exact ⟨_, rfl, by rw [← H2.out]; exact IntS.rebase HS.out.own hs1, HB1.out.trans (HS.out.b.mono hs1)⟩

set_option maxRecDepth 20000 in
set_option maxHeartbeats 8000000 in
theorem back_any (m : Mp) (T : Nat → Nat → Int) (hT : TT m T) (cs : List Ct) (hl : cs.length ≤ 1048576) (zs : List Int) (hp : CsP m T cs zs) (a b : Option Addr) (ca cb : Nat) (ad : Option Addr) (cap : Nat) (al : Option Addr) (cl : Nat) (w : World) (h : Rc m cs zs a b ad al w) :
    Calls Try.prog 68 #[.agg #[.int .i64 m.W, .int .i64 m.H, .slice a m.R.length ca, .slice b m.C.length cb], .slice ad cs.length cap, .slice al zs.length cl] w fun e w' => ∃ v, e = .returned v ∧ OwnI w' w.heap.size v (bkL m T cs zs (zs.length - 2)) ∧ Below w.heap.size w w' := by
  obtain ⟨t0, hi0, hz0, hz1, hz2⟩ := info_parts iInfo
  have HB := Lib.hid ((Below.refl w.heap.size w).alloc (Nat.le_refl _) (.cells #[.int .i64 m.W, .int .i64 m.H, .slice a m.R.length ca, .slice b m.C.length cb] 26))
  have HK := Lib.hid ((Blk.new w 26 #[.int .i64 m.W, .int .i64 m.H, .slice a m.R.length ca, .slice b m.C.length cb]).alloc (.cells #[] 3))
  have H := Lib.hid h
  have HT := Lib.hid hT
  have HP := Lib.hid hp
  obtain ⟨n, hn⟩ : ∃ n, zs.length = n := ⟨_, rfl⟩
  have HN := Lib.hid hn
  have h8 := hp.2.1
  rw [hn] at h8 ⊢
  obtain ⟨r, hr⟩ : ∃ r, n - 2 = r := ⟨_, rfl⟩
  rw [hr]
  have hrn : n = r + 2 := by omega
  obtain ⟨B, hB⟩ : ∃ B, w.heap.size = B := ⟨_, rfl⟩
  have HBq := Lib.hid hB
  have HS0 := Lib.hid (show IntK.Gr w (.slice (some ⟨w.heap.size + 1, 0, none⟩) 0 0) [] ((w.alloc (.cells #[.int .i64 m.W, .int .i64 m.H, .slice a m.R.length ca, .slice b m.C.length cb] 26)).alloc (.cells #[] 3)) from by
    have := own_ints (w.alloc (.cells #[.int .i64 m.W, .int .i64 m.H, .slice a m.R.length ca, .slice b m.C.length cb] 26)) w.heap.size (by simp)
    rw [World.size_alloc] at this
    exact ⟨HB.out.alloc (by simp) _, this⟩)
  rw [hB] at HK
  subst hrn
  have hr6 : r ≤ 6 := by omega
  clear h hp hn hT hr hB h8
  go_enter Try.func68, Try.ntmps68
  go_wp2
  try rw [HBq.out]
  go_loopg [8, 7] r (fun gk i v wr => ∃ k : Nat, k ≤ r ∧ gk = r - k ∧ i = .int .i64 ((k : Int) + 1) ∧ IntK.Gr w v (bkL m T cs zs k) wr ∧ Blk wr B 26 #[.int .i64 m.W, .int .i64 m.H, .slice a m.R.length ca, .slice b m.C.length cb])
  case atStart => exact ⟨0, Nat.zero_le _, rfl, rfl, by have h := HS0.out; rw [HBq.out] at h; exact h, HK.out⟩
  case round =>
    clear HS0 HK
    obtain ⟨k, hk, hgk, rfl, hS, hK⟩ := hrel
    have HS := Lib.hid hS
    have HK := Lib.hid hK
    clear hS hK
    have hw2 : IntKind.i64.wrap ((k : Int) + 1 + 1) = (k : Int) + 2 := by rw [IntWalk.i64_in _ (by omega)]; omega
    by_cases hlt : k < r
    · have hc2 : (k : Int) + 2 < (r : Int) + 2 := by omega
      have hc3 : (k : Int) + 1 + 1 < (r : Int) + 2 := by omega
      have hkz : k < zs.length - 1 := by rw [HN.out]; omega
      have hkz2 : k + 1 < zs.length - 1 := by rw [HN.out]; omega
      have HRc := Lib.hid (H.out.later HS.out.b)
      have CF := Lib.hid (fun w h => HN.out ▸ KrU.route_any m T HT.out cs hl zs HP.out k hkz a b ca cb ad cap al cl w h)
      have CG0 := Lib.hid (fun w h => HN.out ▸ KrU.route_any m T HT.out cs hl zs HP.out (k + 1) hkz2 a b ca cb ad cap al cl w h)
      have CG := Lib.hid (fun (w : World) (h : Rc m cs zs a b ad al w) => (show ((k + 1 : Nat) : Int) = (k : Int) + 1 by omega) ▸ CG0.out w h)
      clear CG0
      have hl1 := lgr_len HT.out HP.out hkz
      have hl2' := lgr_len HT.out HP.out hkz2
      obtain ⟨F1, hF1⟩ : ∃ F, lgR m T cs zs k = F := ⟨_, rfl⟩
      obtain ⟨F2, hF2⟩ : ∃ F, lgR m T cs zs (k + 1) = F := ⟨_, rfl⟩
      have hb0 : bkB m T cs zs k = (zAt F1 (F1.length - 2) == zAt F2 1) := by unfold bkB; rw [hF1, hF2]
      rw [hF1] at CF hl1
      rw [hF2] at CG hl2'
      have HB0 := Lib.hid hb0
      have hkw : IntKind.i64.wrap (k : Int) = (k : Int) := IntWalk.i64_in _ (by omega)
      have hu : undef = Value.tuple #[] := rfl
      clear hF1 hF2 hkz hkz2 hb0
      obtain ⟨p0, p1, p2, p3, -⟩ := MapS.Blk.four HK.out
      go_upto_region 5 with (fail)
      refine wp_region_noPanic ?_
      refine wp_region_held_drew (S := (fun Wx : World => Wx.cell? ⟨B, 0, none⟩ = some (.int .i64 m.W) ∧ Wx.cell? ⟨B, 1, none⟩ = some (.int .i64 m.H) ∧ Wx.cell? ⟨B, 2, none⟩ = some (.slice a m.R.length ca) ∧ Wx.cell? ⟨B, 3, none⟩ = some (.slice b m.C.length cb))) (by kernel_rfl) ⟨p0, p1, p2, p3⟩ (fun hHeld => ?_)
      refine wpAnyH_take (i := 0) (oi := _) (v := ?_) rfl (by kernel_rfl) (by kernel_rfl) (by kernel_rfl) (fun _ _ _ h => h) (Or.inl ⟨by rfl, ?_⟩) (by assumption) ?_; rotate_left; focus (intro W hSw; (try dsimp only at hSw); go_simp; (first | done | with_reducible rfl))
      (try simp only [List.getElem_toArray, List.getElem_cons_succ, List.getElem_cons_zero, Act.put, List.setIfInBounds_toArray, List.set_cons_zero, List.set_cons_succ])
      refine wpAnyH_take (i := 1) (oi := _) (v := ?_) rfl (by kernel_rfl) (by kernel_rfl) (by kernel_rfl) (fun _ _ _ h => h) (Or.inl ⟨by rfl, ?_⟩) (by assumption) ?_; rotate_left; focus (intro W hSw; (try dsimp only at hSw); go_simp; (first | done | with_reducible rfl))
      (try simp only [List.getElem_toArray, List.getElem_cons_succ, List.getElem_cons_zero, Act.put, List.setIfInBounds_toArray, List.set_cons_zero, List.set_cons_succ])
      refine wpAnyH_take (i := 2) (oi := _) (v := ?_) rfl (by kernel_rfl) (by kernel_rfl) (by kernel_rfl) (fun _ _ _ h => h) (Or.inl ⟨by rfl, ?_⟩) (by assumption) ?_; rotate_left; focus (intro W hSw; (try dsimp only at hSw); go_simp; (first | done | with_reducible rfl))
      (try simp only [List.getElem_toArray, List.getElem_cons_succ, List.getElem_cons_zero, Act.put, List.setIfInBounds_toArray, List.set_cons_zero, List.set_cons_succ])
      refine wpAnyH_take (i := 3) (oi := _) (v := ?_) rfl (by kernel_rfl) (by kernel_rfl) (by kernel_rfl) (fun _ _ _ h => h) (Or.inl ⟨by rfl, ?_⟩) (by assumption) ?_; rotate_left; focus (intro W hSw; (try dsimp only at hSw); go_simp; (first | done | with_reducible rfl))
      (try simp only [List.getElem_toArray, List.getElem_cons_succ, List.getElem_cons_zero, Act.put, List.setIfInBounds_toArray, List.set_cons_zero, List.set_cons_succ])
      refine wpAnyH_take (i := 4) (oi := _) (v := ?_) rfl (by kernel_rfl) (by kernel_rfl) (by kernel_rfl) (fun _ _ _ h => h) (Or.inl ⟨by rfl, ?_⟩) (by assumption) ?_; rotate_left; focus (intro W hSw; (try dsimp only at hSw); go_simp; (first | done | with_reducible rfl))
      (try simp only [List.getElem_toArray, List.getElem_cons_succ, List.getElem_cons_zero, Act.put, List.setIfInBounds_toArray, List.set_cons_zero, List.set_cons_succ])
      refine wpAnyH_take (i := 6) (oi := _) (v := ?_) rfl (by kernel_rfl) (by kernel_rfl) (by kernel_rfl) (fun _ _ _ h => h) (Or.inl ⟨by rfl, ?_⟩) (by assumption) ?_; rotate_left; focus (intro W hSw; (try dsimp only at hSw); go_simp; (first | done | with_reducible rfl))
      (try simp only [List.getElem_toArray, List.getElem_cons_succ, List.getElem_cons_zero, Act.put, List.setIfInBounds_toArray, List.set_cons_zero, List.set_cons_succ])
      refine wpAnyH_take (i := 7) (oi := _) (v := ?_) rfl (by kernel_rfl) (by kernel_rfl) (by kernel_rfl) (fun _ _ _ h => h) (Or.inl ⟨by rfl, ?_⟩) (by assumption) ?_; rotate_left; focus (intro W hSw; (try dsimp only at hSw); go_simp; (first | done | with_reducible rfl))
      (try simp only [List.getElem_toArray, List.getElem_cons_succ, List.getElem_cons_zero, Act.put, List.setIfInBounds_toArray, List.set_cons_zero, List.set_cons_succ])
      refine wpAnyH_take (i := 8) (oi := _) (v := ?_) rfl (by kernel_rfl) (by kernel_rfl) (by kernel_rfl) (fun _ _ _ h => h) (Or.inl ⟨by rfl, ?_⟩) (by assumption) ?_; rotate_left; focus (intro W hSw; (try dsimp only at hSw); go_simp; (first | done | with_reducible rfl))
      (try simp only [List.getElem_toArray, List.getElem_cons_succ, List.getElem_cons_zero, Act.put, List.setIfInBounds_toArray, List.set_cons_zero, List.set_cons_succ])
      refine wpAnyH_take (i := 9) (oi := _) (v := ?_) rfl (by kernel_rfl) (by kernel_rfl) (by kernel_rfl) (fun _ _ _ h => h) (Or.inl ⟨by rfl, ?_⟩) (by assumption) ?_; rotate_left; focus (intro W hSw; (try dsimp only at hSw); go_simp; (first | done | with_reducible rfl))
      (try simp only [List.getElem_toArray, List.getElem_cons_succ, List.getElem_cons_zero, Act.put, List.setIfInBounds_toArray, List.set_cons_zero, List.set_cons_succ])
      refine wpAnyH_ready (rs := [5]) (by kernel_rfl) (by simp) ?_
      refine AllReadyH.cons (o := _) rfl (fun K hK => ?_) AllReadyH.nil
      go_simp
      go_at_call 64
      refine (CF.out _ (HRc.out.drew)).mono ?_
      rintro e w2 ⟨v2, rfl, ho, hb⟩
      have HS2 := Lib.hid (HS.out.below ((Below.refl _ _).drew.trans hb))
      have HK2 := Lib.hid (HK.out.later ((Below.refl _ _).drew.trans hb))
      have HR2 := Lib.hid (HRc.out.drew.later hb)
      have HF := Lib.hid ho
      have hS : (w2.cell? ⟨B, 0, none⟩ = some (.int .i64 m.W) ∧ w2.cell? ⟨B, 1, none⟩ = some (.int .i64 m.H) ∧ w2.cell? ⟨B, 2, none⟩ = some (.slice a m.R.length ca) ∧ w2.cell? ⟨B, 3, none⟩ = some (.slice b m.C.length cb)) := ⟨(hb.cell (World.block_lt_of_cell? wr.drew _ p0)).trans p0, (hb.cell (World.block_lt_of_cell? wr.drew _ p1)).trans p1, (hb.cell (World.block_lt_of_cell? wr.drew _ p2)).trans p2, (hb.cell (World.block_lt_of_cell? wr.drew _ p3)).trans p3⟩
      clear hb ho HS HK HRc
      go_wp2_with fail
      refine hK.out _ _ hS (fun _ => ?_)
      clear hK K hHeld p0 p1 p2 p3
      refine wpAnyH_ready (rs := [10]) (by kernel_rfl) (by simp) ?_
      refine AllReadyH.cons (o := _) rfl (fun K hK => ?_) AllReadyH.nil
      go_simp
      go_at_call 64
      refine (CG.out _ HR2.out).mono ?_
      rintro e w3 ⟨v3, rfl, ho, hb⟩
      have HS3 := Lib.hid (HS2.out.below hb)
      have HK3 := Lib.hid (HK2.out.later hb)
      have HF3 := Lib.hid (HF.out.below hb)
      have HG3 := Lib.hid ho
      obtain ⟨p0, p1, p2, p3⟩ := hS
      have hS : (w3.cell? ⟨B, 0, none⟩ = some (.int .i64 m.W) ∧ w3.cell? ⟨B, 1, none⟩ = some (.int .i64 m.H) ∧ w3.cell? ⟨B, 2, none⟩ = some (.slice a m.R.length ca) ∧ w3.cell? ⟨B, 3, none⟩ = some (.slice b m.C.length cb)) := ⟨(hb.cell (World.block_lt_of_cell? w2 _ p0)).trans p0, (hb.cell (World.block_lt_of_cell? w2 _ p1)).trans p1, (hb.cell (World.block_lt_of_cell? w2 _ p2)).trans p2, (hb.cell (World.block_lt_of_cell? w2 _ p3)).trans p3⟩
      clear hb ho HS2 HK2 HF
      go_wp2_with fail
      refine hK.out _ _ hS (fun _ => ?_)
      clear hK K hS p0 p1 p2 p3
      obtain ⟨fa, fc, rfl, hf3, -⟩ := OwnI.slice HF3.out
      obtain ⟨ra, rc, rfl, hr3, -⟩ := OwnI.slice HG3.out
      rcases hf3 with h0 | ⟨fb, fo, rfl, hfc⟩
      · omega
      rcases hr3 with h0 | ⟨rb, ro, rfl, hrc⟩
      · omega
      obtain ⟨j, hj⟩ : ∃ j, F1.length - 2 = j := ⟨_, rfl⟩
      have d1 := hrc 1 (by omega)
      have d2 := hfc j (by omega)
      obtain ⟨y1, hy1⟩ : ∃ z, zAt F2 1 = z := ⟨_, rfl⟩
      obtain ⟨y2, hy2⟩ : ∃ z, zAt F1 j = z := ⟨_, rfl⟩
      simp only [hy1] at d1
      simp only [hy2] at d2
      have HBk := Lib.hid (show bkB m T cs zs k = (y2 == y1) from by rw [HB0.out, hj, hy1, hy2])
      obtain ⟨L1, hL1⟩ : ∃ L, F1.length = L := ⟨_, rfl⟩
      obtain ⟨L2, hL2⟩ : ∃ L, F2.length = L := ⟨_, rfl⟩
      rw [hL1] at hl1 hj
      rw [hL2] at hl2'
      try rw [hL1]
      try rw [hL2]
      have hjw : IntKind.i64.wrap ((L1 : Int) - 2) = (j : Int) := by rw [IntWalk.i64_in _ (by omega)]; omega
      have hj0 : (0 : Int) ≤ (j : Int) := by omega
      have hj1 : (j : Int) < (L1 : Int) := by omega
      have h1L : (1 : Int) < (L2 : Int) := by omega
      clear hfc hrc hy1 hy2 hL1 hL2 hl1 hl2' HF3 HG3 HB0
      refine wpAnyH_take (i := 11) (oi := _) (v := ?_) rfl (by kernel_rfl) (by kernel_rfl) (by kernel_rfl) (fun _ _ _ h => h) (Or.inl ⟨by rfl, ?_⟩) (by assumption) ?_; rotate_left; focus (intro W hSw; (try dsimp only at hSw); go_simp; (first | done | with_reducible rfl))
      (try simp only [List.getElem_toArray, List.getElem_cons_succ, List.getElem_cons_zero, Act.put, List.setIfInBounds_toArray, List.set_cons_zero, List.set_cons_succ])
      refine wpAnyH_take (i := 12) (oi := _) (v := ?_) rfl (by kernel_rfl) (by kernel_rfl) (by kernel_rfl) (fun _ _ _ h => h) (Or.inl ⟨by rfl, ?_⟩) (by assumption) ?_; rotate_left; focus (intro W hSw; (try dsimp only at hSw); go_simp; (first | done | with_reducible rfl))
      (try simp only [List.getElem_toArray, List.getElem_cons_succ, List.getElem_cons_zero, Act.put, List.setIfInBounds_toArray, List.set_cons_zero, List.set_cons_succ])
      refine wpAnyH_done (by kernel_rfl) ?_ _
      refine NoPanic.normal ?_
      (try simp only [List.getElem_toArray, List.getElem_cons_succ, List.getElem_cons_zero, Act.put, List.setIfInBounds_toArray, List.set_cons_zero, List.set_cons_succ])
      go_upto_region 6 with (fail)
      refine wp_region_noPanic ?_
      refine wp_region_held_drew (S := (fun Wx : World => Wx.cell? ⟨rb, ro + 1, none⟩ = some (.int .i64 y1) ∧ Wx.cell? ⟨fb, fo + j, none⟩ = some (.int .i64 y2))) (by kernel_rfl) ⟨d1, d2⟩ (fun hHeld => ?_)
      refine wpAnyH_take (i := 0) (oi := _) (v := ?_) rfl (by kernel_rfl) (by kernel_rfl) (by kernel_rfl) (fun _ _ _ h => h) (Or.inl ⟨by rfl, ?_⟩) (by assumption) ?_; rotate_left; focus (intro W hSw; (try dsimp only at hSw); go_simp; (first | done | with_reducible rfl))
      (try simp only [List.getElem_toArray, List.getElem_cons_succ, List.getElem_cons_zero, Act.put, List.setIfInBounds_toArray, List.set_cons_zero, List.set_cons_succ])
      refine wpAnyH_take (i := 1) (oi := _) (v := ?_) rfl (by kernel_rfl) (by kernel_rfl) (by kernel_rfl) (fun _ _ _ h => h) (Or.inl ⟨by rfl, ?_⟩) (by assumption) ?_; rotate_left; focus (intro W hSw; (try dsimp only at hSw); go_simp; (first | done | with_reducible rfl))
      (try simp only [List.getElem_toArray, List.getElem_cons_succ, List.getElem_cons_zero, Act.put, List.setIfInBounds_toArray, List.set_cons_zero, List.set_cons_succ])
      refine wpAnyH_take (i := 2) (oi := _) (v := ?_) rfl (by kernel_rfl) (by kernel_rfl) (by kernel_rfl) (fun _ _ _ h => h) (Or.inl ⟨by rfl, ?_⟩) (by assumption) ?_; rotate_left; focus (intro W hSw; (try dsimp only at hSw); go_simp; (first | done | with_reducible rfl))
      (try simp only [List.getElem_toArray, List.getElem_cons_succ, List.getElem_cons_zero, Act.put, List.setIfInBounds_toArray, List.set_cons_zero, List.set_cons_succ])
      refine wpAnyH_take (i := 3) (oi := _) (v := ?_) rfl (by kernel_rfl) (by kernel_rfl) (by kernel_rfl) (fun _ _ _ h => h) (Or.inl ⟨by rfl, ?_⟩) (by assumption) ?_; rotate_left; focus (intro W hSw; (try dsimp only at hSw); go_simp; (first | done | with_reducible rfl))
      (try simp only [List.getElem_toArray, List.getElem_cons_succ, List.getElem_cons_zero, Act.put, List.setIfInBounds_toArray, List.set_cons_zero, List.set_cons_succ])
      refine wpAnyH_take (i := 4) (oi := _) (v := ?_) rfl (by kernel_rfl) (by kernel_rfl) (by kernel_rfl) (fun _ _ _ h => h) (Or.inl ⟨by rfl, ?_⟩) (by assumption) ?_; rotate_left; focus (intro W hSw; (try dsimp only at hSw); go_simp; (first | done | with_reducible rfl))
      (try simp only [List.getElem_toArray, List.getElem_cons_succ, List.getElem_cons_zero, Act.put, List.setIfInBounds_toArray, List.set_cons_zero, List.set_cons_succ])
      refine wpAnyH_take (i := 5) (oi := _) (v := ?_) rfl (by kernel_rfl) (by kernel_rfl) (by kernel_rfl) (fun _ _ _ h => h) (Or.inl ⟨by rfl, ?_⟩) (by assumption) ?_; rotate_left; focus (intro W hSw; (try dsimp only at hSw); go_simp; (first | done | with_reducible rfl))
      (try simp only [List.getElem_toArray, List.getElem_cons_succ, List.getElem_cons_zero, Act.put, List.setIfInBounds_toArray, List.set_cons_zero, List.set_cons_succ])
      refine wpAnyH_take (i := 6) (oi := _) (v := ?_) rfl (by kernel_rfl) (by kernel_rfl) (by kernel_rfl) (fun _ _ _ h => h) (Or.inl ⟨by rfl, ?_⟩) (by assumption) ?_; rotate_left; focus (intro W hSw; (try dsimp only at hSw); go_simp; (first | done | with_reducible rfl))
      (try simp only [List.getElem_toArray, List.getElem_cons_succ, List.getElem_cons_zero, Act.put, List.setIfInBounds_toArray, List.set_cons_zero, List.set_cons_succ])
      refine wpAnyH_take (i := 7) (oi := _) (v := ?_) rfl (by kernel_rfl) (by kernel_rfl) (by kernel_rfl) (fun _ _ _ h => h) (Or.inl ⟨by rfl, ?_⟩) (by assumption) ?_; rotate_left; focus (intro W hSw; (try dsimp only at hSw); go_simp; (first | done | with_reducible rfl))
      (try simp only [List.getElem_toArray, List.getElem_cons_succ, List.getElem_cons_zero, Act.put, List.setIfInBounds_toArray, List.set_cons_zero, List.set_cons_succ])
      refine wpAnyH_take (i := 8) (oi := _) (v := ?_) rfl (by kernel_rfl) (by kernel_rfl) (by kernel_rfl) (fun _ _ _ h => h) (Or.inl ⟨by rfl, ?_⟩) (by assumption) ?_; rotate_left; focus (intro W hSw; (try dsimp only at hSw); go_simp; (first | done | with_reducible rfl))
      (try simp only [List.getElem_toArray, List.getElem_cons_succ, List.getElem_cons_zero, Act.put, List.setIfInBounds_toArray, List.set_cons_zero, List.set_cons_succ])
      refine wpAnyH_take (i := 9) (oi := _) (v := ?_) rfl (by kernel_rfl) (by kernel_rfl) (by kernel_rfl) (fun _ _ _ h => h) (Or.inl ⟨by rfl, ?_⟩) (by assumption) ?_; rotate_left; focus (intro W hSw; (try dsimp only at hSw); go_simp; (first | done | with_reducible rfl))
      (try simp only [List.getElem_toArray, List.getElem_cons_succ, List.getElem_cons_zero, Act.put, List.setIfInBounds_toArray, List.set_cons_zero, List.set_cons_succ])
      refine wpAnyH_done (by kernel_rfl) ?_ _
      refine NoPanic.normal ?_
      (try simp only [List.getElem_toArray, List.getElem_cons_succ, List.getElem_cons_zero, Act.put, List.setIfInBounds_toArray, List.set_cons_zero, List.set_cons_succ])
      clear hHeld hu hj
      cases hbq : (y2 == y1) with
      | false =>
        rw [hbq] at HBk
        have HNx := Lib.hid (bk_no HBk.out)
        clear hbq
        go_wp2
        go_roundg (r - (k + 1))
        case measure => omega
        case rel => exact ⟨k + 1, by omega, rfl, by go_num, by rw [HNx.out]; exact HS3.out.below (Below.refl _ _).drew, HK3.out.drew⟩
      | true =>
        rw [hbq] at HBk
        have HNx := Lib.hid (bk_yes HBk.out)
        clear hbq
        have HSd := Lib.hid (HS3.out.below (Below.refl _ _).drew)
        have HKd := Lib.hid (HK3.out.drew.alloc (.cells #[.int .i64 ((k : Int) + 1)] 3))
        have hbl := bk_len m T cs zs k
        obtain ⟨q, hq⟩ : ∃ q, (bkL m T cs zs k).length = q := ⟨_, rfl⟩
        rw [hq] at hbl
        have HM := Lib.hid hq
        have hown := HSd.out.own.below ((Below.refl _ _).alloc (Nat.le_refl _) (.cells #[.int .i64 ((k : Int) + 1)] 3))
        unfold OwnI at hown
        rw [hq] at hown
        have HTa := Lib.hid (HSd.out.alloc (.cells #[.int .i64 ((k : Int) + 1)] 3))
        have hsz := HS3.out.b.size
        clear hq
        go_wp2_with (go_loud (at_builtin; (refine wpList_append_own _ rfl (.tmp 40) (.tmp 42) 24 rfl w.heap.size 3 t0 (.int .i64 0) 1 8 Try.underlying24 hi0 hz0 hz1 hz2 rfl (by decide) _ q _ rfl hown ⟨_, 0, none⟩ 1 1 [.int .i64 ((k : Int) + 1)] rfl rfl (cell_one_new _ _ _) (by simp [Value.oneCell']) (by unfold maxLen; omega) (by omega) (by simp; omega) ?_; intro v' w3 hown3 hgr3 _; have HP3 := Lib.hid (HTa.out.put HM.out hgr3 hown3); have HKP := Lib.hid (blk_keep hown HKd.out (by decide) hgr3); clear hown3 hgr3)))
        go_roundg (r - (k + 1))
        case measure => omega
        case rel => exact ⟨k + 1, by omega, rfl, by go_num, by rw [HNx.out]; exact HP3.out, HKP.out⟩
    · obtain rfl : k = r := by omega
      have hc2 : ¬ (k : Int) + 2 < (k : Int) + 2 := by omega
      go_wp2
      go_ret
      exact ⟨_, rfl, HS.out.own, HS.out.b⟩

set_option maxHeartbeats 2000000 in
theorem back_spec (m : Mp) (T : Nat → Nat → Int) (hT : TT m T) (cs : List Ct) (hl : cs.length ≤ 1048576) (zs : List Int) (hl2 : zs.length ≤ 1048576) (hR : m.R.length ≤ maxLen) (hC : m.C.length ≤ maxLen) (a b : Option Addr) (ca cb : Nat) (ad : Option Addr) (cap : Nat) (al : Option Addr) (cl : Nat) (w : World) (h : Rc m cs zs a b ad al w) :
    Calls Try.prog 44 #[.agg #[.int .i64 m.W, .int .i64 m.H, .slice a m.R.length ca, .slice b m.C.length cb], .slice ad cs.length cap, .slice al zs.length cl] w (NPost w (blL m T cs zs) (csB m T cs zs)) := by
  have HB := Lib.hid ((Below.refl w.heap.size w).alloc (Nat.le_refl _) (.cells #[.int .i64 m.W, .int .i64 m.H, .slice a m.R.length ca, .slice b m.C.length cb] 26))
  have HK := Lib.hid (Blk.new w 26 #[.int .i64 m.W, .int .i64 m.H, .slice a m.R.length ca, .slice b m.C.length cb])
  have H := Lib.hid h
  obtain ⟨ok, hok⟩ : ∃ o, csB m T cs zs = o := ⟨_, rfl⟩
  have c1 := Lib.hid (fun w h => hok ▸ good_any m T hT cs hl zs hl2 hR hC a b ca cb ad cap al cl w h)
  have HO := Lib.hid hok
  obtain ⟨us, hus⟩ : ∃ o, blL m T cs zs = o := ⟨_, rfl⟩
  have HU := Lib.hid hus
  have HT := Lib.hid hT
  rw [hok, hus]
  clear h hT hok hus
  go_enter Try.func44, Try.ntmps44
  go_wp2_with fail
  refine (c1.out _ (H.out.later HB.out)).mono ?_
  rintro e w1 ⟨rfl, hb⟩
  have HB1 := Lib.hid (HB.out.trans (hb.mono (by simp)))
  have HK1 := Lib.hid (HK.out.later hb)
  have hs1 := HB1.out.size
  clear hb HB HK c1
  cases ok with
  | false =>
    have h2 : us = [] := by rw [← HU.out]; unfold blL; rw [HO.out]; rfl
    subst h2
    go_wp2
    go_ret2
    exact ⟨_, rfl, own_ints w1 _ hs1, HB1.out.alloc hs1 _⟩
  | true =>
    have hp := cs_iff.1 HO.out
    have h2 : bkL m T cs zs (zs.length - 2) = us := by rw [← HU.out]; unfold blL; rw [HO.out]; rfl
    have c2 := back_any m T HT.out cs hl zs hp a b ca cb ad cap al cl w1 (H.out.later HB1.out)
    rw [h2] at c2
    have C2 := Lib.hid c2
    obtain ⟨p0, p1, p2, p3, -⟩ := MapS.Blk.four HK1.out
    clear hp h2 c2
    go_wp2_with fail
    refine C2.out.mono ?_
    rintro e w2 ⟨v, rfl, ho, hb⟩
    have HB2 := Lib.hid (HB1.out.trans (hb.mono hs1))
    have HO2 := Lib.hid (IntS.rebase ho hs1)
    clear hb ho p0 p1 p2 p3
    go_wp2
    go_ret2
    exact ⟨_, rfl, HO2.out, HB2.out⟩

theorem back (m : Mp) (hR : m.R.length ≤ maxLen) (hC : m.C.length ≤ maxLen) (cs : List Ct) (hf : ∀ i, i < cs.length → Is (at_ cs i)) (hl : cs.length ≤ 1048576) (zs : List Int) (hz : zs.length ≤ 1048576) : ∃ (us : List Int) (ok : Bool), us.length ≤ 1048576 ∧
    (∀ a b ca cb ad cap al cl w, IRow w a m.R → IRow w b m.C → cs.length ≤ cap → Row w ad cs → zs.length ≤ cl → IntK.Row w al zs → Calls Try.prog 44 #[.agg #[.int .i64 m.W, .int .i64 m.H, .slice a m.R.length ca, .slice b m.C.length cb], .slice ad cs.length cap, .slice al zs.length cl] w fun e w' => ∃ v, e = .returned (.tuple #[v, .bool ok]) ∧ IntK.Own w' w.heap.size v us ∧ Below w.heap.size w w') ∧
    (∀ a b ca cb ad cap al cl w, IRow w a m.R → IRow w b m.C → cs.length ≤ cap → Row w ad cs → zs.length ≤ cl → IntK.Row w al zs → Calls Try.prog 27 #[.agg #[.int .i64 m.W, .int .i64 m.H, .slice a m.R.length ca, .slice b m.C.length cb], .slice ad cs.length cap, .slice al zs.length cl] w fun e w' => ∃ v, e = .returned (.tuple #[v, .bool ok]) ∧ IntK.Own w' w.heap.size v us ∧ Below w.heap.size w w') := by
  obtain ⟨T, hT⟩ := tt_ex m
  refine ⟨blL m T cs zs, csB m T cs zs, (by have := bl_len m T cs zs; omega), fun a b ca cb ad cap al cl w h1 h2 _ h3 h4 h5 => back_spec m T hT cs hl zs hz hR hC a b ca cb ad cap al cl w ⟨⟨h1, h2, h3⟩, h5⟩, fun a b ca cb ad cap al cl w h1 h2 _ h3 h4 h5 => back_impl m T hT cs hl zs hz hR hC a b ca cb ad cap al cl w ⟨⟨h1, h2, h3⟩, h5⟩⟩
end Go.Proofs.Ytdfmfmndmldggaa.KrW
