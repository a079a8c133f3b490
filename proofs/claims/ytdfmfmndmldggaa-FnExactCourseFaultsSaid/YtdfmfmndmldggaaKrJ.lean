/- Courses: CourseFaults, both texts. -/
import Derived.Test.YtdfmfmndmldggaaKrF
import Derived.Test.YtdfmfmndmldggaaKrU
namespace Go.Proofs.Ytdfmfmndmldggaa.KrJ
open Go.RowKit Lb Bk IntS CtK CoM CoP CoF CoC KrM KrI KrG KrT KrW KrF LtI
open KrR (blk_keep rn r_yes r_no)
open KrO (own_ints rn_le rn_csp lgC)
open Cells (NPost)
set_option linter.unusedSimpArgs false
set_option linter.unusedVariables false

theorem if_t (x : Int) : ifL true x = [x] := rfl
theorem if_f (x : Int) : ifL false x = [] := rfl

set_option maxRecDepth 20000 in
set_option maxHeartbeats 8000000 in
theorem faults_impl (m : Mp) (T : Nat → Nat → Int) (hT : TT m T) (cs : List Ct) (hl : cs.length ≤ 1048576) (zs : List Int) (hl2 : zs.length ≤ 1048576) (hR : m.R.length ≤ maxLen) (hC : m.C.length ≤ maxLen) (a b : Option Addr) (ca cb : Nat) (ad : Option Addr) (cap : Nat) (al : Option Addr) (cl : Nat) (w : World) (h : Rc m cs zs a b ad al w) (hcap : cs.length ≤ cap) (hcl : zs.length ≤ cl) :
    Calls Try.prog 26 #[.agg #[.int .i64 m.W, .int .i64 m.H, .slice a m.R.length ca, .slice b m.C.length cb], .slice ad cs.length cap, .slice al zs.length cl] w (NPost w (faL m T cs zs) (csB m T cs zs)) := by
  obtain ⟨t0, hi0, hz0, hz1, hz2⟩ := info_parts iInfo
  have HB := Lib.hid ((Below.refl w.heap.size w).alloc (Nat.le_refl _) (.cells #[.int .i64 m.W, .int .i64 m.H, .slice a m.R.length ca, .slice b m.C.length cb] 26))
  have HK := Lib.hid (Blk.new w 26 #[.int .i64 m.W, .int .i64 m.H, .slice a m.R.length ca, .slice b m.C.length cb])
  have H := Lib.hid h
  obtain ⟨ok, hok⟩ : ∃ o, csB m T cs zs = o := ⟨_, rfl⟩
  obtain ⟨r0, hr0⟩ : ∃ o, rn m T cs zs = o := ⟨_, rfl⟩
  have c1 : ∀ w, Rc m cs zs a b ad al w → Calls Try.prog 18 #[.agg #[.int .i64 m.W, .int .i64 m.H, .slice a m.R.length ca, .slice b m.C.length cb], .slice ad cs.length cap, .slice al zs.length cl] w (NPost w (seqL (lgT T cs zs) r0) ok) := fun w h => by
    have := KrO.times_impl m T hT cs hl zs hl2 hR hC a b ca cb ad cap al cl w h
    rwa [hok, hr0] at this
  have c4 : ∀ w, Rc m cs zs a b ad al w → Calls Try.prog 27 #[.agg #[.int .i64 m.W, .int .i64 m.H, .slice a m.R.length ca, .slice b m.C.length cb], .slice ad cs.length cap, .slice al zs.length cl] w (NPost w (blL m T cs zs) ok) := fun w h => by
    have := back_impl m T hT cs hl zs hl2 hR hC a b ca cb ad cap al cl w h
    rwa [hok] at this
  replace c1 := Lib.hid c1
  replace c4 := Lib.hid c4
  have c2 := Lib.hid (fun w h => tw_impl zs hl2 al cl hcl w h)
  have HO := Lib.hid hok
  have HZ := Lib.hid hr0
  obtain ⟨us, hus⟩ : ∃ o, faL m T cs zs = o := ⟨_, rfl⟩
  have HU := Lib.hid hus
  rw [hok, hus]
  clear h hok hr0 hus hT
  go_enter Try.func26, Try.ntmps26
  go_wp2_with fail
  refine (c1.out _ (H.out.later HB.out)).mono ?_
  rintro e w1 ⟨v1, rfl, ho, hb⟩
  have HB1 := Lib.hid (HB.out.trans (hb.mono (by simp)))
  have HK1 := Lib.hid (HK.out.later hb)
  have hs1 := HB1.out.size
  cases ok with
  | false =>
    have h2 : us = [] := by rw [← HU.out]; unfold faL; rw [HO.out]; rfl
    subst h2
    clear hb HB HK c1 c2 c4 ho
    go_wp2
    go_ret2
    exact ⟨_, rfl, own_ints w1 _ hs1, HB1.out.alloc hs1 _⟩
  | true =>
  have HP := Lib.hid (cs_iff.1 HO.out)
  have hr : zs.length - 1 = r0 := by rw [← HZ.out]; unfold rn; rw [HO.out]; rfl
  have HW := Lib.hid hr
  have hn8 := HP.out.2.1
  obtain ⟨ga, gc, rfl, hrow, -⟩ := OwnI.slice ho
  have HRt := Lib.hid hrow
  rw [seq_len]
  obtain ⟨n, hn⟩ : ∃ n, zs.length = n := ⟨_, rfl⟩
  have HN := Lib.hid hn
  have hr1 : 1 ≤ r0 := by omega
  have hrw : (r0 : Int) ≤ 7 := by omega
  have HS0 := Lib.hid (IntK.Gr.start w1)
  have hUs : ifL (decide (zs.length < 4)) 1 ++ ifL (twB zs zs.length) 2 ++ ifL (clB (lgT T cs zs) (zs.length - 1)) 3 ++ ifL (decide (0 < (bkL m T cs zs (zs.length - 2)).length)) 4 = us := by rw [← HU.out]; unfold faL; rw [HO.out]; rfl
  have HUs := Lib.hid hUs
  have hbl : blL m T cs zs = bkL m T cs zs (zs.length - 2) := by unfold blL; rw [HO.out]; rfl
  have HBL := Lib.hid hbl
  have hbll := bl_len m T cs zs
  rw [hn] at hl2 hcl c2
  rw [hn] at c4 hn8
  rw [hn]
  clear hb HB HK c1 ho hrow hr hUs hbl hn
  obtain ⟨hn2, hn8⟩ := hn8
  obtain ⟨t1, ht1⟩ : ∃ t, decide ((n : Int) < 4) = t := ⟨_, rfl⟩
  have HT1 := Lib.hid (show decide (zs.length < 4) = t1 from by rw [← ht1, HN.out]; exact decide_eq_decide.2 (by omega))
  go_upto_if 26 with (fail)
  clear ht1
  have hsg := HS0.out.b.size
  generalize w1.alloc (.cells #[] 3) = wg at *
  go_cut [10] from 27 to 30 (fun s wx => IntK.Gr w1 s (ifL (decide (zs.length < 4)) 1) wx)
  case first =>
    cases t1 with
    | true =>
      have HE := Lib.hid (show ifL (decide (zs.length < 4)) 1 = [] ++ [1] from by rw [HT1.out]; rfl)
      have hLl : ([] : List Int).length ≤ 3 := by simp
      have HG := HS0
      obtain ⟨q, hq⟩ : ∃ q, (([] : List Int)).length = q := ⟨_, rfl⟩
      have hq3 : q ≤ 3 := by rw [← hq]; exact hLl
      have HM := Lib.hid hq
      have hown := HG.out.own.below ((Below.refl _ _).alloc (Nat.le_refl _) (.cells #[.int .i64 1] 3))
      unfold OwnI at hown
      rw [hq] at hown
      have HTa := Lib.hid (HG.out.alloc (.cells #[.int .i64 1] 3))
      have hsz : w1.heap.size ≤ wg.heap.size := HG.out.b.size
      clear hq
      go_wp2_with (go_loud (at_builtin; (refine wpList_append_own _ rfl (.tmp 27) (.tmp 28) 24 rfl w1.heap.size 3 t0 (.int .i64 0) 1 8 Try.underlying24 hi0 hz0 hz1 hz2 rfl (by decide) _ q _ rfl hown ⟨_, 0, none⟩ 1 1 [.int .i64 1] rfl rfl (cell_one_new _ _ _) (by simp [Value.oneCell']) (by unfold maxLen; omega) (by omega) (by simp; omega) ?_; intro v' w3 hown3 hgr3 _; have HP3 := Lib.hid (HTa.out.put HM.out hgr3 hown3); clear hown3 hgr3)))
      go_meet
      rw [HE.out]
      exact HP3.out
    | false =>
      have HE := Lib.hid (show ifL (decide (zs.length < 4)) 1 = [] from by rw [HT1.out]; rfl)
      go_wp2
      go_meet
      rw [HE.out]
      exact HS0.out
  case rest =>
  have HG1 := Lib.hid hcut
  clear hcut HS0
  obtain ⟨tw, htw⟩ : ∃ t, twB zs zs.length = t := ⟨_, rfl⟩
  have HTw := Lib.hid htw
  rw [HN.out] at htw
  have C2 := Lib.hid (c2.out _ (RowAt.below H.out.z (HB1.out.trans (HG1.out.b.mono hs1))))
  rw [htw] at C2
  clear htw c2
  go_upto_if 31 with (go_at_call 65; refine C2.out.mono ?_; rintro e w2 ⟨rfl, hq⟩; obtain rfl := hq.symm)
  go_cut [10] from 32 to 35 (fun s wx => IntK.Gr w1 s (ifL (decide (zs.length < 4)) 1 ++ ifL (twB zs zs.length) 2) wx)
  case first =>
    cases tw with
    | true =>
      have HE := Lib.hid (show ifL (decide (zs.length < 4)) 1 ++ ifL (twB zs zs.length) 2 = ifL (decide (zs.length < 4)) 1 ++ [2] from by rw [HTw.out]; rfl)
      have hLl : (ifL (decide (zs.length < 4)) 1).length ≤ 3 := by
        have h1 := if_len (decide (zs.length < 4)) 1
        have h2 := if_len (twB zs zs.length) 2
        have h3 := if_len (clB (lgT T cs zs) (zs.length - 1)) 3
        try simp only [List.length_append, List.length_nil]
        omega
      have HG := HG1
      obtain ⟨q, hq⟩ : ∃ q, (ifL (decide (zs.length < 4)) 1).length = q := ⟨_, rfl⟩
      have hq3 : q ≤ 3 := by rw [← hq]; exact hLl
      have HM := Lib.hid hq
      have hown := HG.out.own.below ((Below.refl _ _).alloc (Nat.le_refl _) (.cells #[.int .i64 2] 3))
      unfold OwnI at hown
      rw [hq] at hown
      have HTa := Lib.hid (HG.out.alloc (.cells #[.int .i64 2] 3))
      have hsz : w1.heap.size ≤ wc.heap.size := HG.out.b.size
      clear hq
      go_wp2_with (go_loud (at_builtin; (refine wpList_append_own _ rfl (.tmp 32) (.tmp 33) 24 rfl w1.heap.size 3 t0 (.int .i64 0) 1 8 Try.underlying24 hi0 hz0 hz1 hz2 rfl (by decide) _ q _ rfl hown ⟨_, 0, none⟩ 1 1 [.int .i64 2] rfl rfl (cell_one_new _ _ _) (by simp [Value.oneCell']) (by unfold maxLen; omega) (by omega) (by simp; omega) ?_; intro v' w3 hown3 hgr3 _; have HP3 := Lib.hid (HTa.out.put HM.out hgr3 hown3); clear hown3 hgr3)))
      go_meet
      rw [HE.out]
      exact HP3.out
    | false =>
      have HE := Lib.hid (show ifL (decide (zs.length < 4)) 1 ++ ifL (twB zs zs.length) 2 = ifL (decide (zs.length < 4)) 1 from by rw [HTw.out, if_f, List.append_nil])
      go_wp2
      go_meet
      rw [HE.out]
      exact HG1.out
  case rest =>
  have HG2 := Lib.hid hcut
  clear hcut HG1 C2
  obtain ⟨t3, ht3⟩ : ∃ t, clB (lgT T cs zs) (zs.length - 1) = t := ⟨_, rfl⟩
  have HT3 := Lib.hid ht3
  rw [HW.out] at ht3
  have hmn := min_cl (f := lgT T cs zs) (n := r0) hr1
  rw [ht3] at hmn
  have hrd := RowAt.below HRt.out HG2.out.b
  obtain ⟨mb, mo, rfl, hmc⟩ : ∃ b off, ga = some ⟨b, off, none⟩ ∧ ∀ j, j < (seqL (lgT T cs zs) r0).length → wc.cell? ⟨b, off + j, none⟩ = some (.int .i64 (zAt (seqL (lgT T cs zs) r0) j)) := by
    rcases hrd with h0 | h
    · rw [seq_len] at h0; omega
    · exact h
  have c3 := Try.slices_Min_int mb mo r0 gc (seqL (lgT T cs zs) r0) wc hr1 (by rw [seq_len]; exact Nat.le_refl _) (by omega) hmc
  rw [take_all _ (seq_len _ _)] at c3
  have C3 := Lib.hid c3
  obtain ⟨mz, hmz⟩ : ∃ z, Lib.minOf (seqL (lgT T cs zs) r0) = z := ⟨_, rfl⟩
  rw [hmz] at C3 hmn
  clear c3 hmc hrd ht3 hmz
  go_upto_if 37 with (go_at_call 66; refine C3.out.mono ?_; rintro e w2 ⟨rfl, hq⟩; obtain rfl := hq.symm)
  go_cut [10] from 38 to 41 (fun s wx => IntK.Gr w1 s (ifL (decide (zs.length < 4)) 1 ++ ifL (twB zs zs.length) 2 ++ ifL (clB (lgT T cs zs) (zs.length - 1)) 3) wx)
  case first =>
    cases t3 with
    | true =>
      have HE := Lib.hid (show ifL (decide (zs.length < 4)) 1 ++ ifL (twB zs zs.length) 2 ++ ifL (clB (lgT T cs zs) (zs.length - 1)) 3 = ifL (decide (zs.length < 4)) 1 ++ ifL (twB zs zs.length) 2 ++ [3] from by rw [HT3.out]; rfl)
      have hLl : (ifL (decide (zs.length < 4)) 1 ++ ifL (twB zs zs.length) 2).length ≤ 3 := by
        have h1 := if_len (decide (zs.length < 4)) 1
        have h2 := if_len (twB zs zs.length) 2
        have h3 := if_len (clB (lgT T cs zs) (zs.length - 1)) 3
        try simp only [List.length_append, List.length_nil]
        omega
      have HG := HG2
      obtain ⟨q, hq⟩ : ∃ q, (ifL (decide (zs.length < 4)) 1 ++ ifL (twB zs zs.length) 2).length = q := ⟨_, rfl⟩
      have hq3 : q ≤ 3 := by rw [← hq]; exact hLl
      have HM := Lib.hid hq
      have hown := HG.out.own.below ((Below.refl _ _).alloc (Nat.le_refl _) (.cells #[.int .i64 3] 3))
      unfold OwnI at hown
      rw [hq] at hown
      have HTa := Lib.hid (HG.out.alloc (.cells #[.int .i64 3] 3))
      have hsz : w1.heap.size ≤ wc.heap.size := HG.out.b.size
      clear hq
      go_wp2_with (go_loud (at_builtin; (refine wpList_append_own _ rfl (.tmp 38) (.tmp 39) 24 rfl w1.heap.size 3 t0 (.int .i64 0) 1 8 Try.underlying24 hi0 hz0 hz1 hz2 rfl (by decide) _ q _ rfl hown ⟨_, 0, none⟩ 1 1 [.int .i64 3] rfl rfl (cell_one_new _ _ _) (by simp [Value.oneCell']) (by unfold maxLen; omega) (by omega) (by simp; omega) ?_; intro v' w3 hown3 hgr3 _; have HP3 := Lib.hid (HTa.out.put HM.out hgr3 hown3); clear hown3 hgr3)))
      go_meet
      rw [HE.out]
      exact HP3.out
    | false =>
      have HE := Lib.hid (show ifL (decide (zs.length < 4)) 1 ++ ifL (twB zs zs.length) 2 ++ ifL (clB (lgT T cs zs) (zs.length - 1)) 3 = ifL (decide (zs.length < 4)) 1 ++ ifL (twB zs zs.length) 2 from by rw [HT3.out, if_f, List.append_nil])
      go_wp2
      go_meet
      rw [HE.out]
      exact HG2.out
  case rest =>
  have HG3 := Lib.hid hcut
  clear hcut HG2 HRt
  obtain ⟨p0, p1, p2, p3, -⟩ := MapS.Blk.four (HK1.out.later HG3.out.b)
  have C4 := Lib.hid (c4.out _ (H.out.later (HB1.out.trans (HG3.out.b.mono hs1))))
  try rw [HN.out] at C4
  clear c4
  obtain ⟨bl, hbl⟩ : ∃ q, (blL m T cs zs).length = q := ⟨_, rfl⟩
  have HBl := Lib.hid hbl
  rw [hbl] at hbll
  rw [HBL.out] at HBl
  obtain ⟨t4, ht4⟩ : ∃ t, decide ((0 : Int) < (bl : Int)) = t := ⟨_, rfl⟩
  have HT4 := Lib.hid (show decide (0 < bl) = t4 from by rw [← ht4]; exact decide_eq_decide.2 (by omega))
  have HBL2 := Lib.hid hbl
  clear hbl
  have ht4' : decide (0 < bl) = t4 := HT4.out
  go_upto_if 50 with (go_at_call 27; refine C4.out.mono ?_; rintro e w2 ⟨v2, rfl, ho, hb⟩; obtain ⟨ba, bc, rfl, -, -⟩ := OwnI.slice ho; rw [HBL2.out]; have HG4 := Lib.hid (HG3.out.below hb); clear ho hb)
  clear p0 p1 p2 p3 C4 ht4 ht4'
  go_cut [10] from 51 to 54 (fun s wx => IntK.Gr w1 s us wx)
  case first =>
    cases t4 with
    | true =>
      have HE := Lib.hid (show us = ifL (decide (zs.length < 4)) 1 ++ ifL (twB zs zs.length) 2 ++ ifL (clB (lgT T cs zs) (zs.length - 1)) 3 ++ [4] from by rw [← HUs.out, HBl.out, HT4.out]; rfl)
      have hLl : (ifL (decide (zs.length < 4)) 1 ++ ifL (twB zs zs.length) 2 ++ ifL (clB (lgT T cs zs) (zs.length - 1)) 3).length ≤ 3 := by
        have h1 := if_len (decide (zs.length < 4)) 1
        have h2 := if_len (twB zs zs.length) 2
        have h3 := if_len (clB (lgT T cs zs) (zs.length - 1)) 3
        try simp only [List.length_append, List.length_nil]
        omega
      have HG := HG4
      obtain ⟨q, hq⟩ : ∃ q, (ifL (decide (zs.length < 4)) 1 ++ ifL (twB zs zs.length) 2 ++ ifL (clB (lgT T cs zs) (zs.length - 1)) 3).length = q := ⟨_, rfl⟩
      have hq3 : q ≤ 3 := by rw [← hq]; exact hLl
      have HM := Lib.hid hq
      have hown := HG.out.own.below ((Below.refl _ _).alloc (Nat.le_refl _) (.cells #[.int .i64 4] 3))
      unfold OwnI at hown
      rw [hq] at hown
      have HTa := Lib.hid (HG.out.alloc (.cells #[.int .i64 4] 3))
      have hsz : w1.heap.size ≤ w2.heap.size := HG.out.b.size
      clear hq
      go_wp2_with (go_loud (at_builtin; (refine wpList_append_own _ rfl (.tmp 51) (.tmp 52) 24 rfl w1.heap.size 3 t0 (.int .i64 0) 1 8 Try.underlying24 hi0 hz0 hz1 hz2 rfl (by decide) _ q _ rfl hown ⟨_, 0, none⟩ 1 1 [.int .i64 4] rfl rfl (cell_one_new _ _ _) (by simp [Value.oneCell']) (by unfold maxLen; omega) (by omega) (by simp; omega) ?_; intro v' w3 hown3 hgr3 _; have HP3 := Lib.hid (HTa.out.put HM.out hgr3 hown3); clear hown3 hgr3)))
      go_meet
      rw [HE.out]
      exact HP3.out
    | false =>
      have HE := Lib.hid (show us = ifL (decide (zs.length < 4)) 1 ++ ifL (twB zs zs.length) 2 ++ ifL (clB (lgT T cs zs) (zs.length - 1)) 3 from by rw [← HUs.out, HBl.out, HT4.out]; exact List.append_nil _)
      go_wp2
      go_meet
      rw [HE.out]
      exact HG4.out
  case rest =>
  have HG5 := Lib.hid hcut
  clear hcut
  go_wp2
  go_ret2
  exact ⟨_, rfl, IntS.rebase HG5.out.own hs1, HB1.out.trans (HG5.out.b.mono hs1)⟩
end Go.Proofs.Ytdfmfmndmldggaa.KrJ
