/- Courses: CourseFaults, the model; both. -/
import Derived.Test.YtdfmfmndmldggaaKrJ
namespace Go.Proofs.Ytdfmfmndmldggaa.KrJ
open Go.RowKit Lb Bk IntS CtK CoM CoP CoF CoC KrM KrI KrG KrT KrW KrF LtI
open KrR (blk_keep rn r_yes r_no)
open KrO (own_ints rn_le rn_csp lgC)
open Cells (NPost)
set_option linter.unusedSimpArgs false
set_option linter.unusedVariables false

set_option maxRecDepth 20000 in
set_option maxHeartbeats 8000000 in
theorem faults_spec (m : Mp) (T : Nat → Nat → Int) (hT : TT m T) (cs : List Ct) (hl : cs.length ≤ 1048576) (zs : List Int) (hl2 : zs.length ≤ 1048576) (hR : m.R.length ≤ maxLen) (hC : m.C.length ≤ maxLen) (a b : Option Addr) (ca cb : Nat) (ad : Option Addr) (cap : Nat) (al : Option Addr) (cl : Nat) (w : World) (h : Rc m cs zs a b ad al w) (hcl : zs.length ≤ cl) :
    Calls Try.prog 30 #[.agg #[.int .i64 m.W, .int .i64 m.H, .slice a m.R.length ca, .slice b m.C.length cb], .slice ad cs.length cap, .slice al zs.length cl] w (NPost w (faL m T cs zs) (csB m T cs zs)) := by
  obtain ⟨t0, hi0, hz0, hz1, hz2⟩ := info_parts iInfo
  have HB := Lib.hid ((Below.refl w.heap.size w).alloc (Nat.le_refl _) (.cells #[.int .i64 m.W, .int .i64 m.H, .slice a m.R.length ca, .slice b m.C.length cb] 26))
  have HK := Lib.hid ((Blk.new w 26 #[.int .i64 m.W, .int .i64 m.H, .slice a m.R.length ca, .slice b m.C.length cb]).alloc (.cells #[] 3))
  have HS0 := Lib.hid (show IntK.Gr w (.slice (some ⟨w.heap.size + 1, 0, none⟩) 0 0) [] ((w.alloc (.cells #[.int .i64 m.W, .int .i64 m.H, .slice a m.R.length ca, .slice b m.C.length cb] 26)).alloc (.cells #[] 3)) from by
    have := own_ints (w.alloc (.cells #[.int .i64 m.W, .int .i64 m.H, .slice a m.R.length ca, .slice b m.C.length cb] 26)) w.heap.size (by simp)
    rw [World.size_alloc] at this
    exact ⟨HB.out.alloc (by simp) _, this⟩)
  have H := Lib.hid h
  obtain ⟨ok, hok⟩ : ∃ o, csB m T cs zs = o := ⟨_, rfl⟩
  have c1 := Lib.hid (fun w h => hok ▸ good_any m T hT cs hl zs hl2 hR hC a b ca cb ad cap al cl w h)
  have c2 := Lib.hid (fun w h => tw_spec zs hl2 al cl hcl w h)
  have HO := Lib.hid hok
  obtain ⟨us, hus⟩ : ∃ o, faL m T cs zs = o := ⟨_, rfl⟩
  have HU := Lib.hid hus
  have HT := Lib.hid hT
  obtain ⟨n, hn⟩ : ∃ n, zs.length = n := ⟨_, rfl⟩
  have HN := Lib.hid hn
  rw [hn] at c1 hl2 c2
  rw [hok, hus, hn]
  obtain ⟨B, hB⟩ : ∃ B, w.heap.size = B := ⟨_, rfl⟩
  have HBq := Lib.hid hB
  rw [hB] at HK
  clear h hT hok hus hn hB
  go_enter Try.func30, Try.ntmps30
  go_wp2_with fail
  refine (c1.out _ (H.out.later (HB.out.alloc (by simp) _))).mono ?_
  rintro e w1 ⟨rfl, hb⟩
  have HS1 := Lib.hid (HS0.out.below hb)
  have HK1 := Lib.hid (HK.out.later hb)
  try rw [HBq.out]
  clear hb HB HS0 HK c1
  have HV := Lib.hid (show IntK.Gr w (.slice (some ⟨B + 1, 0, none⟩) 0 0) [] w1 from by have := HS1.out; rwa [HBq.out] at this)
  cases ok with
  | false =>
    have h2 : us = [] := by rw [← HU.out]; unfold faL; rw [HO.out]; rfl
    subst h2
    go_wp2
    go_ret2
    exact ⟨_, rfl, HV.out.own, HV.out.b⟩
  | true =>
  have HP := Lib.hid (cs_iff.1 HO.out)
  have hn8 := HP.out.2.1
  rw [HN.out] at hn8
  obtain ⟨hn2, hn8⟩ := hn8
  have HUs := Lib.hid (show ifL (decide (zs.length < 4)) 1 ++ ifL (twB zs zs.length) 2 ++ ifL (clB (lgT T cs zs) (zs.length - 1)) 3 ++ ifL (decide (0 < (bkL m T cs zs (zs.length - 2)).length)) 4 = us from by rw [← HU.out]; unfold faL; rw [HO.out]; rfl)
  obtain ⟨t1, ht1⟩ : ∃ t, decide ((n : Int) < 4) = t := ⟨_, rfl⟩
  have HT1 := Lib.hid (show decide (zs.length < 4) = t1 from by rw [← ht1, HN.out]; exact decide_eq_decide.2 (by omega))
  clear HS1
  go_upto_if 21 with (fail)
  clear ht1
  go_cut [8] from 22 to 25 (fun s wx => IntK.Gr w s (ifL (decide (zs.length < 4)) 1) wx ∧ Blk wx B 26 #[.int .i64 m.W, .int .i64 m.H, .slice a m.R.length ca, .slice b m.C.length cb])
  case first =>
    cases t1 with
    | true =>
      have HE := Lib.hid (show ifL (decide (zs.length < 4)) 1 = [] ++ [1] from by rw [HT1.out]; rfl)
      have hLl : ([] : List Int).length ≤ 3 := by simp
      have HG := HV
      have HKg := HK1
      obtain ⟨q, hq⟩ : ∃ q, (([] : List Int)).length = q := ⟨_, rfl⟩
      have hq3 : q ≤ 3 := by rw [← hq]; exact hLl
      have HM := Lib.hid hq
      have hown := HG.out.own.below ((Below.refl _ _).alloc (Nat.le_refl _) (.cells #[.int .i64 1] 3))
      unfold OwnI at hown
      rw [hq] at hown
      have HTa := Lib.hid (HG.out.alloc (.cells #[.int .i64 1] 3))
      have hsz : w.heap.size ≤ w1.heap.size := HG.out.b.size
      clear hq
      go_wp2_with (go_loud (at_builtin; (refine wpList_append_own _ rfl (.tmp 22) (.tmp 23) 24 rfl w.heap.size 3 t0 (.int .i64 0) 1 8 Try.underlying24 hi0 hz0 hz1 hz2 rfl (by decide) _ q _ rfl hown ⟨_, 0, none⟩ 1 1 [.int .i64 1] rfl rfl (cell_one_new _ _ _) (by simp [Value.oneCell']) (by unfold maxLen; omega) (by omega) (by simp; omega) ?_; intro v' w3 hown3 hgr3 _; have HP3 := Lib.hid (HTa.out.put HM.out hgr3 hown3); have HKP := Lib.hid (blk_keep hown (HKg.out.alloc (.cells #[.int .i64 1] 3)) (by decide) hgr3); clear hown3 hgr3)))
      go_meet
      rw [HE.out]
      exact ⟨HP3.out, HKP.out⟩
    | false =>
      have HE := Lib.hid (show ifL (decide (zs.length < 4)) 1 = [] from by rw [HT1.out]; rfl)
      go_wp2
      go_meet
      rw [HE.out]
      exact ⟨HV.out, HK1.out⟩
  case rest =>
  have HG1 := Lib.hid hcut.1
  have HK2 := Lib.hid hcut.2
  clear hcut HV HK1
  obtain ⟨tw, htw⟩ : ∃ t, twB zs zs.length = t := ⟨_, rfl⟩
  have HTw := Lib.hid htw
  rw [HN.out] at htw
  have C2 := Lib.hid (c2.out _ (RowAt.below H.out.z HG1.out.b))
  rw [htw] at C2
  clear htw c2
  go_upto_if 26 with (go_at_call 67; refine C2.out.mono ?_; rintro e w2 ⟨rfl, hb⟩; have HG2 := Lib.hid (HG1.out.below hb); have HK3 := Lib.hid (HK2.out.later hb); clear hb)
  clear HG1 HK2 C2
  go_cut [8] from 27 to 30 (fun s wx => IntK.Gr w s (ifL (decide (zs.length < 4)) 1 ++ ifL (twB zs zs.length) 2) wx ∧ Blk wx B 26 #[.int .i64 m.W, .int .i64 m.H, .slice a m.R.length ca, .slice b m.C.length cb])
  case first =>
    cases tw with
    | true =>
      have HE := Lib.hid (show ifL (decide (zs.length < 4)) 1 ++ ifL (twB zs zs.length) 2 = ifL (decide (zs.length < 4)) 1 ++ [2] from by rw [HTw.out]; rfl)
      have hLl : (ifL (decide (zs.length < 4)) 1).length ≤ 3 := by
        have h1 := if_len (decide (zs.length < 4)) 1
        have h2 := if_len (twB zs zs.length) 2
        have h3 := if_len (clB (lgT T cs zs) (zs.length - 1)) 3
        try simp only [List.length_append, List.length_nil]
        omega
      have HG := HG2
      have HKg := HK3
      obtain ⟨q, hq⟩ : ∃ q, (ifL (decide (zs.length < 4)) 1).length = q := ⟨_, rfl⟩
      have hq3 : q ≤ 3 := by rw [← hq]; exact hLl
      have HM := Lib.hid hq
      have hown := HG.out.own.below ((Below.refl _ _).alloc (Nat.le_refl _) (.cells #[.int .i64 2] 3))
      unfold OwnI at hown
      rw [hq] at hown
      have HTa := Lib.hid (HG.out.alloc (.cells #[.int .i64 2] 3))
      have hsz : w.heap.size ≤ w2.heap.size := HG.out.b.size
      clear hq
      go_wp2_with (go_loud (at_builtin; (refine wpList_append_own _ rfl (.tmp 27) (.tmp 28) 24 rfl w.heap.size 3 t0 (.int .i64 0) 1 8 Try.underlying24 hi0 hz0 hz1 hz2 rfl (by decide) _ q _ rfl hown ⟨_, 0, none⟩ 1 1 [.int .i64 2] rfl rfl (cell_one_new _ _ _) (by simp [Value.oneCell']) (by unfold maxLen; omega) (by omega) (by simp; omega) ?_; intro v' w3 hown3 hgr3 _; have HP3 := Lib.hid (HTa.out.put HM.out hgr3 hown3); have HKP := Lib.hid (blk_keep hown (HKg.out.alloc (.cells #[.int .i64 2] 3)) (by decide) hgr3); clear hown3 hgr3)))
      go_meet
      rw [HE.out]
      exact ⟨HP3.out, HKP.out⟩
    | false =>
      have HE := Lib.hid (show ifL (decide (zs.length < 4)) 1 ++ ifL (twB zs zs.length) 2 = ifL (decide (zs.length < 4)) 1 from by rw [HTw.out, if_f, List.append_nil])
      go_wp2
      go_meet
      rw [HE.out]
      exact ⟨HG2.out, HK3.out⟩
  case rest =>
  have HG4 := Lib.hid hcut.1
  have HK4 := Lib.hid hcut.2
  clear hcut HG2 HK3
  obtain ⟨r0, hr0⟩ : ∃ r, zs.length - 1 = r := ⟨_, rfl⟩
  have HW := Lib.hid hr0
  have ct := times_any m T HT.out cs hl zs HP.out.2.1.2 HP.out.1 HP.out.2.2.1 a b ca cb ad cap al cl wc (H.out.later HG4.out.b)
  rw [hr0, HN.out] at ct
  have CT := Lib.hid ct
  have hr7 : r0 ≤ 7 := by have := HN.out; omega
  obtain ⟨p0, p1, p2, p3, -⟩ := MapS.Blk.four HK4.out
  clear hr0 ct
  go_wp2_with fail
  refine CT.out.mono ?_
  rintro e w3 ⟨vt, rfl, ho, hb⟩
  have HG5 := Lib.hid (HG4.out.below hb)
  have HK5 := Lib.hid (HK4.out.later hb)
  obtain ⟨ga, gc, rfl, hrow, -⟩ := OwnI.slice ho
  have HRt := Lib.hid hrow
  rw [seq_len]
  clear hb ho hrow HG4 HK4 CT p0 p1 p2 p3
  go_wp2
  go_loop [11, 9] (fun i c => ∃ k : Nat, k ≤ r0 ∧ i = .int .i64 k ∧ c = .bool (clB (lgT T cs zs) k)) (fun i _ => r0 - (intOf i).toNat)
  case atStart => exact ⟨0, Nat.zero_le _, rfl, rfl⟩
  case round =>
    obtain ⟨k, hk, rfl, rfl⟩ := hrel
    obtain ⟨c, hc⟩ : ∃ c, clB (lgT T cs zs) k = c := ⟨_, rfl⟩
    have HC := Lib.hid hc
    try rw [hc]
    clear hc
    by_cases hlt : k < r0
    · obtain ⟨mb, mo, rfl, hmc⟩ : ∃ b off, ga = some ⟨b, off, none⟩ ∧ ∀ j, j < (seqL (lgT T cs zs) r0).length → w3.cell? ⟨b, off + j, none⟩ = some (.int .i64 (zAt (seqL (lgT T cs zs) r0) j)) := by
        rcases HRt.out with h0 | h
        · rw [seq_len] at h0; omega
        · exact h
      have c0 := hmc k (by rw [seq_len]; exact hlt)
      rw [seq_at _ hlt] at c0
      obtain ⟨x, hx⟩ : ∃ x, lgT T cs zs k = x := ⟨_, rfl⟩
      rw [hx] at c0
      obtain ⟨d, hd⟩ : ∃ d, decide (x < 3) = d := ⟨_, rfl⟩
      have HNx := Lib.hid (show clB (lgT T cs zs) (k + 1) = (c || d) from by rw [clB, HC.out, hx, hd])
      have hk0 : (0 : Int) ≤ (k : Int) := by omega
      have hk1 : (k : Int) < (r0 : Int) := by omega
      clear hmc hx
      cases c with
      | true =>
        go_wp2
        go_round
        case rel => exact ⟨k + 1, by omega, by go_num, by rw [HNx.out]; rfl⟩
        case measure => simp [intOf]; omega
      | false =>
        go_wp2
        go_round
        case rel => exact ⟨k + 1, by omega, by go_num, by rw [HNx.out]; rfl⟩
        case measure => simp [intOf]; omega
    · obtain rfl : k = r0 := by omega
      have HC2 := Lib.hid (show clB (lgT T cs zs) (zs.length - 1) = c from by rw [HW.out]; exact HC.out)
      clear HC
      go_upto_if 48 with (fail)
      go_cut [8] from 49 to 52 (fun s wx => IntK.Gr w s (ifL (decide (zs.length < 4)) 1 ++ ifL (twB zs zs.length) 2 ++ ifL (clB (lgT T cs zs) (zs.length - 1)) 3) wx ∧ Blk wx B 26 #[.int .i64 m.W, .int .i64 m.H, .slice a m.R.length ca, .slice b m.C.length cb])
      case first =>
        cases c with
        | true =>
          have HE := Lib.hid (show ifL (decide (zs.length < 4)) 1 ++ ifL (twB zs zs.length) 2 ++ ifL (clB (lgT T cs zs) (zs.length - 1)) 3 = ifL (decide (zs.length < 4)) 1 ++ ifL (twB zs zs.length) 2 ++ [3] from by rw [HC2.out]; rfl)
          have hLl : (ifL (decide (zs.length < 4)) 1 ++ ifL (twB zs zs.length) 2).length ≤ 3 := by
            have h1 := if_len (decide (zs.length < 4)) 1
            have h2 := if_len (twB zs zs.length) 2
            have h3 := if_len (clB (lgT T cs zs) (zs.length - 1)) 3
            try simp only [List.length_append, List.length_nil]
            omega
          have HG := HG5
          have HKg := HK5
          obtain ⟨q, hq⟩ : ∃ q, (ifL (decide (zs.length < 4)) 1 ++ ifL (twB zs zs.length) 2).length = q := ⟨_, rfl⟩
          have hq3 : q ≤ 3 := by rw [← hq]; exact hLl
          have HM := Lib.hid hq
          have hown := HG.out.own.below ((Below.refl _ _).alloc (Nat.le_refl _) (.cells #[.int .i64 3] 3))
          unfold OwnI at hown
          rw [hq] at hown
          have HTa := Lib.hid (HG.out.alloc (.cells #[.int .i64 3] 3))
          have hsz : w.heap.size ≤ w3.heap.size := HG.out.b.size
          clear hq
          go_wp2_with (go_loud (at_builtin; (refine wpList_append_own _ rfl (.tmp 49) (.tmp 50) 24 rfl w.heap.size 3 t0 (.int .i64 0) 1 8 Try.underlying24 hi0 hz0 hz1 hz2 rfl (by decide) _ q _ rfl hown ⟨_, 0, none⟩ 1 1 [.int .i64 3] rfl rfl (cell_one_new _ _ _) (by simp [Value.oneCell']) (by unfold maxLen; omega) (by omega) (by simp; omega) ?_; intro v' w3 hown3 hgr3 _; have HP3 := Lib.hid (HTa.out.put HM.out hgr3 hown3); have HKP := Lib.hid (blk_keep hown (HKg.out.alloc (.cells #[.int .i64 3] 3)) (by decide) hgr3); clear hown3 hgr3)))
          go_meet
          rw [HE.out]
          exact ⟨HP3.out, HKP.out⟩
        | false =>
          have HE := Lib.hid (show ifL (decide (zs.length < 4)) 1 ++ ifL (twB zs zs.length) 2 ++ ifL (clB (lgT T cs zs) (zs.length - 1)) 3 = ifL (decide (zs.length < 4)) 1 ++ ifL (twB zs zs.length) 2 from by rw [HC2.out, if_f, List.append_nil])
          go_wp2
          go_meet
          rw [HE.out]
          exact ⟨HG5.out, HK5.out⟩
      case rest =>
      have HG6 := Lib.hid hcut.1
      have HK6 := Lib.hid hcut.2
      clear hcut HG5 HK5 HRt
      have cb4 := back_any m T HT.out cs hl zs HP.out a b ca cb ad cap al cl wc (H.out.later HG6.out.b)
      rw [HN.out] at cb4
      obtain ⟨bl, hbl⟩ : ∃ q, (bkL m T cs zs (zs.length - 2)).length = q := ⟨_, rfl⟩
      have HBl := Lib.hid hbl
      rw [HN.out] at hbl
      have HBL2 := Lib.hid hbl
      have C4 := Lib.hid cb4
      have hbll := bk_len m T cs zs (n - 2)
      rw [hbl] at hbll
      obtain ⟨t4, ht4⟩ : ∃ t, decide ((0 : Int) < (bl : Int)) = t := ⟨_, rfl⟩
      have HT4 := Lib.hid (show decide (0 < bl) = t4 from by rw [← ht4]; exact decide_eq_decide.2 (by omega))
      have ht4' : decide (0 < bl) = t4 := HT4.out
      obtain ⟨p0, p1, p2, p3, -⟩ := MapS.Blk.four HK6.out
      clear cb4 hbl
      go_upto_if 57 with (go_at_call 68; refine C4.out.mono ?_; rintro e w2 ⟨v2, rfl, ho, hb⟩; obtain ⟨ba, bc, rfl, -, -⟩ := OwnI.slice ho; rw [HBL2.out]; have HG7 := Lib.hid (HG6.out.below hb); have HK7 := Lib.hid (HK6.out.later hb); clear ho hb)
      clear p0 p1 p2 p3 C4 ht4 ht4' HG6 HK6
      go_cut [8] from 58 to 61 (fun s wx => IntK.Gr w s us wx)
      case first =>
        cases t4 with
        | true =>
          have HE := Lib.hid (show us = ifL (decide (zs.length < 4)) 1 ++ ifL (twB zs zs.length) 2 ++ ifL (clB (lgT T cs zs) (zs.length - 1)) 3 ++ [4] from by rw [← HUs.out, HBl.out, HT4.out]; rfl)
          have hLl : (ifL (decide (zs.length < 4)) 1 ++ ifL (twB zs zs.length) 2 ++ ifL (clB (lgT T cs zs) (zs.length - 1)) 3).length ≤ 3 := by
            have h1 := if_len (decide (zs.length < 4)) 1
            have h2 := if_len (twB zs zs.length) 2
            have h3 := if_len (clB (lgT T cs zs) (zs.length - 1)) 3
            try simp only [List.length_append, List.length_nil]
            omega
          have HG := HG7
          have HKg := HK7
          obtain ⟨q, hq⟩ : ∃ q, (ifL (decide (zs.length < 4)) 1 ++ ifL (twB zs zs.length) 2 ++ ifL (clB (lgT T cs zs) (zs.length - 1)) 3).length = q := ⟨_, rfl⟩
          have hq3 : q ≤ 3 := by rw [← hq]; exact hLl
          have HM := Lib.hid hq
          have hown := HG.out.own.below ((Below.refl _ _).alloc (Nat.le_refl _) (.cells #[.int .i64 4] 3))
          unfold OwnI at hown
          rw [hq] at hown
          have HTa := Lib.hid (HG.out.alloc (.cells #[.int .i64 4] 3))
          have hsz : w.heap.size ≤ w2.heap.size := HG.out.b.size
          clear hq
          go_wp2_with (go_loud (at_builtin; (refine wpList_append_own _ rfl (.tmp 58) (.tmp 59) 24 rfl w.heap.size 3 t0 (.int .i64 0) 1 8 Try.underlying24 hi0 hz0 hz1 hz2 rfl (by decide) _ q _ rfl hown ⟨_, 0, none⟩ 1 1 [.int .i64 4] rfl rfl (cell_one_new _ _ _) (by simp [Value.oneCell']) (by unfold maxLen; omega) (by omega) (by simp; omega) ?_; intro v' w3 hown3 hgr3 _; have HP3 := Lib.hid (HTa.out.put HM.out hgr3 hown3); have HKP := Lib.hid (blk_keep hown (HKg.out.alloc (.cells #[.int .i64 4] 3)) (by decide) hgr3); clear hown3 hgr3)))
          go_meet
          rw [HE.out]
          exact HP3.out
        | false =>
          have HE := Lib.hid (show us = ifL (decide (zs.length < 4)) 1 ++ ifL (twB zs zs.length) 2 ++ ifL (clB (lgT T cs zs) (zs.length - 1)) 3 from by rw [← HUs.out, HBl.out, HT4.out]; exact List.append_nil _)
          go_wp2
          go_meet
          rw [HE.out]
          exact HG7.out
      case rest =>
      have HG8 := Lib.hid hcut
      clear hcut
      go_wp2
      go_ret2
      exact ⟨_, rfl, HG8.out.own, HG8.out.b⟩

theorem faults (m : Mp) (hR : m.R.length ≤ maxLen) (hC : m.C.length ≤ maxLen) (cs : List Ct) (hf : ∀ i, i < cs.length → Is (at_ cs i)) (hl : cs.length ≤ 1048576) (zs : List Int) (hz : zs.length ≤ 1048576) : ∃ (us : List Int) (ok : Bool), us.length ≤ 1048576 ∧
    (∀ a b ca cb ad cap al cl w, IRow w a m.R → IRow w b m.C → cs.length ≤ cap → Row w ad cs → zs.length ≤ cl → IntK.Row w al zs → Calls Try.prog 30 #[.agg #[.int .i64 m.W, .int .i64 m.H, .slice a m.R.length ca, .slice b m.C.length cb], .slice ad cs.length cap, .slice al zs.length cl] w fun e w' => ∃ v, e = .returned (.tuple #[v, .bool ok]) ∧ IntK.Own w' w.heap.size v us ∧ Below w.heap.size w w') ∧
    (∀ a b ca cb ad cap al cl w, IRow w a m.R → IRow w b m.C → cs.length ≤ cap → Row w ad cs → zs.length ≤ cl → IntK.Row w al zs → Calls Try.prog 26 #[.agg #[.int .i64 m.W, .int .i64 m.H, .slice a m.R.length ca, .slice b m.C.length cb], .slice ad cs.length cap, .slice al zs.length cl] w fun e w' => ∃ v, e = .returned (.tuple #[v, .bool ok]) ∧ IntK.Own w' w.heap.size v us ∧ Below w.heap.size w w') := by
  obtain ⟨T, hT⟩ := tt_ex m
  refine ⟨faL m T cs zs, csB m T cs zs, (by have := fa_len m T cs zs; omega), fun a b ca cb ad cap al cl w h1 h2 h6 h3 h4 h5 => faults_spec m T hT cs hl zs hz hR hC a b ca cb ad cap al cl w ⟨⟨h1, h2, h3⟩, h5⟩ h4, fun a b ca cb ad cap al cl w h1 h2 h6 h3 h4 h5 => faults_impl m T hT cs hl zs hz hR hC a b ca cb ad cap al cl w ⟨⟨h1, h2, h3⟩, h5⟩ h6 h4⟩
end Go.Proofs.Ytdfmfmndmldggaa.KrJ
