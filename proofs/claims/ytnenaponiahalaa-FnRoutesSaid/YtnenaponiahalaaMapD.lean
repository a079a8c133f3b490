/- The drawing of maps: mapOf and cellOf. -/
import Derived.Test.YtnenaponiahalaaCurM
import Derived.Deep.CutRange
import Derived.Deep.DeepCutAuto
import Derived.Deep.LoopGhost
import Derived.Deep.RegionWith
namespace Go.Proofs.Ytnenaponiahalaa.MapD
open Go.RowKit Lb Cur IntS MapS MapV SpecB CurM
set_option linter.unusedSimpArgs false
set_option linter.unusedVariables false

set_option maxRecDepth 100000 in
set_option maxHeartbeats 4000000 in
theorem map_any (b mm : Nat) (w : World) (hm : mm ≤ 1152921504606846000) (hok : Ok w b mm) :
    Calls Try.prog 91 #[.pointer (some ⟨b, 0, none⟩)] w fun e w' => MDr w e w' ∧ Ok w' b (mm + 200) ∧ w.grownBy w' (some b) := by
  obtain ⟨t0, hi, hz0, hz1, hz2⟩ := info_parts iInfo
  have hbl := hok.lt
  have HB := Lib.hid ((Below.refl w.heap.size w).alloc (Nat.le_refl _) (.cells #[.int .i64 0, .int .i64 0, .slice none 0 0, .slice none 0 0] 26))
  have HQ0 := Lib.hid (Blk.new w 26 #[.int .i64 0, .int .i64 0, .slice none 0 0, .slice none 0 0])
  have c1 := Lib.hid (pick_any b mm 4 _ (by omega) (by omega) (by omega) (hok.below HB.out))
  clear hok
  go_enter Try.func91, Try.ntmps91
  go_wp2_with fail
  refine c1.out.mono ?_
  rintro e w1 ⟨⟨r1, rfl, _, hr1⟩, hok1, hg1⟩
  have HG1 := Lib.hid (gtrans (gbelow HB.out (some b)) hg1)
  have HQ1 := Lib.hid (blk_grown HQ0.out hg1 (fun e => by have : b = w.heap.size := by simpa using e
                                                          omega))
  have c2 := Lib.hid (pick_any b (mm + 2) 4 _ (by omega) (by omega) (by omega) hok1)
  clear hok1 hg1
  go_wp2_with fail
  refine c2.out.mono ?_
  rintro e w2 ⟨⟨r2, rfl, _, hr2⟩, hok2, hg2⟩
  have HG2 := Lib.hid (gtrans HG1.out hg2)
  have HQ2 := Lib.hid (blk_grown HQ1.out hg2 (fun e => by have : b = w.heap.size := by simpa using e
                                                          omega))
  have HO2 := Lib.hid hok2
  have hs : w.heap.size < w2.heap.size := HQ2.out.lt
  clear hok2 hg2 c1 c2
  go_wp2_with fail

  have hr1' : r1 ≤ 3 := by omega
  have hr2' : r2 ≤ 3 := by omega
  obtain ⟨p, hp⟩ : ∃ p : Int, (2 : Int) + (r1 : Int) = p := ⟨_, rfl⟩
  obtain ⟨q, hq⟩ : ∃ q : Int, (1 : Int) + (r2 : Int) = q := ⟨_, rfl⟩
  have hN : 2 ≤ p * q ∧ p * q ≤ 20 := by
    have h1 : r1 = 0 ∨ r1 = 1 ∨ r1 = 2 ∨ r1 = 3 := by omega
    have h2 : r2 = 0 ∨ r2 = 1 ∨ r2 = 2 ∨ r2 = 3 := by omega
    rcases h1 with rfl | rfl | rfl | rfl <;> rcases h2 with rfl | rfl | rfl | rfl <;> subst hp hq <;> decide
  have hpb : 2 ≤ p ∧ p ≤ 5 := by omega
  simp only [hp, hq]
  clear hp hq hr1 hr2 hr1' hr2'
  have hN1 := hN.1
  have hN2 := hN.2
  obtain ⟨N, hNe⟩ : ∃ N : Nat, p * q = (N : Int) := ⟨(p * q).toNat, by omega⟩
  have hN20 : N ≤ 20 := by omega
  have hN0 : 2 ≤ N := by omega
  have HG3 := Lib.hid (show MGro w b (mm + 4) w2.heap.size p q [] [] (.slice (some ⟨w2.heap.size, 0, none⟩) 0 0) (.slice (some ⟨w2.heap.size + 1, 0, none⟩) 0 0) (((w2.alloc (.cells #[] 3)).alloc (.cells #[] 3)).alloc (.cells #[.int .i64 p, .int .i64 q, .slice (some ⟨w2.heap.size, 0, none⟩) 0 0, .slice (some ⟨w2.heap.size + 1, 0, none⟩) 0 0] 26)) from by
    have hB : Below w2.heap.size w2 (((w2.alloc (.cells #[] 3)).alloc (.cells #[] 3)).alloc (.cells #[.int .i64 p, .int .i64 q, .slice (some ⟨w2.heap.size, 0, none⟩) 0 0, .slice (some ⟨w2.heap.size + 1, 0, none⟩) 0 0] 26)) := (((Below.refl _ _).alloc (Nat.le_refl _) _).alloc (by simp) _).alloc (by simp; omega) _
    refine ⟨?_, ?_, ?_, ?_, ((HQ2.out.alloc _).alloc _).alloc _, HO2.out.below hB, gtrans HG2.out (gbelow hB _)⟩
    · exact (((World.ownsRow_made (e := 3) (size := 1) (base := w2.heap.size) w2 #[] 0 (Nat.le_refl _) (Nat.zero_le _) rfl).alloc _).alloc _)
    · have := World.ownsRow_made (e := 3) (size := 1) (base := w2.heap.size) (w2.alloc (.cells #[] 3)) #[] 0 (by simp) (Nat.zero_le _) rfl
      rw [World.size_alloc] at this
      exact this.alloc _
    · intro x y hx hy
      simp [Value.ownBlock] at hx hy
      omega
    · have := Blk.new ((w2.alloc (.cells #[] 3)).alloc (.cells #[] 3)) 26 #[.int .i64 p, .int .i64 q, .slice (some ⟨w2.heap.size, 0, none⟩) 0 0, .slice (some ⟨w2.heap.size + 1, 0, none⟩) 0 0]
      simpa using this)
  clear HG2 HQ2 HO2 HQ1 HG1 HB HQ0
  go_loopg [4] N (fun gk i wr => ∃ k : Nat, k ≤ N ∧ gk = N - k ∧ i = .int .i64 k ∧ ∃ R C vr vc, R.length = k ∧ C.length = k ∧ MGro w b (mm + 4 + 6 * k) w2.heap.size p q R C vr vc wr)
  case atStart => exact ⟨0, Nat.zero_le _, rfl, rfl, [], [], _, _, rfl, rfl, HG3.out⟩
  case round =>
    clear HG3
    obtain ⟨k, hk, hgk, rfl, R, C, vr, vc, hRl, hCl, hG⟩ := hrel
    have HG := Lib.hid hG
    clear hG
    obtain ⟨q0, q1, q2, q3, f0, f1, f2, f3⟩ := HG.out.out.four
    have hbx := HG.out.out.lt
    by_cases hlt : k < N
    · have hlt' : (k : Int) < p * q := by omega
      have A1 := Lib.hid (among_new b (mm + 4 + 6 * k) 8 [1, 1, 1, 2, 3, 0, 1, 2] wr (by omega) rfl (by decide) (by decide) HG.out.ok)
      go_wp2_with fail
      refine A1.out.mono ?_
      rintro e w3 ⟨⟨z1, rfl⟩, hok3, hg3⟩
      have HG3 := Lib.hid (HG.out.step hs hbl hok3 hg3)
      have A2 := Lib.hid (among_new b (mm + 4 + 6 * k + 2) 6 [0, 0, 1, 2, 2, 5] w3 (by omega) rfl (by decide) (by decide) hok3)
      clear hok3 hg3 A1 HG q0 q1 q2 q3 f0 f1 f2 f3
      go_wp2_with fail
      refine A2.out.mono ?_
      rintro e w4 ⟨⟨z2, rfl⟩, hok4, hg4⟩
      have HG4 := Lib.hid (HG3.out.step hs hbl hok4 hg4)
      have A3 := Lib.hid (one_any b (mm + 4 + 6 * k + 2 + 2) 6 w4 (by omega) (by omega) (by omega) hok4)
      clear hok4 hg4 A2 HG3
      go_upto_region 7 with (fail)
      go_cut [37] from 31 to 38 (fun t wx => ∃ tb, t = .bool tb ∧ MGro w b (mm + 4 + 6 * (k + 1)) w2.heap.size p q R C vr vc wx)
      case first =>
        by_cases hz : z1 = 0
        · have hz' : (z1 == 0) = true := by simpa using hz
          clear hz
          go_wp2_with fail
          refine A3.out.mono ?_
          rintro e w5 ⟨⟨t, rfl⟩, hok5, hg5⟩
          have HG5 := Lib.hid (HG4.out.step hs hbl (hok5.mono (show mm + 4 + 6 * k + 2 + 2 + 2 ≤ mm + 4 + 6 * (k + 1) by omega)) hg5)
          clear hok5 hg5
          go_wp2_with fail
          go_meet
          exact ⟨_, rfl, HG5.out⟩
        · have hz' : (z1 == 0) = false := by simpa using hz
          go_wp2_with fail
          go_meet
          exact ⟨_, rfl, HG4.out.mono (by omega)⟩
      case rest =>
      obtain ⟨tb, rfl, hG5⟩ := hcut
      have HG5 := Lib.hid hG5
      clear hG5 A3 HG4
      cases tb with
      | true =>
        go_upto_region 9 with (fail)
        obtain ⟨q0, q1, q2, q3, f0, f1, f2, f3⟩ := HG5.out.out.four
        have hbx := HG5.out.out.lt
        have hsz := HG5.out.g.size
        have hs5 : w2.heap.size ≤ wc.heap.size := by omega
        go_cut [] from 38 to 44 (fun wx => ∃ vc', MGro w b (mm + 4 + 6 * (k + 1)) w2.heap.size p q R (C ++ [z1]) vr vc' wx)
        case first =>
          have hown : wc.ownsRow w2.heap.size 3 1 vc C.length (C.map (Value.int .i64)) := HG5.out.c
          have h63 : C.length + 1 ≤ maxLen := by unfold maxLen; omega
          have h64 : (C.length + 1) * 8 ≤ 140737488355328 := by omega
          have HTa := Lib.hid (HG5.out.below ((Below.refl _ _).alloc (Nat.le_refl _) (.cells #[.int .i64 z1] 3)))
          go_wp2_with (at_builtin; (refine wpList_append_lies _ rfl (.tmp 39) (.tmp 41) 24 rfl w2.heap.size 3 t0 (.int .i64 0) 1 8 Try.underlying24 hi hz0 hz1 hz2 rfl (by decide) vc C.length _ rfl (hown.alloc _) ⟨_, 0, none⟩ 1 1 [.int .i64 z1] rfl rfl (cell_one_new _ _ _) (by simp [Value.oneCell']) (by decide) h63 h64 (by simp; omega) _ rfl ?_; intro g' cap' w3' hown3 hgr3 hlies3 _; obtain ⟨k0, k1, k2, k3, l0, l1, l2, l3⟩ := (blk_grown HTa.out.out hgr3 (own_ne HTa.out.c HTa.out.out (by decide))).four; have HP := Lib.hid (HTa.out.putC hs hbl (by simp; omega) hown3 hgr3 (by simpa using hlies3)); clear hown3 hgr3 hlies3))
          go_meet
          exact ⟨_, by have := HP.out; rw [hCl] at this; exact this⟩
        case rest =>
        obtain ⟨vc2, hG6⟩ := hcut
        have HG6 := Lib.hid hG6
        clear hG6 q0 q1 q2 q3 f0 f1 f2 f3 HG5
        obtain ⟨q0, q1, q2, q3, f0, f1, f2, f3⟩ := HG6.out.out.four
        have hbx := HG6.out.out.lt
        go_upto_region 10 with (fail)
        have hown : wc.ownsRow w2.heap.size 3 1 vr R.length (R.map (Value.int .i64)) := HG6.out.r
        have hs6 : w2.heap.size ≤ wc.heap.size := by omega
        have h63 : R.length + 1 ≤ maxLen := by unfold maxLen; omega
        have h64 : (R.length + 1) * 8 ≤ 140737488355328 := by omega
        have HTa := Lib.hid (HG6.out.below ((Below.refl _ _).alloc (Nat.le_refl _) (.cells #[.int .i64 0] 3)))
        go_wp2_with (at_builtin; (refine wpList_append_lies _ rfl (.tmp 45) (.tmp 47) 24 rfl w2.heap.size 3 t0 (.int .i64 0) 1 8 Try.underlying24 hi hz0 hz1 hz2 rfl (by decide) vr R.length _ rfl (hown.alloc _) ⟨_, 0, none⟩ 1 1 [.int .i64 0] rfl rfl (cell_one_new _ _ _) (by simp [Value.oneCell']) (by decide) h63 h64 (by simp; omega) _ rfl ?_; intro g' cap' w3' hown3 hgr3 hlies3 _; obtain ⟨k0, k1, k2, k3, l0, l1, l2, l3⟩ := (blk_grown HTa.out.out hgr3 (own_ne HTa.out.r HTa.out.out (by decide))).four; have HP := Lib.hid (HTa.out.putR hs hbl (by simp; omega) hown3 hgr3 (by simpa using hlies3)); clear hown3 hgr3 hlies3))
        go_roundg (N - (k + 1))
        case measure => omega
        case rel => exact ⟨k + 1, by omega, rfl, by go_num, R ++ [0], C ++ [z1], _, _, by simp; omega, by simp; omega, by have := HP.out; rw [hRl] at this; exact this⟩
      | false =>
        go_upto_region 9 with (fail)
        obtain ⟨q0, q1, q2, q3, f0, f1, f2, f3⟩ := HG5.out.out.four
        have hbx := HG5.out.out.lt
        have hsz := HG5.out.g.size
        have hs5 : w2.heap.size ≤ wc.heap.size := by omega
        go_cut [] from 38 to 44 (fun wx => ∃ vc', MGro w b (mm + 4 + 6 * (k + 1)) w2.heap.size p q R (C ++ [z1]) vr vc' wx)
        case first =>
          have hown : wc.ownsRow w2.heap.size 3 1 vc C.length (C.map (Value.int .i64)) := HG5.out.c
          have h63 : C.length + 1 ≤ maxLen := by unfold maxLen; omega
          have h64 : (C.length + 1) * 8 ≤ 140737488355328 := by omega
          have HTa := Lib.hid (HG5.out.below ((Below.refl _ _).alloc (Nat.le_refl _) (.cells #[.int .i64 z1] 3)))
          go_wp2_with (at_builtin; (refine wpList_append_lies _ rfl (.tmp 39) (.tmp 41) 24 rfl w2.heap.size 3 t0 (.int .i64 0) 1 8 Try.underlying24 hi hz0 hz1 hz2 rfl (by decide) vc C.length _ rfl (hown.alloc _) ⟨_, 0, none⟩ 1 1 [.int .i64 z1] rfl rfl (cell_one_new _ _ _) (by simp [Value.oneCell']) (by decide) h63 h64 (by simp; omega) _ rfl ?_; intro g' cap' w3' hown3 hgr3 hlies3 _; obtain ⟨k0, k1, k2, k3, l0, l1, l2, l3⟩ := (blk_grown HTa.out.out hgr3 (own_ne HTa.out.c HTa.out.out (by decide))).four; have HP := Lib.hid (HTa.out.putC hs hbl (by simp; omega) hown3 hgr3 (by simpa using hlies3)); clear hown3 hgr3 hlies3))
          go_meet
          exact ⟨_, by have := HP.out; rw [hCl] at this; exact this⟩
        case rest =>
        obtain ⟨vc2, hG6⟩ := hcut
        have HG6 := Lib.hid hG6
        clear hG6 q0 q1 q2 q3 f0 f1 f2 f3 HG5
        obtain ⟨q0, q1, q2, q3, f0, f1, f2, f3⟩ := HG6.out.out.four
        have hbx := HG6.out.out.lt
        go_upto_region 10 with (fail)
        have hown : wc.ownsRow w2.heap.size 3 1 vr R.length (R.map (Value.int .i64)) := HG6.out.r
        have hs6 : w2.heap.size ≤ wc.heap.size := by omega
        have h63 : R.length + 1 ≤ maxLen := by unfold maxLen; omega
        have h64 : (R.length + 1) * 8 ≤ 140737488355328 := by omega
        have HTa := Lib.hid (HG6.out.below ((Below.refl _ _).alloc (Nat.le_refl _) (.cells #[.int .i64 z2] 3)))
        go_wp2_with (at_builtin; (refine wpList_append_lies _ rfl (.tmp 45) (.tmp 47) 24 rfl w2.heap.size 3 t0 (.int .i64 0) 1 8 Try.underlying24 hi hz0 hz1 hz2 rfl (by decide) vr R.length _ rfl (hown.alloc _) ⟨_, 0, none⟩ 1 1 [.int .i64 z2] rfl rfl (cell_one_new _ _ _) (by simp [Value.oneCell']) (by decide) h63 h64 (by simp; omega) _ rfl ?_; intro g' cap' w3' hown3 hgr3 hlies3 _; obtain ⟨k0, k1, k2, k3, l0, l1, l2, l3⟩ := (blk_grown HTa.out.out hgr3 (own_ne HTa.out.r HTa.out.out (by decide))).four; have HP := Lib.hid (HTa.out.putR hs hbl (by simp; omega) hown3 hgr3 (by simpa using hlies3)); clear hown3 hgr3 hlies3))
        go_roundg (N - (k + 1))
        case measure => omega
        case rel => exact ⟨k + 1, by omega, rfl, by go_num, R ++ [z2], C ++ [z1], _, _, by simp; omega, by simp; omega, by have := HP.out; rw [hRl] at this; exact this⟩
    · have hnl : ¬ (k : Int) < p * q := by omega
      obtain rfl : k = N := by omega
      have A1 := Lib.hid (pick_any b (mm + 4 + 6 * k) 48 wr (by omega) (by omega) (by omega) HG.out.ok)
      have hR0 : 0 < R.length := by omega
      have hC0 : 0 < C.length := by omega
      have hR21 : R.length ≤ 20 := by omega
      have hC21 : C.length ≤ 20 := by omega
      clear hRl hCl
      go_wp2_with fail
      refine A1.out.mono ?_
      rintro e w3 ⟨⟨r, rfl, -, -⟩, hok3, hg3⟩
      have HG3 := Lib.hid (HG.out.step hs hbl hok3 hg3)
      clear hok3 hg3 A1 HG q0 q1 q2 q3 f0 f1 f2 f3
      obtain ⟨q0, q1, q2, q3, f0, f1, f2, f3⟩ := HG3.out.out.four
      have hbx := HG3.out.out.lt
      by_cases hr0 : r = 0
      · subst hr0
        have A2 := Lib.hid (among_new b (mm + 4 + 6 * k + 2) 3 [0, 7, p + 1] w3 (by omega) rfl (by decide) (by decide) HG3.out.ok)
        go_wp2_with fail
        refine A2.out.mono ?_
        rintro e w4 ⟨⟨z, rfl⟩, hok4, hg4⟩
        have HG4 := Lib.hid (HG3.out.step hs hbl hok4 hg4)
        have HG5 := Lib.hid (HG4.out.setW hs hbl z)
        clear hok4 hg4 A2 q0 q1 q2 q3 f0 f1 f2 f3 hbx
        obtain ⟨q0, q1, q2, q3, f0, f1, f2, f3⟩ := HG4.out.out.four
        have hbx := HG4.out.out.lt
        obtain ⟨ar, cr, rfl, -, -⟩ := OwnI.slice HG5.out.r
        obtain ⟨ac, cc, rfl, -, -⟩ := OwnI.slice HG5.out.c
        obtain ⟨k0, k1, k2, k3, -⟩ := HG5.out.out.four
        obtain ⟨r0, r1', r2', r3, l0, l1, l2, l3⟩ := HG5.out.res.four
        have hbx' := HG5.out.out.lt
        go_wp2
        refine bodyPost_ret (v := .agg #[.int .i64 z, .int .i64 q, .slice ar (R).length cr, .slice ac (C).length cc]) (by simp [results, Try.results91, go_sem, k0, k1, k2, k3, r0, r1', r2', r3]) rfl (HG5.out.fin hs hbl (by omega) (by omega) ?_ ?_ ?_ (by omega))
        · iterate 4 (refine Below.setCell ?_ (by simp) _)
          exact Below.refl _ _
        · have h := HG5.out.r
          unfold OwnI at h ⊢
          iterate 4 (refine ownsRow_setCell_below ?_ (by simpa using hs) _)
          exact h
        · have h := HG5.out.c
          unfold OwnI at h ⊢
          iterate 4 (refine ownsRow_setCell_below ?_ (by simpa using hs) _)
          exact h
      by_cases hr1 : r = 1
      · subst hr1
        obtain ⟨gx, cx, rfl⟩ := HG3.out.isC hC0
        obtain ⟨x0, x1⟩ := own_first HG3.out.c hC0
        have hgx := HG3.out.c.lt gx (by simp [Value.ownBlock])
        go_upto_region 15 with (fail)
        have A2 := Lib.hid (among_new b (mm + 4 + 6 * k + 2) 3 [-1, 10, 9] w3.drew (by omega) rfl (by decide) (by decide) HG3.out.drew.ok)
        have HGd := Lib.hid HG3.out.drew
        go_region_with (go_at_call 115; refine A2.out.mono ?_; rintro e w4 ⟨⟨z, rfl⟩, hok4, hg4⟩; have HG4 := Lib.hid (HGd.out.step hs hbl hok4 hg4); have HG5 := Lib.hid (HG4.out.setC hs hbl rfl z); obtain ⟨y0, y1⟩ := own_first HG4.out.c hC0; obtain ⟨m0, m1, m2, m3, -⟩ := HG4.out.out.four; have hgy := HG4.out.out.lt; have hgz := (HG4.out.c.lt gx (by simp [Value.ownBlock])).2; clear hok4 hg4)
        clear q0 q1 q2 q3 f0 f1 f2 f3 hbx x0 x1 HGd A2 HG3
        all_goals
          obtain ⟨ar, cr, rfl, -, -⟩ := OwnI.slice HG5.out.r
          obtain ⟨k0, k1, k2, k3, -⟩ := HG5.out.out.four
          obtain ⟨r0, r1', r2', r3, l0, l1, l2, l3⟩ := HG5.out.res.four
          have hbx' := HG5.out.out.lt
          go_wp2
          refine bodyPost_ret (v := .agg #[.int .i64 p, .int .i64 q, .slice ar (R).length cr, .slice (some ⟨gx, 0, none⟩) C.length cx]) (by simp [results, Try.results91, go_sem, k0, k1, k2, k3, r0, r1', r2', r3]) rfl (HG5.out.fin hs hbl (by omega) (by simp; omega) ?_ ?_ ?_ (by omega))
          · iterate 4 (refine Below.setCell ?_ (by simp) _)
            exact Below.refl _ _
          · have h := HG5.out.r
            unfold OwnI at h ⊢
            iterate 4 (refine ownsRow_setCell_below ?_ (by simpa using hs) _)
            exact h
          · have h := HG5.out.c
            unfold OwnI at h ⊢
            iterate 4 (refine ownsRow_setCell_below ?_ (by simpa using hs) _)
            exact h
      by_cases hr2 : r = 2
      · subst hr2
        obtain ⟨gx, cx, rfl⟩ := HG3.out.isR hR0
        obtain ⟨x0, x1⟩ := own_first HG3.out.r hR0
        have hgx := HG3.out.r.lt gx (by simp [Value.ownBlock])
        go_upto_region 17 with (fail)
        have A2 := Lib.hid (among_new b (mm + 4 + 6 * k + 2) 3 [-1, 10, 9] w3.drew (by omega) rfl (by decide) (by decide) HG3.out.drew.ok)
        have HGd := Lib.hid HG3.out.drew
        go_region_with (go_at_call 115; refine A2.out.mono ?_; rintro e w4 ⟨⟨z, rfl⟩, hok4, hg4⟩; have HG4 := Lib.hid (HGd.out.step hs hbl hok4 hg4); have HG5 := Lib.hid (HG4.out.setR hs hbl rfl z); obtain ⟨y0, y1⟩ := own_first HG4.out.r hR0; obtain ⟨m0, m1, m2, m3, -⟩ := HG4.out.out.four; have hgy := HG4.out.out.lt; have hgz := (HG4.out.r.lt gx (by simp [Value.ownBlock])).2; clear hok4 hg4)
        clear q0 q1 q2 q3 f0 f1 f2 f3 hbx x0 x1 HGd A2 HG3
        all_goals
          obtain ⟨ac, cc, rfl, -, -⟩ := OwnI.slice HG5.out.c
          obtain ⟨k0, k1, k2, k3, -⟩ := HG5.out.out.four
          obtain ⟨r0, r1', r2', r3, l0, l1, l2, l3⟩ := HG5.out.res.four
          have hbx' := HG5.out.out.lt
          go_wp2
          refine bodyPost_ret (v := .agg #[.int .i64 p, .int .i64 q, .slice (some ⟨gx, 0, none⟩) R.length cx, .slice ac (C).length cc]) (by simp [results, Try.results91, go_sem, k0, k1, k2, k3, r0, r1', r2', r3]) rfl (HG5.out.fin hs hbl (by simp; omega) (by omega) ?_ ?_ ?_ (by omega))
          · iterate 4 (refine Below.setCell ?_ (by simp) _)
            exact Below.refl _ _
          · have h := HG5.out.r
            unfold OwnI at h ⊢
            iterate 4 (refine ownsRow_setCell_below ?_ (by simpa using hs) _)
            exact h
          · have h := HG5.out.c
            unfold OwnI at h ⊢
            iterate 4 (refine ownsRow_setCell_below ?_ (by simpa using hs) _)
            exact h
      by_cases hr3 : r = 3
      · subst hr3
        have hown : w3.ownsRow w2.heap.size 3 1 vr R.length (R.map (Value.int .i64)) := HG3.out.r
        have hs6 : w2.heap.size ≤ w3.heap.size := by omega
        have h63 : R.length + 1 ≤ maxLen := by unfold maxLen; omega
        have h64 : (R.length + 1) * 8 ≤ 140737488355328 := by omega
        have HTa := Lib.hid (HG3.out.below ((Below.refl _ _).alloc (Nat.le_refl _) (.cells #[.int .i64 0] 3)))
        obtain ⟨ac, cc, rfl, -, -⟩ := OwnI.slice HG3.out.c
        go_wp2_with (at_builtin; (refine wpList_append_lies _ rfl (.tmp 80) (.tmp 81) 24 rfl w2.heap.size 3 t0 (.int .i64 0) 1 8 Try.underlying24 hi hz0 hz1 hz2 rfl (by decide) vr R.length _ rfl (hown.alloc _) ⟨_, 0, none⟩ 1 1 [.int .i64 0] rfl rfl (cell_one_new _ _ _) (by simp [Value.oneCell']) (by decide) h63 h64 (by simp; omega) _ rfl ?_; intro g' cap' w3' hown3 hgr3 hlies3 _; have HTb := Lib.hid (blk_grown HTa.out.out hgr3 (own_ne HTa.out.r HTa.out.out (by decide))); obtain ⟨k0, k1, k2, k3, l0, l1, l2, l3⟩ := HTb.out.four; have hbx2 := HTb.out.lt; have HP := Lib.hid (HTa.out.putR hs hbl (by simp; omega) hown3 hgr3 (by simpa using hlies3)); clear hown3 hgr3 hlies3; obtain ⟨r0, r1', r2', r3, m0, m1, m2, m3⟩ := HP.out.res.four))
        refine bodyPost_ret (v := .agg #[.int .i64 p, .int .i64 q, (.slice (some ⟨g', 0, none⟩) (R.length + 1) cap'), .slice ac (C).length cc]) (by simp [results, Try.results91, go_sem, k0, k1, k2, k3, r0, r1', r2', r3]) rfl (HP.out.fin hs hbl (by simp; omega) (by omega) ?_ ?_ ?_ (by omega))
        · iterate 4 (refine Below.setCell ?_ (by simp) _)
          exact Below.refl _ _
        · have h := HP.out.r
          unfold OwnI at h ⊢
          iterate 4 (refine ownsRow_setCell_below ?_ (by simpa using hs) _)
          exact h
        · have h := HP.out.c
          unfold OwnI at h ⊢
          iterate 4 (refine ownsRow_setCell_below ?_ (by simpa using hs) _)
          exact h
      · have e0 : ((r : Int) == 0) = false := by simp; omega
        have e1 : ((r : Int) == 1) = false := by simp; omega
        have e2 : ((r : Int) == 2) = false := by simp; omega
        have e3 : ((r : Int) == 3) = false := by simp; omega
        obtain ⟨ar, cr, rfl, -, -⟩ := OwnI.slice HG3.out.r
        obtain ⟨ac, cc, rfl, -, -⟩ := OwnI.slice HG3.out.c
        obtain ⟨k0, k1, k2, k3, -⟩ := HG3.out.out.four
        obtain ⟨r0, r1', r2', r3, l0, l1, l2, l3⟩ := HG3.out.res.four
        have hbx' := HG3.out.out.lt
        go_wp2
        refine bodyPost_ret (v := .agg #[.int .i64 p, .int .i64 q, .slice ar (R).length cr, .slice ac (C).length cc]) (by simp [results, Try.results91, go_sem, k0, k1, k2, k3, r0, r1', r2', r3]) rfl (HG3.out.fin hs hbl (by omega) (by omega) ?_ ?_ ?_ (by omega))
        · iterate 4 (refine Below.setCell ?_ (by simp) _)
          exact Below.refl _ _
        · have h := HG3.out.r
          unfold OwnI at h ⊢
          iterate 4 (refine ownsRow_setCell_below ?_ (by simpa using hs) _)
          exact h
        · have h := HG3.out.c
          unfold OwnI at h ⊢
          iterate 4 (refine ownsRow_setCell_below ?_ (by simpa using hs) _)
          exact h

end Go.Proofs.Ytnenaponiahalaa.MapD
