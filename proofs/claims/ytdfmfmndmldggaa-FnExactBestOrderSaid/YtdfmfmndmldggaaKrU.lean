/- Courses: the model's sums, routes and climbs; both texts of IsCourse, LegTimes, CourseTime, CourseClimb. -/
import Derived.Test.YtdfmfmndmldggaaKrT
namespace Go.Proofs.Ytdfmfmndmldggaa.KrU
open Go.RowKit Lb Bk IntS CtK CoM CoP CoF CoC KrM KrI KrG KrT LtI
open KrR (blk_keep rn r_yes r_no)
open KrO (own_ints rn_le rn_csp lgC)
open Cells (NPost)
open Go.Proofs.Ytdfmfmndmldggaa.BfoB (oL oL_len oL_at own_at own_cell)
set_option linter.unusedSimpArgs false
set_option linter.unusedVariables false

theorem sm_bd2 {zs : List Int} {B : Int} (hB : 0 ≤ B) (h : ∀ i, i < zs.length → -B ≤ zAt zs i ∧ zAt zs i ≤ B) : ∀ k, k ≤ zs.length → -(B * k) ≤ smZ (zs.take k) ∧ smZ (zs.take k) ≤ B * k
  | 0, _ => by simp [smZ]
  | k + 1, hk => by
    have ih := sm_bd2 hB h k (by omega)
    have h1 := h k (by omega)
    rw [sm_take (by omega)]
    have : B * ((k + 1 : Nat) : Int) = B * k + B := by rw [Int.natCast_add, Int.mul_add]; simp
    omega

set_option maxRecDepth 20000 in
set_option maxHeartbeats 2000000 in
theorem sum_any (zs : List Int) (hl : zs.length ≤ 1000) (hb : ∀ i, i < zs.length → -1000000 ≤ zAt zs i ∧ zAt zs i ≤ 1000000) (al : Option Addr) (cl : Nat) (w : World) (hr : IRow w al zs) :
    Calls Try.prog 57 #[.slice al zs.length cl] w fun e w' => e = .returned (.int .i64 (smZ zs)) ∧ w' = w := by
  have H := Lib.hid hr
  have HBd := Lib.hid (sm_bd2 (zs := zs) (B := 1000000) (by decide) hb)
  have HBi := Lib.hid hb
  obtain ⟨n, hn⟩ : ∃ n, zs.length = n := ⟨_, rfl⟩
  have HN := Lib.hid hn
  rw [hn] at hl ⊢
  clear hr hb hn
  go_enter Try.func57, Try.ntmps57
  go_wp2
  go_loop [4, 3] (fun i s => ∃ k : Nat, k ≤ n ∧ i = .int .i64 k ∧ s = .int .i64 (smZ (zs.take k))) (fun i _ => n - (intOf i).toNat)
  case atStart => exact ⟨0, Nat.zero_le _, rfl, rfl⟩
  case round =>
    obtain ⟨k, hk, rfl, rfl⟩ := hrel
    have hb1 := HBd.out k (by rw [HN.out]; exact hk)
    obtain ⟨s, hs⟩ : ∃ s, smZ (zs.take k) = s := ⟨_, rfl⟩
    rw [hs] at hb1
    by_cases hlt : k < n
    · have hb2 := HBi.out k (by rw [HN.out]; exact hlt)
      have HSt := Lib.hid (show smZ (zs.take (k + 1)) = s + zAt zs k from by rw [sm_take (by rw [HN.out]; exact hlt), hs])
      rcases H.out with h0 | ⟨b, off, rfl, hc⟩
      · rw [HN.out] at h0; omega
      have c0 := hc k (by rw [HN.out]; exact hlt)
      obtain ⟨x, hx⟩ : ∃ x, zAt zs k = x := ⟨_, rfl⟩
      simp only [hx] at c0
      rw [hx] at hb2 HSt
      obtain ⟨y, hy⟩ : ∃ y, s + x = y := ⟨_, rfl⟩
      have hw : IntKind.i64.wrap (s + x) = y := by rw [← hy]; exact IntWalk.i64_in _ (by omega)
      rw [hy] at HSt
      have hk0 : (0 : Int) ≤ (k : Int) := by omega
      have hk1 : (k : Int) < (n : Int) := by omega
      try rw [hs]
      clear hc hx hy hs
      go_wp2
      go_round
      case rel => exact ⟨k + 1, by omega, by go_num, by rw [HSt.out]⟩
      case measure => simp [intOf]; omega
    · obtain rfl : k = n := by omega
      rw [take_all zs HN.out] at hs
      try rw [take_all zs HN.out]
      try rw [hs]
      go_wp2
      go_ret
      exact ⟨rfl, rfl⟩

theorem lg_bd2 {m : Mp} {T : Nat → Nat → Int} (hT : TT m T) {cs : List Ct} {zs : List Int} (hg : goodB m cs = true) (hf : ∀ i, i < zs.length → Fnd cs zs i) : ∀ i, i < (seqL (lgT T cs zs) (zs.length - 1)).length → -1000000 ≤ zAt (seqL (lgT T cs zs) (zs.length - 1)) i ∧ zAt (seqL (lgT T cs zs) (zs.length - 1)) i ≤ 1000000 := fun i hi => by
  rw [seq_len] at hi
  rw [seq_at _ hi]
  have := lg_bd hT hg hf hi
  omega

set_option maxHeartbeats 2000000 in
theorem is_spec (m : Mp) (T : Nat → Nat → Int) (hT : TT m T) (cs : List Ct) (hl : cs.length ≤ 1048576) (zs : List Int) (hl2 : zs.length ≤ 1048576) (hR : m.R.length ≤ maxLen) (hC : m.C.length ≤ maxLen) (a b : Option Addr) (ca cb : Nat) (ad : Option Addr) (cap : Nat) (al : Option Addr) (cl : Nat) (w : World) (h : Rc m cs zs a b ad al w) :
    Calls Try.prog 33 #[.agg #[.int .i64 m.W, .int .i64 m.H, .slice a m.R.length ca, .slice b m.C.length cb], .slice ad cs.length cap, .slice al zs.length cl] w fun e w' => e = .returned (.bool (csB m T cs zs)) ∧ Below w.heap.size w w' := by
  have HB := Lib.hid ((Below.refl w.heap.size w).alloc (Nat.le_refl _) (.cells #[.int .i64 m.W, .int .i64 m.H, .slice a m.R.length ca, .slice b m.C.length cb] 26))
  have c1 := Lib.hid (good_any m T hT cs hl zs hl2 hR hC a b ca cb ad cap al cl _ (h.later HB.out))
  clear h hT
  go_enter Try.func33, Try.ntmps33
  go_wp2_with fail
  refine c1.out.mono ?_
  rintro e w1 ⟨rfl, hb⟩
  have HB1 := Lib.hid (HB.out.trans (hb.mono (by simp)))
  clear hb c1
  go_wp2
  go_ret
  exact ⟨rfl, HB1.out⟩

set_option maxHeartbeats 2000000 in
theorem times_spec (m : Mp) (T : Nat → Nat → Int) (hT : TT m T) (cs : List Ct) (hl : cs.length ≤ 1048576) (zs : List Int) (hl2 : zs.length ≤ 1048576) (hR : m.R.length ≤ maxLen) (hC : m.C.length ≤ maxLen) (a b : Option Addr) (ca cb : Nat) (ad : Option Addr) (cap : Nat) (al : Option Addr) (cl : Nat) (w : World) (h : Rc m cs zs a b ad al w) :
    Calls Try.prog 19 #[.agg #[.int .i64 m.W, .int .i64 m.H, .slice a m.R.length ca, .slice b m.C.length cb], .slice ad cs.length cap, .slice al zs.length cl] w (NPost w (seqL (lgT T cs zs) (rn m T cs zs)) (csB m T cs zs)) := by
  have HB := Lib.hid ((Below.refl w.heap.size w).alloc (Nat.le_refl _) (.cells #[.int .i64 m.W, .int .i64 m.H, .slice a m.R.length ca, .slice b m.C.length cb] 26))
  have HK := Lib.hid (Blk.new w 26 #[.int .i64 m.W, .int .i64 m.H, .slice a m.R.length ca, .slice b m.C.length cb])
  have H := Lib.hid h
  obtain ⟨ok, hok⟩ : ∃ o, csB m T cs zs = o := ⟨_, rfl⟩
  have c1 := Lib.hid (fun w h => hok ▸ good_any m T hT cs hl zs hl2 hR hC a b ca cb ad cap al cl w h)
  have HO := Lib.hid hok
  obtain ⟨r0, hr0⟩ : ∃ o, rn m T cs zs = o := ⟨_, rfl⟩
  have HZ := Lib.hid hr0
  have HT := Lib.hid hT
  rw [hok, hr0]
  clear h hT hok hr0
  go_enter Try.func19, Try.ntmps19
  go_wp2_with fail
  refine (c1.out _ (H.out.later HB.out)).mono ?_
  rintro e w1 ⟨rfl, hb⟩
  have HB1 := Lib.hid (HB.out.trans (hb.mono (by simp)))
  have HK1 := Lib.hid (HK.out.later hb)
  have hs1 := HB1.out.size
  clear hb HB HK c1
  cases ok with
  | false =>
    have h2 : r0 = 0 := by rw [← HZ.out]; unfold rn; rw [HO.out]; rfl
    subst h2
    go_wp2
    go_ret2
    exact ⟨_, rfl, own_ints w1 _ hs1, HB1.out.alloc hs1 _⟩
  | true =>
    have hp := cs_iff.1 HO.out
    have hrr : zs.length - 1 = r0 := by rw [← HZ.out]; unfold rn; rw [HO.out]; rfl
    have c2 := times_any m T HT.out cs hl zs hp.2.1.2 hp.1 hp.2.2.1 a b ca cb ad cap al cl w1 (H.out.later HB1.out)
    rw [hrr] at c2
    have C2 := Lib.hid c2
    obtain ⟨p0, p1, p2, p3, -⟩ := MapS.Blk.four HK1.out
    clear hp hrr c2
    go_wp2_with fail
    refine C2.out.mono ?_
    rintro e w2 ⟨v, rfl, ho, hb⟩
    have HB2 := Lib.hid (HB1.out.trans (hb.mono hs1))
    have HO2 := Lib.hid (IntS.rebase ho hs1)
    clear hb ho p0 p1 p2 p3
    go_wp2
    go_ret2
    exact ⟨_, rfl, HO2.out, HB2.out⟩

set_option maxHeartbeats 2000000 in
theorem ctime_spec (m : Mp) (T : Nat → Nat → Int) (hT : TT m T) (cs : List Ct) (hl : cs.length ≤ 1048576) (zs : List Int) (hl2 : zs.length ≤ 1048576) (hR : m.R.length ≤ maxLen) (hC : m.C.length ≤ maxLen) (a b : Option Addr) (ca cb : Nat) (ad : Option Addr) (cap : Nat) (al : Option Addr) (cl : Nat) (w : World) (h : Rc m cs zs a b ad al w) :
    Calls Try.prog 16 #[.agg #[.int .i64 m.W, .int .i64 m.H, .slice a m.R.length ca, .slice b m.C.length cb], .slice ad cs.length cap, .slice al zs.length cl] w (LPost w (smZ (seqL (lgT T cs zs) (rn m T cs zs))) (csB m T cs zs)) := by
  have HB := Lib.hid ((Below.refl w.heap.size w).alloc (Nat.le_refl _) (.cells #[.int .i64 m.W, .int .i64 m.H, .slice a m.R.length ca, .slice b m.C.length cb] 26))
  have HK := Lib.hid (Blk.new w 26 #[.int .i64 m.W, .int .i64 m.H, .slice a m.R.length ca, .slice b m.C.length cb])
  have H := Lib.hid h
  obtain ⟨ok, hok⟩ : ∃ o, csB m T cs zs = o := ⟨_, rfl⟩
  have c1 := Lib.hid (fun w h => hok ▸ good_any m T hT cs hl zs hl2 hR hC a b ca cb ad cap al cl w h)
  have HO := Lib.hid hok
  obtain ⟨r0, hr0⟩ : ∃ o, rn m T cs zs = o := ⟨_, rfl⟩
  have HZ := Lib.hid hr0
  have HT := Lib.hid hT
  rw [hok, hr0]
  clear h hT hok hr0
  go_enter Try.func16, Try.ntmps16
  go_wp2_with fail
  refine (c1.out _ (H.out.later HB.out)).mono ?_
  rintro e w1 ⟨rfl, hb⟩
  have HB1 := Lib.hid (HB.out.trans (hb.mono (by simp)))
  have HK1 := Lib.hid (HK.out.later hb)
  have hs1 := HB1.out.size
  clear hb HB HK c1
  cases ok with
  | false =>
    have h2 : r0 = 0 := by rw [← HZ.out]; unfold rn; rw [HO.out]; rfl
    subst h2
    go_wp2
    go_ret2
    exact ⟨rfl, HB1.out⟩
  | true =>
    have hp := cs_iff.1 HO.out
    have hrr : zs.length - 1 = r0 := by rw [← HZ.out]; unfold rn; rw [HO.out]; rfl
    have c2 := times_any m T HT.out cs hl zs hp.2.1.2 hp.1 hp.2.2.1 a b ca cb ad cap al cl w1 (H.out.later HB1.out)
    have hbd := lg_bd2 HT.out hp.1 hp.2.2.1
    rw [hrr] at c2 hbd
    have hr7 : r0 ≤ 7 := by have := hp.2.1; omega
    have C2 := Lib.hid c2
    have HBd := Lib.hid hbd
    obtain ⟨zt, hzt⟩ : ∃ z, seqL (lgT T cs zs) r0 = z := ⟨_, rfl⟩
    have hlt := seq_len (lgT T cs zs) r0
    rw [hzt] at C2 HBd hlt ⊢
    have C3 := Lib.hid (fun w al cl h => hlt ▸ sum_any zt (by omega) HBd.out al cl w h)
    obtain ⟨p0, p1, p2, p3, -⟩ := MapS.Blk.four HK1.out
    have HLt := Lib.hid hlt
    have HZT := Lib.hid hzt
    clear hp hrr c2 hbd hzt hlt
    go_wp2_with fail
    refine C2.out.mono ?_
    rintro e w2 ⟨v, rfl, ho, hb⟩
    have HB2 := Lib.hid (HB1.out.trans (hb.mono hs1))
    obtain ⟨ga, gc, rfl, hrow, -⟩ := OwnI.slice ho
    have HR := Lib.hid hrow
    rw [HLt.out]
    clear hb ho p0 p1 p2 p3 hrow
    go_wp2_with fail
    refine (C3.out _ _ _ HR.out).mono ?_
    rintro e w3 ⟨rfl, rfl⟩
    go_wp2
    go_ret2
    exact ⟨by rw [HZT.out]; rfl, HB2.out⟩

set_option maxRecDepth 20000 in
set_option maxHeartbeats 4000000 in
theorem route_any (m : Mp) (T : Nat → Nat → Int) (hT : TT m T) (cs : List Ct) (hl : cs.length ≤ 1048576) (zs : List Int) (hp : CsP m T cs zs) (k : Nat) (hk : k < zs.length - 1) (a b : Option Addr) (ca cb : Nat) (ad : Option Addr) (cap : Nat) (al : Option Addr) (cl : Nat) (w : World) (h : Rc m cs zs a b ad al w) :
    Calls Try.prog 64 #[.agg #[.int .i64 m.W, .int .i64 m.H, .slice a m.R.length ca, .slice b m.C.length cb], .slice ad cs.length cap, .slice al zs.length cl, .int .i64 k] w fun e w' => ∃ v, e = .returned v ∧ OwnI w' w.heap.size v (lgR m T cs zs k) ∧ Below w.heap.size w w' := by
  have HB := Lib.hid ((Below.refl w.heap.size w).alloc (Nat.le_refl _) (.cells #[.int .i64 m.W, .int .i64 m.H, .slice a m.R.length ca, .slice b m.C.length cb] 26))
  have HK := Lib.hid (Blk.new w 26 #[.int .i64 m.W, .int .i64 m.H, .slice a m.R.length ca, .slice b m.C.length cb])
  have HRr := Lib.hid (h.later HB.out)
  obtain ⟨ww, hh, gm⟩ := good_of (good_ok hp.1)
  obtain ⟨cx0, cy0, kk, L⟩ := leg_of hT gm hp.1 (hp.2.2.1 k (by omega)) (hp.2.2.1 (k + 1) (by omega)) (hp.2.2.2 k hk)
  have h8 := hp.2.1
  obtain ⟨zb, zo, rfl, hce⟩ := HRr.out.cell (k := k) (by omega)
  have c1 := hce (k + 1) (by omega)
  have c0 := hce k (by omega)
  obtain ⟨n, hn⟩ : ∃ n, zs.length = n := ⟨_, rfl⟩
  rw [hn] at hk h8 ⊢
  obtain ⟨x, hx⟩ : ∃ x, zAt zs (k + 1) = x := ⟨_, rfl⟩
  obtain ⟨y, hy⟩ : ∃ y, zAt zs k = y := ⟨_, rfl⟩
  have HFx := Lib.hid (show 0 ≤ fiZ cs x from by have := hp.2.2.1 (k + 1) (by omega); unfold Fnd at this; rwa [hx] at this)
  have HFy := Lib.hid (show 0 ≤ fiZ cs y from by have := hp.2.2.1 k (by omega); unfold Fnd at this; rwa [hy] at this)
  have ecx := L.ej
  have ecy := L.ei
  have HRt := Lib.hid L.rte
  rw [hx] at c1 ecx
  rw [hy] at c0 ecy
  have CX := Lib.hid (fun w h => ecx ▸ cell_any cs hl x HFx.out ad cap w h)
  have CY := Lib.hid (fun w h => ecy ▸ cell_any cs hl y HFy.out ad cap w h)
  have CB := Lib.hid (fun w hr hc => BstS.best_any m ww hh cy0 (T cy0) L.tg cx0 L.ge a b ca cb w hr hc)
  have hbest := Lib.hid L.best
  have hk1 : (0 : Int) ≤ (k : Int) := by omega
  have hk2 : (k : Int) < (n : Int) := by omega
  have hk0 : (0 : Int) ≤ (k : Int) + 1 := by omega
  have hk3 : (k : Int) + 1 < (n : Int) := by omega
  have hkw : IntKind.i64.wrap ((k : Int) + 1) = (k : Int) + 1 := IntWalk.i64_in _ (by omega)
  obtain ⟨zr, hzr⟩ : ∃ z, lgR m T cs zs k = z := ⟨_, rfl⟩
  have HZr := Lib.hid hzr
  rw [hzr]
  obtain ⟨B, hB⟩ : ∃ B, w.heap.size = B := ⟨_, rfl⟩
  have HBq := Lib.hid hB
  rw [hB] at HK
  have HK2 := HK
  clear hn hx hy hp h L gm hce ecx ecy hzr hT hl hB hk
  go_enter Try.func64, Try.ntmps64
  go_upto_region 1 with (fail)
  try rw [HBq.out]
  have hu : undef = Value.tuple #[] := rfl
  replace c0 : (w.alloc (.cells #[.int .i64 m.W, .int .i64 m.H, .slice a m.R.length ca, .slice b m.C.length cb] 26)).cell? ⟨zb, zo + k, none⟩ = some (.int .i64 y) := c0
  generalize w.alloc (.cells #[.int .i64 m.W, .int .i64 m.H, .slice a m.R.length ca, .slice b m.C.length cb] 26) = wd at *
  obtain ⟨p0, p1, p2, p3, -⟩ := MapS.Blk.four HK.out
  refine wp_region_noPanic ?_
  refine wp_region_held_drew (S := (fun Wx : World => Wx.cell? ⟨B, 0, none⟩ = some (.int .i64 m.W) ∧ Wx.cell? ⟨B, 1, none⟩ = some (.int .i64 m.H) ∧ Wx.cell? ⟨B, 2, none⟩ = some (.slice a m.R.length ca) ∧ Wx.cell? ⟨B, 3, none⟩ = some (.slice b m.C.length cb) ∧ Wx.cell? ⟨zb, zo + k, none⟩ = some (.int .i64 y) ∧ Wx.cell? ⟨zb, zo + (k + 1), none⟩ = some (.int .i64 x))) (by kernel_rfl) ⟨p0, p1, p2, p3, c0, c1⟩ (fun hHeld => ?_)
  refine wpAnyH_take (i := 0) (oi := _) (v := ?_) rfl (by kernel_rfl) (by kernel_rfl) (by kernel_rfl) (fun _ _ _ h => h) (Or.inl ⟨by rfl, ?_⟩) (by assumption) ?_; rotate_left; focus (intro W hSw; (try dsimp only at hSw); go_simp; (first | done | with_reducible rfl))
  (try simp only [List.getElem_toArray, List.getElem_cons_succ, List.getElem_cons_zero, Act.put, List.setIfInBounds_toArray, List.set_cons_zero, List.set_cons_succ])
  refine wpAnyH_take (i := 1) (oi := _) (v := ?_) rfl (by kernel_rfl) (by kernel_rfl) (by kernel_rfl) (fun _ _ _ h => h) (Or.inl ⟨by rfl, ?_⟩) (by assumption) ?_; rotate_left; focus (intro W hSw; (try dsimp only at hSw); go_simp; (first | done | with_reducible rfl))
  (try simp only [List.getElem_toArray, List.getElem_cons_succ, List.getElem_cons_zero, Act.put, List.setIfInBounds_toArray, List.set_cons_zero, List.set_cons_succ])
  refine wpAnyH_take (i := 2) (oi := _) (v := ?_) rfl (by kernel_rfl) (by kernel_rfl) (by kernel_rfl) (fun _ _ _ h => h) (Or.inl ⟨by rfl, ?_⟩) (by assumption) ?_; rotate_left; focus (intro W hSw; (try dsimp only at hSw); go_simp; (first | done | with_reducible rfl))
  (try simp only [List.getElem_toArray, List.getElem_cons_succ, List.getElem_cons_zero, Act.put, List.setIfInBounds_toArray, List.set_cons_zero, List.set_cons_succ])
  refine wpAnyH_take (i := 3) (oi := _) (v := ?_) rfl (by kernel_rfl) (by kernel_rfl) (by kernel_rfl) (fun _ _ _ h => h) (Or.inl ⟨by rfl, ?_⟩) (by assumption) ?_; rotate_left; focus (intro W hSw; (try dsimp only at hSw); go_simp; (first | done | with_reducible rfl))
  (try simp only [List.getElem_toArray, List.getElem_cons_succ, List.getElem_cons_zero, Act.put, List.setIfInBounds_toArray, List.set_cons_zero, List.set_cons_succ])
  refine wpAnyH_take (i := 4) (oi := _) (v := ?_) rfl (by kernel_rfl) (by kernel_rfl) (by kernel_rfl) (fun _ _ _ h => h) (Or.inl ⟨by rfl, ?_⟩) (by assumption) ?_; rotate_left; focus (intro W hSw; (try dsimp only at hSw); go_simp; (first | done | with_reducible rfl))
  (try simp only [List.getElem_toArray, List.getElem_cons_succ, List.getElem_cons_zero, Act.put, List.setIfInBounds_toArray, List.set_cons_zero, List.set_cons_succ])
  refine wpAnyH_take (i := 5) (oi := _) (v := ?_) rfl (by kernel_rfl) (by kernel_rfl) (by kernel_rfl) (fun _ _ _ h => h) (Or.inl ⟨by rfl, ?_⟩) (by assumption) ?_; rotate_left; focus (intro W hSw; (try dsimp only at hSw); go_simp; (first | done | with_reducible rfl))
  (try simp only [List.getElem_toArray, List.getElem_cons_succ, List.getElem_cons_zero, Act.put, List.setIfInBounds_toArray, List.set_cons_zero, List.set_cons_succ])
  refine wpAnyH_take (i := 7) (oi := _) (v := ?_) rfl (by kernel_rfl) (by kernel_rfl) (by kernel_rfl) (fun _ _ _ h => h) (Or.inl ⟨by rfl, ?_⟩) (by assumption) ?_; rotate_left; focus (intro W hSw; (try dsimp only at hSw); go_simp; (first | done | with_reducible rfl))
  (try simp only [List.getElem_toArray, List.getElem_cons_succ, List.getElem_cons_zero, Act.put, List.setIfInBounds_toArray, List.set_cons_zero, List.set_cons_succ])
  refine wpAnyH_take (i := 8) (oi := _) (v := ?_) rfl (by kernel_rfl) (by kernel_rfl) (by kernel_rfl) (fun _ _ _ h => h) (Or.inl ⟨by rfl, ?_⟩) (by assumption) ?_; rotate_left; focus (intro W hSw; (try dsimp only at hSw); go_simp; (first | done | with_reducible rfl))
  (try simp only [List.getElem_toArray, List.getElem_cons_succ, List.getElem_cons_zero, Act.put, List.setIfInBounds_toArray, List.set_cons_zero, List.set_cons_succ])
  refine wpAnyH_take (i := 9) (oi := _) (v := ?_) rfl (by kernel_rfl) (by kernel_rfl) (by kernel_rfl) (fun _ _ _ h => h) (Or.inl ⟨by rfl, ?_⟩) (by assumption) ?_; rotate_left; focus (intro W hSw; (try dsimp only at hSw); go_simp; (first | done | with_reducible rfl))
  (try simp only [List.getElem_toArray, List.getElem_cons_succ, List.getElem_cons_zero, Act.put, List.setIfInBounds_toArray, List.set_cons_zero, List.set_cons_succ])
  refine wpAnyH_take (i := 10) (oi := _) (v := ?_) rfl (by kernel_rfl) (by kernel_rfl) (by kernel_rfl) (fun _ _ _ h => h) (Or.inl ⟨by rfl, ?_⟩) (by assumption) ?_; rotate_left; focus (intro W hSw; (try dsimp only at hSw); go_simp; (first | done | with_reducible rfl))
  (try simp only [List.getElem_toArray, List.getElem_cons_succ, List.getElem_cons_zero, Act.put, List.setIfInBounds_toArray, List.set_cons_zero, List.set_cons_succ])
  refine wpAnyH_take (i := 11) (oi := _) (v := ?_) rfl (by kernel_rfl) (by kernel_rfl) (by kernel_rfl) (fun _ _ _ h => h) (Or.inl ⟨by rfl, ?_⟩) (by assumption) ?_; rotate_left; focus (intro W hSw; (try dsimp only at hSw); go_simp; (first | done | with_reducible rfl))
  (try simp only [List.getElem_toArray, List.getElem_cons_succ, List.getElem_cons_zero, Act.put, List.setIfInBounds_toArray, List.set_cons_zero, List.set_cons_succ])
  refine wpAnyH_take (i := 12) (oi := _) (v := ?_) rfl (by kernel_rfl) (by kernel_rfl) (by kernel_rfl) (fun _ _ _ h => h) (Or.inl ⟨by rfl, ?_⟩) (by assumption) ?_; rotate_left; focus (intro W hSw; (try dsimp only at hSw); go_simp; (first | done | with_reducible rfl))
  (try simp only [List.getElem_toArray, List.getElem_cons_succ, List.getElem_cons_zero, Act.put, List.setIfInBounds_toArray, List.set_cons_zero, List.set_cons_succ])
  refine wpAnyH_ready (rs := [6]) (by kernel_rfl) (by simp) ?_
  refine AllReadyH.cons (o := _) rfl (fun K hK => ?_) AllReadyH.nil
  go_simp
  go_at_call 89
  refine (CY.out _ HRr.out.drew.d.l).mono ?_
  rintro e w2 ⟨rfl, rfl⟩
  go_wp2_with fail
  refine hK.out _ _ ⟨p0, p1, p2, p3, c0, c1⟩ (fun _ => ?_)
  clear hK K hHeld
  refine wpAnyH_ready (rs := [13]) (by kernel_rfl) (by simp) ?_
  refine AllReadyH.cons (o := _) rfl (fun K hK => ?_) AllReadyH.nil
  go_simp
  go_at_call 89
  refine (CX.out _ HRr.out.drew.d.l).mono ?_
  rintro e w2 ⟨rfl, rfl⟩
  go_wp2_with fail
  refine hK.out _ _ ⟨p0, p1, p2, p3, c0, c1⟩ (fun _ => ?_)
  clear hK K
  refine wpAnyH_ready (rs := [14]) (by kernel_rfl) (by simp) ?_
  refine AllReadyH.cons (o := _) rfl (fun K hK => ?_) AllReadyH.nil
  go_simp
  go_at_call 93
  refine (CB.out _ HRr.out.drew.d.r HRr.out.drew.d.c).mono ?_
  rintro e w2 ⟨⟨v, k2, rfl, hb2, ho⟩, hb⟩
  have HO := Lib.hid (show OwnI w2 w.heap.size v zr from by
    rw [hb2.unique hbest.out] at ho
    rw [← HZr.out, HRt.out]
    exact IntS.rebase ho HB.out.size)
  have HB2 := Lib.hid (show Below w.heap.size w w2 from HB.out.drew.trans (hb.mono HB.out.size))
  have hS : (w2.cell? ⟨B, 0, none⟩ = some (.int .i64 m.W) ∧ w2.cell? ⟨B, 1, none⟩ = some (.int .i64 m.H) ∧ w2.cell? ⟨B, 2, none⟩ = some (.slice a m.R.length ca) ∧ w2.cell? ⟨B, 3, none⟩ = some (.slice b m.C.length cb) ∧ w2.cell? ⟨zb, zo + k, none⟩ = some (.int .i64 y) ∧ w2.cell? ⟨zb, zo + (k + 1), none⟩ = some (.int .i64 x)) := ⟨(hb.cell (World.block_lt_of_cell? wd.drew _ p0)).trans p0, (hb.cell (World.block_lt_of_cell? wd.drew _ p1)).trans p1, (hb.cell (World.block_lt_of_cell? wd.drew _ p2)).trans p2, (hb.cell (World.block_lt_of_cell? wd.drew _ p3)).trans p3, (hb.cell (World.block_lt_of_cell? wd.drew _ c0)).trans c0, (hb.cell (World.block_lt_of_cell? wd.drew _ c1)).trans c1⟩
  clear hb ho hb2
  go_wp2_with fail
  refine hK.out _ _ hS (fun _ => ?_)
  clear hK K hS
  refine wpAnyH_take (i := 15) (oi := _) (v := ?_) rfl (by kernel_rfl) (by kernel_rfl) (by kernel_rfl) (fun _ _ _ h => h) (Or.inl ⟨by rfl, ?_⟩) (by assumption) ?_; rotate_left; focus (intro W hSw; (try dsimp only at hSw); go_simp; (first | done | with_reducible rfl))
  (try simp only [List.getElem_toArray, List.getElem_cons_succ, List.getElem_cons_zero, Act.put, List.setIfInBounds_toArray, List.set_cons_zero, List.set_cons_succ])
  refine wpAnyH_done (by kernel_rfl) ?_ _
  refine NoPanic.normal ?_
  (try simp only [List.getElem_toArray, List.getElem_cons_succ, List.getElem_cons_zero, Act.put, List.setIfInBounds_toArray, List.set_cons_zero, List.set_cons_succ])
  clear hu
  go_wp2
  go_ret
  exact ⟨_, rfl, HO.out, HB2.out⟩

set_option maxRecDepth 20000 in
set_option maxHeartbeats 4000000 in
theorem climb_spec (m : Mp) (T : Nat → Nat → Int) (hT : TT m T) (cs : List Ct) (hl : cs.length ≤ 1048576) (zs : List Int) (hl2 : zs.length ≤ 1048576) (hR : m.R.length ≤ maxLen) (hC : m.C.length ≤ maxLen) (a b : Option Addr) (ca cb : Nat) (ad : Option Addr) (cap : Nat) (al : Option Addr) (cl : Nat) (w : World) (h : Rc m cs zs a b ad al w) :
    Calls Try.prog 24 #[.agg #[.int .i64 m.W, .int .i64 m.H, .slice a m.R.length ca, .slice b m.C.length cb], .slice ad cs.length cap, .slice al zs.length cl] w (LPost w (smZ (seqL (lgC m T cs zs) (rn m T cs zs))) (csB m T cs zs)) := by
  have HB := Lib.hid ((Below.refl w.heap.size w).alloc (Nat.le_refl _) (.cells #[.int .i64 m.W, .int .i64 m.H, .slice a m.R.length ca, .slice b m.C.length cb] 26))
  have HK := Lib.hid (Blk.new w 26 #[.int .i64 m.W, .int .i64 m.H, .slice a m.R.length ca, .slice b m.C.length cb])
  have H := Lib.hid h
  have hcl := KrO.cl_bd (m := m) (cs := cs) (zs := zs) hT
  obtain ⟨ok, hok⟩ : ∃ o, csB m T cs zs = o := ⟨_, rfl⟩
  have c1 := Lib.hid (fun w h => hok ▸ good_any m T hT cs hl zs hl2 hR hC a b ca cb ad cap al cl w h)
  have HO := Lib.hid hok
  obtain ⟨r0, hr0⟩ : ∃ o, rn m T cs zs = o := ⟨_, rfl⟩
  have HZ := Lib.hid hr0
  have HT := Lib.hid hT
  rw [hr0] at hcl
  have HCl := Lib.hid hcl
  obtain ⟨n, hn⟩ : ∃ n, zs.length = n := ⟨_, rfl⟩
  have HN := Lib.hid hn
  rw [hn] at hl2 c1
  rw [hok, hr0, hn]
  obtain ⟨B, hB⟩ : ∃ B, w.heap.size = B := ⟨_, rfl⟩
  have HBq := Lib.hid hB
  rw [hB] at HK
  clear h hT hok hr0 hcl hn hB
  go_enter Try.func24, Try.ntmps24
  go_wp2_with fail
  refine (c1.out _ (H.out.later HB.out)).mono ?_
  rintro e w1 ⟨rfl, hb⟩
  have HB1 := Lib.hid (HB.out.trans (hb.mono (by simp)))
  have HK1 := Lib.hid (HK.out.later hb)
  have hs1 := HB1.out.size
  try rw [HBq.out]
  clear hb HB HK c1
  cases ok with
  | false =>
    have h2 : r0 = 0 := by rw [← HZ.out]; unfold rn; rw [HO.out]; rfl
    subst h2
    go_wp2
    go_ret2
    exact ⟨rfl, HB1.out⟩
  | true =>
    have HP := Lib.hid (cs_iff.1 HO.out)
    have hrr : r0 + 1 = n := by have := HP.out.2.1; have := HN.out; rw [← HZ.out]; unfold rn; rw [HO.out]; simp; omega
    have hr7 : r0 ≤ 7 := by have := HP.out.2.1; have := HN.out; omega
    have HRr := Lib.hid hrr
    clear hrr
    go_wp2
    go_loopg [9, 8] r0 (fun gk i s wr => ∃ k : Nat, k ≤ r0 ∧ gk = r0 - k ∧ i = .int .i64 k ∧ s = .int .i64 (smZ (seqL (lgC m T cs zs) k)) ∧ Below w1.heap.size w1 wr)
    case atStart => exact ⟨0, Nat.zero_le _, rfl, rfl, rfl, Below.refl _ _⟩
    case round =>
      obtain ⟨k, hk, hgk, rfl, rfl, hb⟩ := hrel
      have HB2 := Lib.hid hb
      have hbd := sm_bd (zs := seqL (lgC m T cs zs) k) (B := 1000000) (by decide) (KrO.seq_bd (fun l hl => HCl.out l (by omega))) k (by rw [seq_len]; exact Nat.le_refl _)
      rw [take_all _ (seq_len _ _)] at hbd
      obtain ⟨s, hs⟩ : ∃ s, smZ (seqL (lgC m T cs zs) k) = s := ⟨_, rfl⟩
      rw [hs] at hbd ⊢
      clear hb
      by_cases hlt : k < r0
      · have hkn : (k : Int) + 1 < (n : Int) := by have := HRr.out; omega
        have hsd := HCl.out k hlt
        have HBr := Lib.hid (HB1.out.trans (HB2.out.mono hs1))
        have HKr := Lib.hid (HK1.out.later HB2.out)
        have HRc := Lib.hid (H.out.later HBr.out)
        obtain ⟨cz, hcz⟩ : ∃ z, lgC m T cs zs k = z := ⟨_, rfl⟩
        rw [hcz] at hsd
        obtain ⟨s2, hs2⟩ : ∃ z, s + cz = z := ⟨_, rfl⟩
        have hw : IntKind.i64.wrap (s + cz) = s2 := by rw [← hs2]; exact IntWalk.i64_in _ (by omega)
        have HSt := Lib.hid (show smZ (seqL (lgC m T cs zs) (k + 1)) = s2 from by rw [seq_next, sm_app, hs, hcz]; simp [smZ]; omega)
        have hkz : k < zs.length - 1 := by have := HN.out; have := HRr.out; omega
        obtain ⟨ww, hh, ci, cj, kk, L⟩ := HP.out.leg HT.out hkz
        obtain ⟨r1, -, -, -, r5⟩ := L.along HT.out
        have hcl := L.len
        have hcz2 : RtS.sm (RtS.clb m) (lgR m T cs zs k) kk = cz := by rw [← hcz]; unfold lgC; rw [TibC.a_yes (n := kk) r5 hcl]
        have CR := Lib.hid (fun w h => HN.out ▸ route_any m T HT.out cs hl zs HP.out k hkz a b ca cb ad cap al cl w h)
        obtain ⟨zr, hzr⟩ : ∃ z, lgR m T cs zs k = z := ⟨_, rfl⟩
        rw [hzr] at CR r1 hcl hcz2
        have CC := Lib.hid (fun gv cv w hr hc hz => hcz2 ▸ CliS.climb_any m ww hh L.g zr r1 kk hcl a b ca cb cv gv 0 w hr hc hz)
        have HZl := Lib.hid hcl
        clear hcz hs hs2 hkz L r1 r5 hcl hcz2 hzr
        obtain ⟨p0, p1, p2, p3, -⟩ := MapS.Blk.four HKr.out
        have hu : undef = Value.tuple #[] := rfl
        go_upto_region 7 with (fail)
        refine wp_region_noPanic ?_
        refine wp_region_held_drew (S := (fun Wx : World => Wx.cell? ⟨B, 0, none⟩ = some (.int .i64 m.W) ∧ Wx.cell? ⟨B, 1, none⟩ = some (.int .i64 m.H) ∧ Wx.cell? ⟨B, 2, none⟩ = some (.slice a m.R.length ca) ∧ Wx.cell? ⟨B, 3, none⟩ = some (.slice b m.C.length cb))) (by kernel_rfl) ⟨p0, p1, p2, p3⟩ (fun hHeld => ?_)
        refine wpAnyH_take (i := 0) (oi := _) (v := ?_) rfl (by kernel_rfl) (by kernel_rfl) (by kernel_rfl) (fun _ _ _ h => h) (Or.inl ⟨by rfl, ?_⟩) (by assumption) ?_; rotate_left; focus (intro W hSw; (try dsimp only at hSw); go_simp; (first | done | with_reducible rfl))
        (try simp only [List.getElem_toArray, List.getElem_cons_succ, List.getElem_cons_zero, Act.put, List.setIfInBounds_toArray, List.set_cons_zero, List.set_cons_succ])
        refine wpAnyH_take (i := 1) (oi := _) (v := ?_) rfl (by kernel_rfl) (by kernel_rfl) (by kernel_rfl) (fun _ _ _ h => h) (Or.inl ⟨by rfl, ?_⟩) (by assumption) ?_; rotate_left; focus (intro W hSw; (try dsimp only at hSw); go_simp; (first | done | with_reducible rfl))
        (try simp only [List.getElem_toArray, List.getElem_cons_succ, List.getElem_cons_zero, Act.put, List.setIfInBounds_toArray, List.set_cons_zero, List.set_cons_succ])
        refine wpAnyH_take (i := 2) (oi := _) (v := ?_) rfl (by kernel_rfl) (by kernel_rfl) (by kernel_rfl) (fun _ _ _ h => h) (Or.inl ⟨by rfl, ?_⟩) (by assumption) ?_; rotate_left; focus (intro W hSw; (try dsimp only at hSw); go_simp; (first | done | with_reducible rfl))
        (try simp only [List.getElem_toArray, List.getElem_cons_succ, List.getElem_cons_zero, Act.put, List.setIfInBounds_toArray, List.set_cons_zero, List.set_cons_succ])
        refine wpAnyH_take (i := 3) (oi := _) (v := ?_) rfl (by kernel_rfl) (by kernel_rfl) (by kernel_rfl) (fun _ _ _ h => h) (Or.inl ⟨by rfl, ?_⟩) (by assumption) ?_; rotate_left; focus (intro W hSw; (try dsimp only at hSw); go_simp; (first | done | with_reducible rfl))
        (try simp only [List.getElem_toArray, List.getElem_cons_succ, List.getElem_cons_zero, Act.put, List.setIfInBounds_toArray, List.set_cons_zero, List.set_cons_succ])
        refine wpAnyH_take (i := 4) (oi := _) (v := ?_) rfl (by kernel_rfl) (by kernel_rfl) (by kernel_rfl) (fun _ _ _ h => h) (Or.inl ⟨by rfl, ?_⟩) (by assumption) ?_; rotate_left; focus (intro W hSw; (try dsimp only at hSw); go_simp; (first | done | with_reducible rfl))
        (try simp only [List.getElem_toArray, List.getElem_cons_succ, List.getElem_cons_zero, Act.put, List.setIfInBounds_toArray, List.set_cons_zero, List.set_cons_succ])
        refine wpAnyH_take (i := 5) (oi := _) (v := ?_) rfl (by kernel_rfl) (by kernel_rfl) (by kernel_rfl) (fun _ _ _ h => h) (Or.inl ⟨by rfl, ?_⟩) (by assumption) ?_; rotate_left; focus (intro W hSw; (try dsimp only at hSw); go_simp; (first | done | with_reducible rfl))
        (try simp only [List.getElem_toArray, List.getElem_cons_succ, List.getElem_cons_zero, Act.put, List.setIfInBounds_toArray, List.set_cons_zero, List.set_cons_succ])
        refine wpAnyH_ready (rs := [6]) (by kernel_rfl) (by simp) ?_
        refine AllReadyH.cons (o := _) rfl (fun K hK => ?_) AllReadyH.nil
        go_simp
        go_at_call 64
        refine (CR.out _ (HRc.out.drew)).mono ?_
        rintro e w2 ⟨v, rfl, ho, hb⟩
        obtain ⟨ga, gc, rfl, hrow, -⟩ := OwnI.slice ho
        have hS : (w2.cell? ⟨B, 0, none⟩ = some (.int .i64 m.W) ∧ w2.cell? ⟨B, 1, none⟩ = some (.int .i64 m.H) ∧ w2.cell? ⟨B, 2, none⟩ = some (.slice a m.R.length ca) ∧ w2.cell? ⟨B, 3, none⟩ = some (.slice b m.C.length cb)) := ⟨(hb.cell (World.block_lt_of_cell? wr.drew _ p0)).trans p0, (hb.cell (World.block_lt_of_cell? wr.drew _ p1)).trans p1, (hb.cell (World.block_lt_of_cell? wr.drew _ p2)).trans p2, (hb.cell (World.block_lt_of_cell? wr.drew _ p3)).trans p3⟩
        have HR2 := Lib.hid (HRc.out.drew.later hb)
        have HB3 := Lib.hid (HB2.out.drew.trans (hb.mono HB2.out.size))
        have HRow := Lib.hid hrow
        rw [HZl.out]
        obtain ⟨gb, rfl⟩ : ∃ g, ga = some ⟨g, 0, none⟩ := by
          rcases ho.2 with ⟨_, h0⟩ | ⟨g, c, cur, e, _⟩
          · rw [HZl.out] at h0; omega
          · exact ⟨g, by simpa using (Value.slice.inj e).1⟩
        clear hb ho hrow
        go_wp2_with fail
        refine hK.out _ _ hS (fun _ => ?_)
        clear hK K
        refine wpAnyH_ready (rs := [7]) (by kernel_rfl) (by simp) ?_
        refine AllReadyH.cons (o := _) rfl (fun K hK => ?_) AllReadyH.nil
        go_simp
        go_at_call 63
        refine (CC.out gb gc _ HR2.out.d.r HR2.out.d.c (by
          rcases HRow.out with h0 | ⟨b1, o1, e, hc⟩
          · rw [HZl.out] at h0; omega
          · cases e; exact hc)).mono ?_
        rintro e w3 ⟨rfl, hb⟩
        obtain ⟨p0, p1, p2, p3⟩ := hS
        have hS : (w3.cell? ⟨B, 0, none⟩ = some (.int .i64 m.W) ∧ w3.cell? ⟨B, 1, none⟩ = some (.int .i64 m.H) ∧ w3.cell? ⟨B, 2, none⟩ = some (.slice a m.R.length ca) ∧ w3.cell? ⟨B, 3, none⟩ = some (.slice b m.C.length cb)) := ⟨(hb.cell (World.block_lt_of_cell? w2 _ p0)).trans p0, (hb.cell (World.block_lt_of_cell? w2 _ p1)).trans p1, (hb.cell (World.block_lt_of_cell? w2 _ p2)).trans p2, (hb.cell (World.block_lt_of_cell? w2 _ p3)).trans p3⟩
        have HB4 := Lib.hid (HB3.out.trans (hb.mono HB3.out.size))
        clear hb
        go_wp2_with fail
        refine hK.out _ _ hS (fun _ => ?_)
        clear hK K hS
        refine wpAnyH_take (i := 8) (oi := _) (v := ?_) rfl (by kernel_rfl) (by kernel_rfl) (by kernel_rfl) (fun _ _ _ h => h) (Or.inl ⟨by rfl, ?_⟩) (by assumption) ?_; rotate_left; focus (intro W hSw; (try dsimp only at hSw); go_simp; (first | done | with_reducible rfl))
        (try simp only [List.getElem_toArray, List.getElem_cons_succ, List.getElem_cons_zero, Act.put, List.setIfInBounds_toArray, List.set_cons_zero, List.set_cons_succ])
        refine wpAnyH_take (i := 9) (oi := _) (v := ?_) rfl (by kernel_rfl) (by kernel_rfl) (by kernel_rfl) (fun _ _ _ h => h) (Or.inl ⟨by rfl, ?_⟩) (by assumption) ?_; rotate_left; focus (intro W hSw; (try dsimp only at hSw); go_simp; (first | done | with_reducible rfl))
        (try simp only [List.getElem_toArray, List.getElem_cons_succ, List.getElem_cons_zero, Act.put, List.setIfInBounds_toArray, List.set_cons_zero, List.set_cons_succ])
        refine wpAnyH_done (by kernel_rfl) ?_ _
        refine NoPanic.normal ?_
        (try simp only [List.getElem_toArray, List.getElem_cons_succ, List.getElem_cons_zero, Act.put, List.setIfInBounds_toArray, List.set_cons_zero, List.set_cons_succ])
        clear hu
        go_wp2
        go_roundg (r0 - (k + 1))
        case measure => omega
        case rel => exact ⟨k + 1, by omega, rfl, by go_num, by rw [HSt.out], HB4.out⟩
      · obtain rfl : k = r0 := by omega
        have hkn : ¬ (k : Int) + 1 < (n : Int) := by have := HRr.out; omega
        have HSs := Lib.hid hs
        clear hs
        go_wp2
        go_ret2
        exact ⟨by rw [HSs.out]; rfl, HB1.out.trans (HB2.out.mono hs1)⟩

theorem are (m : Mp) (hR : m.R.length ≤ maxLen) (hC : m.C.length ≤ maxLen) (cs : List Ct) (hf : ∀ i, i < cs.length → Is (at_ cs i)) (hl : cs.length ≤ 1048576) (zs : List Int) (hz : zs.length ≤ 1048576) : ∃ ok : Bool, 
    (∀ a b ca cb ad cap al cl w, IRow w a m.R → IRow w b m.C → cs.length ≤ cap → Row w ad cs → zs.length ≤ cl → IntK.Row w al zs → Calls Try.prog 33 #[.agg #[.int .i64 m.W, .int .i64 m.H, .slice a m.R.length ca, .slice b m.C.length cb], .slice ad cs.length cap, .slice al zs.length cl] w fun e w' => e = .returned (.bool ok) ∧ Below w.heap.size w w') ∧
    (∀ a b ca cb ad cap al cl w, IRow w a m.R → IRow w b m.C → cs.length ≤ cap → Row w ad cs → zs.length ≤ cl → IntK.Row w al zs → Calls Try.prog 17 #[.agg #[.int .i64 m.W, .int .i64 m.H, .slice a m.R.length ca, .slice b m.C.length cb], .slice ad cs.length cap, .slice al zs.length cl] w fun e w' => e = .returned (.bool ok) ∧ Below w.heap.size w w') := by
  obtain ⟨T, hT⟩ := tt_ex m
  refine ⟨csB m T cs zs, fun a b ca cb ad cap al cl w h1 h2 _ h3 h4 h5 => is_spec m T hT cs hl zs hz hR hC a b ca cb ad cap al cl w ⟨⟨h1, h2, h3⟩, h5⟩, fun a b ca cb ad cap al cl w h1 h2 _ h3 h4 h5 => KrO.is_impl m T hT cs hl zs hz hR hC a b ca cb ad cap al cl w ⟨⟨h1, h2, h3⟩, h5⟩⟩

theorem times (m : Mp) (hR : m.R.length ≤ maxLen) (hC : m.C.length ≤ maxLen) (cs : List Ct) (hf : ∀ i, i < cs.length → Is (at_ cs i)) (hl : cs.length ≤ 1048576) (zs : List Int) (hz : zs.length ≤ 1048576) : ∃ (us : List Int) (ok : Bool), us.length ≤ 1048576 ∧
    (∀ a b ca cb ad cap al cl w, IRow w a m.R → IRow w b m.C → cs.length ≤ cap → Row w ad cs → zs.length ≤ cl → IntK.Row w al zs → Calls Try.prog 19 #[.agg #[.int .i64 m.W, .int .i64 m.H, .slice a m.R.length ca, .slice b m.C.length cb], .slice ad cs.length cap, .slice al zs.length cl] w fun e w' => ∃ v, e = .returned (.tuple #[v, .bool ok]) ∧ IntK.Own w' w.heap.size v us ∧ Below w.heap.size w w') ∧
    (∀ a b ca cb ad cap al cl w, IRow w a m.R → IRow w b m.C → cs.length ≤ cap → Row w ad cs → zs.length ≤ cl → IntK.Row w al zs → Calls Try.prog 18 #[.agg #[.int .i64 m.W, .int .i64 m.H, .slice a m.R.length ca, .slice b m.C.length cb], .slice ad cs.length cap, .slice al zs.length cl] w fun e w' => ∃ v, e = .returned (.tuple #[v, .bool ok]) ∧ IntK.Own w' w.heap.size v us ∧ Below w.heap.size w w') := by
  obtain ⟨T, hT⟩ := tt_ex m
  refine ⟨seqL (lgT T cs zs) (rn m T cs zs), csB m T cs zs, (by rw [seq_len]; have := rn_le m T cs zs; omega), fun a b ca cb ad cap al cl w h1 h2 _ h3 h4 h5 => times_spec m T hT cs hl zs hz hR hC a b ca cb ad cap al cl w ⟨⟨h1, h2, h3⟩, h5⟩, fun a b ca cb ad cap al cl w h1 h2 _ h3 h4 h5 => KrO.times_impl m T hT cs hl zs hz hR hC a b ca cb ad cap al cl w ⟨⟨h1, h2, h3⟩, h5⟩⟩

theorem ctime (m : Mp) (hR : m.R.length ≤ maxLen) (hC : m.C.length ≤ maxLen) (cs : List Ct) (hf : ∀ i, i < cs.length → Is (at_ cs i)) (hl : cs.length ≤ 1048576) (zs : List Int) (hz : zs.length ≤ 1048576) : ∃ (z : Int) (ok : Bool), 
    (∀ a b ca cb ad cap al cl w, IRow w a m.R → IRow w b m.C → cs.length ≤ cap → Row w ad cs → zs.length ≤ cl → IntK.Row w al zs → Calls Try.prog 16 #[.agg #[.int .i64 m.W, .int .i64 m.H, .slice a m.R.length ca, .slice b m.C.length cb], .slice ad cs.length cap, .slice al zs.length cl] w fun e w' => e = .returned (.tuple #[.int .i64 z, .bool ok]) ∧ Below w.heap.size w w') ∧
    (∀ a b ca cb ad cap al cl w, IRow w a m.R → IRow w b m.C → cs.length ≤ cap → Row w ad cs → zs.length ≤ cl → IntK.Row w al zs → Calls Try.prog 15 #[.agg #[.int .i64 m.W, .int .i64 m.H, .slice a m.R.length ca, .slice b m.C.length cb], .slice ad cs.length cap, .slice al zs.length cl] w fun e w' => e = .returned (.tuple #[.int .i64 z, .bool ok]) ∧ Below w.heap.size w w') := by
  obtain ⟨T, hT⟩ := tt_ex m
  refine ⟨smZ (seqL (lgT T cs zs) (rn m T cs zs)), csB m T cs zs, fun a b ca cb ad cap al cl w h1 h2 _ h3 h4 h5 => ctime_spec m T hT cs hl zs hz hR hC a b ca cb ad cap al cl w ⟨⟨h1, h2, h3⟩, h5⟩, fun a b ca cb ad cap al cl w h1 h2 _ h3 h4 h5 => KrO.ctime_impl m T hT cs hl zs hz hR hC a b ca cb ad cap al cl w ⟨⟨h1, h2, h3⟩, h5⟩⟩

theorem climb (m : Mp) (hR : m.R.length ≤ maxLen) (hC : m.C.length ≤ maxLen) (cs : List Ct) (hf : ∀ i, i < cs.length → Is (at_ cs i)) (hl : cs.length ≤ 1048576) (zs : List Int) (hz : zs.length ≤ 1048576) : ∃ (z : Int) (ok : Bool), 
    (∀ a b ca cb ad cap al cl w, IRow w a m.R → IRow w b m.C → cs.length ≤ cap → Row w ad cs → zs.length ≤ cl → IntK.Row w al zs → Calls Try.prog 24 #[.agg #[.int .i64 m.W, .int .i64 m.H, .slice a m.R.length ca, .slice b m.C.length cb], .slice ad cs.length cap, .slice al zs.length cl] w fun e w' => e = .returned (.tuple #[.int .i64 z, .bool ok]) ∧ Below w.heap.size w w') ∧
    (∀ a b ca cb ad cap al cl w, IRow w a m.R → IRow w b m.C → cs.length ≤ cap → Row w ad cs → zs.length ≤ cl → IntK.Row w al zs → Calls Try.prog 23 #[.agg #[.int .i64 m.W, .int .i64 m.H, .slice a m.R.length ca, .slice b m.C.length cb], .slice ad cs.length cap, .slice al zs.length cl] w fun e w' => e = .returned (.tuple #[.int .i64 z, .bool ok]) ∧ Below w.heap.size w w') := by
  obtain ⟨T, hT⟩ := tt_ex m
  refine ⟨smZ (seqL (lgC m T cs zs) (rn m T cs zs)), csB m T cs zs, fun a b ca cb ad cap al cl w h1 h2 _ h3 h4 h5 => climb_spec m T hT cs hl zs hz hR hC a b ca cb ad cap al cl w ⟨⟨h1, h2, h3⟩, h5⟩, fun a b ca cb ad cap al cl w h1 h2 _ h3 h4 h5 => KrO.climb_impl m T hT cs hl zs hz hR hC a b ca cb ad cap al cl w ⟨⟨h1, h2, h3⟩, h5⟩⟩
end Go.Proofs.Ytdfmfmndmldggaa.KrU
