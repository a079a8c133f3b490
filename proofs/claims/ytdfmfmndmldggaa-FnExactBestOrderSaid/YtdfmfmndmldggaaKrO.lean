/- Courses: the program's numbers of the legs; LegTimes, CourseTime, CourseClimb, IsCourse. -/
import Derived.Test.YtdfmfmndmldggaaKrR
import Derived.Shelf.Abstract
namespace Go.Proofs.Ytdfmfmndmldggaa.KrO
open Go.RowKit Lb Bk IntS CtK CoM CoP CoF CoC KrM KrI KrR LtI TblS
open PrtB (TPst ownP_nil)
open Cells (NPost)
set_option linter.unusedSimpArgs false
set_option linter.unusedVariables false

/-- A function value with a text is entered. -/
theorem enter_of {P : Program} {f : FuncId} {fn : Func} {c : Code} (hf : P.funcs[f]? = some fn) (hname : (fn.name == "runtime.NumGoroutine") = false) (hb : fn.body = some c) (args : Array Value) (w : World) : (callFunc f args).run P w = .ok (.enter f args) w := by
  have h1 : fn.name ≠ "runtime.NumGoroutine" := by simpa using hname
  simp [callFunc, hf, h1, hb]
/-- A row of a table of the call's own. -/
theorem tab_at {w : World} {base n cap : Nat} {a : Option Addr} {zs : Nat → List Int} {rs : Nat → Value} (h : OwnP w base (.slice a n cap) n zs rs) {i : Nat} (hi : i < n) : ∃ g ai ci, a = some ⟨g, 0, none⟩ ∧ w.cell? ⟨g, i, none⟩ = some (.slice ai (zs i).length ci) ∧ IRow w ai (zs i) ∧ (zs i).length ≤ ci ∧ g < w.heap.size := by
  obtain ⟨ai, ci, e, hr, -⟩ := OwnI.slice (h.row i hi)
  have h3 := h.row i hi
  rw [e] at h3
  rcases h.tbl.2 with ⟨_, h0⟩ | ⟨g, c, cur, hv, _⟩
  · omega
  · obtain rfl : a = some ⟨g, 0, none⟩ := by simpa using (Value.slice.inj hv).1
    refine ⟨g, ai, ci, rfl, ?_, hr, IntK.Own.le (show IntK.Own w base (.slice ai (zs i).length ci) (zs i) from h3), (World.ownsRow.lt h.tbl g rfl).2⟩
    rw [h.tbl.cellAt i (by omega)]
    simp [hi, e]
theorem own_ints (w : World) (b : Nat) (hb : b ≤ w.heap.size) : OwnI (w.alloc (.cells #[] 3)) b (.slice (some ⟨w.heap.size, 0, none⟩) 0 0) [] := World.ownsRow_made w #[] 0 hb (Nat.zero_le _) rfl

set_option maxRecDepth 20000 in
set_option maxHeartbeats 4000000 in
theorem over_any (g : Nat) (N : Nat → Int) (eg : ∀ args w, (callFunc g args).run Try.prog w = .ok (.enter g args) w) (m : Mp) (T : Nat → Nat → Int) (hT : TT m T) (cs : List Ct) (hl : cs.length ≤ 1048576) (zs : List Int) (hl2 : zs.length ≤ 1048576) (hR : m.R.length ≤ maxLen) (hC : m.C.length ≤ maxLen) (a b : Option Addr) (ca cb : Nat) (ad : Option Addr) (cap : Nat) (al : Option Addr) (cl : Nat) (w : World) (h : Rc m cs zs a b ad al w)
    (hp : CsP m T cs zs → ∀ l, l < zs.length - 1 → ∀ a b al ca cb cl w, (lgR m T cs zs l).length ≤ cl → IRow w a m.R → IRow w b m.C → IRow w al (lgR m T cs zs l) → Calls Try.prog g #[.agg #[.int .i64 m.W, .int .i64 m.H, .slice a m.R.length ca, .slice b m.C.length cb], .slice al (lgR m T cs zs l).length cl] w (LPost w (N l) true)) :
    Calls Try.prog 53 #[.agg #[.int .i64 m.W, .int .i64 m.H, .slice a m.R.length ca, .slice b m.C.length cb], .slice ad cs.length cap, .slice al zs.length cl, .func (.func g) #[] #[]] w (NPost w (seqL N (rn m T cs zs)) (csB m T cs zs)) := by
  obtain ⟨t0, hi0, hz0, hz1, hz2⟩ := info_parts iInfo
  have HB := Lib.hid ((Below.refl w.heap.size w).alloc (Nat.le_refl _) (.cells #[.int .i64 m.W, .int .i64 m.H, .slice a m.R.length ca, .slice b m.C.length cb] 26))
  have HK := Lib.hid (Blk.new w 26 #[.int .i64 m.W, .int .i64 m.H, .slice a m.R.length ca, .slice b m.C.length cb])
  have H := Lib.hid h
  obtain ⟨ok, hok⟩ : ∃ o, csB m T cs zs = o := ⟨_, rfl⟩
  obtain ⟨r0, hr0⟩ : ∃ o, rn m T cs zs = o := ⟨_, rfl⟩
  have c1 : ∀ w, Rc m cs zs a b ad al w → Calls Try.prog 59 #[.agg #[.int .i64 m.W, .int .i64 m.H, .slice a m.R.length ca, .slice b m.C.length cb], .slice ad cs.length cap, .slice al zs.length cl] w (TPst w r0 (lgR m T cs zs) ok) := fun w h => by
    have := routes_any m T hT cs hl zs hl2 hR hC a b ca cb ad cap al cl w h
    rwa [hok, hr0] at this
  replace c1 := Lib.hid c1
  have HO := Lib.hid hok
  have HZ := Lib.hid hr0
  have HPP := Lib.hid hp
  have HT := Lib.hid hT
  rw [hok, hr0]
  clear h hok hr0 hp hT
  go_enter Try.func53, Try.ntmps53
  go_wp2_with fail
  refine (c1.out _ (H.out.later HB.out)).mono ?_
  rintro e w1 ⟨v1, rs, rfl, ho, hb⟩
  have HB1 := Lib.hid (HB.out.trans (hb.mono (by simp)))
  have HK1 := Lib.hid (HK.out.later hb)
  have HQ := Lib.hid ho
  have hs1 := HB1.out.size
  clear hb HB HK c1 ho
  cases ok with
  | false =>
    have h2 : r0 = 0 := by rw [← HZ.out]; unfold rn; rw [HO.out]; rfl
    subst h2
    go_wp2
    go_ret2
    exact ⟨_, rfl, own_ints w1 _ hs1, HB1.out.alloc hs1 _⟩
  | true =>
  have HP := Lib.hid (cs_iff.1 HO.out)
  have hr : zs.length - 1 = r0 := by rw [← HZ.out]; unfold rn; rw [HO.out]; rfl
  have hn8 := HP.out.2.1
  have hr7 : r0 ≤ 7 := by omega
  obtain ⟨ta, tc, rfl⟩ := OwnP.slice HQ.out
  have HW := Lib.hid hr
  have HS0 := Lib.hid (IntK.Gr.start w1)
  clear hr hn8 hl hl2
  go_wp2
  go_loopg [30, 12] r0 (fun gk i v wr => ∃ k : Nat, k ≤ r0 ∧ gk = r0 - k ∧ i = .int .i64 k ∧ IntK.Gr w1 v (seqL N k) wr)
  case atStart => exact ⟨0, Nat.zero_le _, rfl, rfl, HS0.out⟩
  case round =>
    clear HS0
    obtain ⟨k, hk, hgk, rfl, hS⟩ := hrel
    have HS := Lib.hid hS
    clear hS
    by_cases hlt : k < r0
    · obtain ⟨tb, ai, ci, rfl, c0, hr3, hci, -⟩ := tab_at (HQ.out.below HS.out.b) hlt
      have HR3 := Lib.hid hr3
      have HC3 := Lib.hid (HPP.out HP.out k (by rw [HW.out]; exact hlt))
      obtain ⟨nk, hnk⟩ : ∃ z, N k = z := ⟨_, rfl⟩
      have HNK := Lib.hid hnk
      rw [hnk] at HC3
      obtain ⟨ln, hln⟩ : ∃ z, (lgR m T cs zs k).length = z := ⟨_, rfl⟩
      have HLN := Lib.hid hln
      rw [hln] at hci c0 HC3
      have hM := HK1.out.later HS.out.b
      obtain ⟨p0, p1, p2, p3, -⟩ := MapS.Blk.four hM
      have hk0 : (0 : Int) ≤ (k : Int) := by omega
      have hk1 : (k : Int) < (r0 : Int) := by omega
      have hRr := RowAt.below H.out.d.r (HB1.out.trans (HS.out.b.mono hs1))
      have hCr := RowAt.below H.out.d.c (HB1.out.trans (HS.out.b.mono hs1))
      have HRr := Lib.hid hRr
      have HCr := Lib.hid hCr
      clear hr3 hnk hln hM hRr hCr
      go_upto_region 9 with (go_at_fn g; refine (HC3.out _ _ _ _ _ _ _ hci HRr.out HCr.out HR3.out).mono ?_; rintro e w3 ⟨rfl, hb⟩; have HS3 := Lib.hid (HS.out.below hb); clear hb)
      have HM := Lib.hid (show (seqL N k).length = k from seq_len _ _)
      have HNx := Lib.hid (show seqL N (k + 1) = seqL N k ++ [nk] from by rw [seq_next, HNK.out])
      have hown := HS3.out.own.below ((Below.refl _ _).alloc (Nat.le_refl _) (.cells #[.int .i64 nk] 3))
      unfold OwnI at hown
      rw [HM.out] at hown
      have HTa := Lib.hid (HS3.out.alloc (.cells #[.int .i64 nk] 3))
      have hsz := HS3.out.b.size
      clear p0 p1 p2 p3 c0
      go_wp2_with (go_loud (at_builtin; (refine wpList_append_own _ rfl (.tmp 41) (.tmp 43) 24 rfl w1.heap.size 3 t0 (.int .i64 0) 1 8 Try.underlying24 hi0 hz0 hz1 hz2 rfl (by decide) _ k _ rfl hown ⟨_, 0, none⟩ 1 1 [.int .i64 nk] rfl rfl (cell_one_new _ _ _) (by simp [Value.oneCell']) (by unfold maxLen; omega) (by omega) (by simp; omega) ?_; intro v' w3 hown3 hgr3 _; have HP3 := Lib.hid (HTa.out.put HM.out hgr3 hown3); clear hown3 hgr3)))
      go_roundg (r0 - (k + 1))
      case measure => omega
      case rel => exact ⟨k + 1, by omega, rfl, by go_num, by rw [HNx.out]; exact HP3.out⟩
    · obtain rfl : k = r0 := by omega
      go_wp2
      go_ret2
      exact ⟨_, rfl, IntS.rebase HS.out.own hs1, HB1.out.trans (HS.out.b.mono hs1)⟩

set_option maxRecDepth 20000 in
set_option maxHeartbeats 2000000 in
theorem sum_any (zs : List Int) (hl : zs.length ≤ 1000) (hb : ∀ i, i < zs.length → 0 ≤ zAt zs i ∧ zAt zs i ≤ 1000000) (al : Option Addr) (cl : Nat) (w : World) (hr : IRow w al zs) :
    Calls Try.prog 55 #[.slice al zs.length cl] w fun e w' => e = .returned (.int .i64 (smZ zs)) ∧ w' = w := by
  have H := Lib.hid hr
  have HBd := Lib.hid (sm_bd (zs := zs) (B := 1000000) (by decide) hb)
  have HBi := Lib.hid hb
  obtain ⟨n, hn⟩ : ∃ n, zs.length = n := ⟨_, rfl⟩
  have HN := Lib.hid hn
  rw [hn] at hl ⊢
  clear hr hb hn
  go_enter Try.func55, Try.ntmps55
  go_wp2
  go_loop [8, 3] (fun i s => ∃ k : Nat, k ≤ n ∧ i = .int .i64 k ∧ s = .int .i64 (smZ (zs.take k))) (fun i _ => n - (intOf i).toNat)
  case atStart => exact ⟨0, Nat.zero_le _, rfl, rfl⟩
  case round =>
    obtain ⟨k, hk, rfl, rfl⟩ := hrel
    have hb1 := HBd.out k (by rw [HN.out]; exact hk)
    obtain ⟨s, hs⟩ : ∃ s, smZ (zs.take k) = s := ⟨_, rfl⟩
    rw [hs] at hb1
    by_cases hlt : k < n
    · have hb2 := HBi.out k (by rw [HN.out]; exact hlt)
      have HSt := Lib.hid (show smZ (zs.take (k + 1)) = s + zAt zs k from by rw [sm_take (by rw [HN.out]; exact hlt), hs])
      rcases H.out with h0 | ⟨b, off, rfl, hc⟩
      · rw [HN.out] at h0; omega
      have c0 := hc k (by rw [HN.out]; exact hlt)
      obtain ⟨x, hx⟩ : ∃ x, zAt zs k = x := ⟨_, rfl⟩
      simp only [hx] at c0
      rw [hx] at hb2 HSt
      obtain ⟨y, hy⟩ : ∃ y, s + x = y := ⟨_, rfl⟩
      have hw : IntKind.i64.wrap (s + x) = y := by rw [← hy]; exact IntWalk.i64_in _ (by omega)
      rw [hy] at HSt
      have hk0 : (0 : Int) ≤ (k : Int) := by omega
      have hk1 : (k : Int) < (n : Int) := by omega
      try rw [hs]
      clear hc hx hy hs
      go_wp2
      go_round
      case rel => exact ⟨k + 1, by omega, by go_num, by rw [HSt.out]⟩
      case measure => simp [intOf]; omega
    · obtain rfl : k = n := by omega
      rw [take_all zs HN.out] at hs
      try rw [take_all zs HN.out]
      try rw [hs]
      go_wp2
      go_ret
      exact ⟨rfl, rfl⟩

theorem seq_bd {N : Nat → Int} {n : Nat} {B : Int} (h : ∀ l, l < n → 0 ≤ N l ∧ N l ≤ B) : ∀ i, i < (seqL N n).length → 0 ≤ zAt (seqL N n) i ∧ zAt (seqL N n) i ≤ B := fun i hi => by
  rw [seq_len] at hi
  rw [seq_at N hi]
  exact h i hi
theorem rn_le (m : Mp) (T : Nat → Nat → Int) (cs : List Ct) (zs : List Int) : rn m T cs zs ≤ 7 := by
  unfold rn
  split
  · rename_i h
    have := (cs_iff.1 h).2.1
    omega
  · omega
theorem rn_csp {m : Mp} {T : Nat → Nat → Int} {cs : List Ct} {zs : List Int} {l : Nat} (h : l < rn m T cs zs) : CsP m T cs zs ∧ l < zs.length - 1 := by
  unfold rn at h
  split at h
  · rename_i hc
    exact ⟨cs_iff.1 hc, h⟩
  · omega
/-- The times and the climbs. -/
theorem tm_bd {m : Mp} {T : Nat → Nat → Int} (hT : TT m T) {cs : List Ct} {zs : List Int} : ∀ l, l < rn m T cs zs → 0 ≤ lgT T cs zs l ∧ lgT T cs zs l ≤ 1000000 := fun l h => by
  have h1 := rn_csp h
  have h2 := h1.1.tm hT h1.2
  omega
noncomputable def lgC (m : Mp) (T : Nat → Nat → Int) (cs : List Ct) (zs : List Int) (l : Nat) : Int := TibC.aN m (lgR m T cs zs l)
theorem cl_bd {m : Mp} {T : Nat → Nat → Int} (hT : TT m T) {cs : List Ct} {zs : List Int} : ∀ l, l < rn m T cs zs → 0 ≤ lgC m T cs zs l ∧ lgC m T cs zs l ≤ 1000000 := fun l h => by
  obtain ⟨h1, h2⟩ := rn_csp h
  obtain ⟨ww, hh, i, j, k, L⟩ := h1.leg hT h2
  obtain ⟨r1, -, -, -, r5⟩ := L.along hT
  unfold lgC
  have hlen := L.len
  rw [TibC.a_yes (n := k) r5 hlen]
  have := RtS.sm_bd (f := RtS.clb m) L.g r1 (fun c d hc hd => RtS.clb_bd L.g hc hd) k (by omega)
  have := L.top
  omega

set_option maxHeartbeats 2000000 in
theorem times_impl (m : Mp) (T : Nat → Nat → Int) (hT : TT m T) (cs : List Ct) (hl : cs.length ≤ 1048576) (zs : List Int) (hl2 : zs.length ≤ 1048576) (hR : m.R.length ≤ maxLen) (hC : m.C.length ≤ maxLen) (a b : Option Addr) (ca cb : Nat) (ad : Option Addr) (cap : Nat) (al : Option Addr) (cl : Nat) (w : World) (h : Rc m cs zs a b ad al w) :
    Calls Try.prog 18 #[.agg #[.int .i64 m.W, .int .i64 m.H, .slice a m.R.length ca, .slice b m.C.length cb], .slice ad cs.length cap, .slice al zs.length cl] w (NPost w (seqL (lgT T cs zs) (rn m T cs zs)) (csB m T cs zs)) := by
  have HB := Lib.hid ((Below.refl w.heap.size w).alloc (Nat.le_refl _) (.cells #[.int .i64 m.W, .int .i64 m.H, .slice a m.R.length ca, .slice b m.C.length cb] 26))
  have c1 := Lib.hid (over_any 54 (lgT T cs zs) (fun args w => enter_of Try.func54 (by kernel_rfl) rfl args w) m T hT cs hl zs hl2 hR hC a b ca cb ad cap al cl _ (h.later HB.out) (fun hp l hl' a b al ca cb cl w hcap hr hc hz => by
    obtain ⟨ww, hh, i, j, k, L⟩ := hp.leg hT hl'
    obtain ⟨-, -, r3, r4, -⟩ := L.along hT
    have h1 := L.len
    have h2 := L.top
    have := TibT.impl_any m (lgR m T cs zs l) (by omega) a b al ca cb cl w hcap hR hC hr hc hz
    rwa [r3, r4] at this))
  clear h hT
  go_enter Try.func18, Try.ntmps18
  go_wp2_with fail
  refine c1.out.mono ?_
  rintro e w1 ⟨v, rfl, ho, hb⟩
  have HB1 := Lib.hid (HB.out.trans (hb.mono (by simp)))
  have HO := Lib.hid (IntS.rebase ho (show w.heap.size ≤ (w.alloc (.cells #[.int .i64 m.W, .int .i64 m.H, .slice a m.R.length ca, .slice b m.C.length cb] 26)).heap.size by simp))
  clear ho hb c1
  go_wp2
  go_ret2
  exact ⟨_, rfl, HO.out, HB1.out⟩

set_option maxHeartbeats 2000000 in
theorem ctime_impl (m : Mp) (T : Nat → Nat → Int) (hT : TT m T) (cs : List Ct) (hl : cs.length ≤ 1048576) (zs : List Int) (hl2 : zs.length ≤ 1048576) (hR : m.R.length ≤ maxLen) (hC : m.C.length ≤ maxLen) (a b : Option Addr) (ca cb : Nat) (ad : Option Addr) (cap : Nat) (al : Option Addr) (cl : Nat) (w : World) (h : Rc m cs zs a b ad al w) :
    Calls Try.prog 15 #[.agg #[.int .i64 m.W, .int .i64 m.H, .slice a m.R.length ca, .slice b m.C.length cb], .slice ad cs.length cap, .slice al zs.length cl] w (LPost w (smZ (seqL (lgT T cs zs) (rn m T cs zs))) (csB m T cs zs)) := by
  have HB := Lib.hid ((Below.refl w.heap.size w).alloc (Nat.le_refl _) (.cells #[.int .i64 m.W, .int .i64 m.H, .slice a m.R.length ca, .slice b m.C.length cb] 26))
  have c1 := Lib.hid (over_any 54 (lgT T cs zs) (fun args w => enter_of Try.func54 (by kernel_rfl) rfl args w) m T hT cs hl zs hl2 hR hC a b ca cb ad cap al cl _ (h.later HB.out) (fun hp l hl' a b al ca cb cl w hcap hr hc hz => by
    obtain ⟨ww, hh, i, j, k, L⟩ := hp.leg hT hl'
    obtain ⟨-, -, r3, r4, r5⟩ := L.along hT
    have h1 := L.len
    have h2 := L.top
    have := TibT.impl_any m (lgR m T cs zs l) (by omega) a b al ca cb cl w hcap hR hC hr hc hz
    rwa [r3, r4] at this))
  have HBd := Lib.hid (seq_bd (tm_bd (m := m) (cs := cs) (zs := zs) hT))
  have hrn := rn_le m T cs zs
  obtain ⟨r0, hr0⟩ : ∃ r, rn m T cs zs = r := ⟨_, rfl⟩
  rw [hr0] at c1 HBd hrn ⊢
  clear h hT hr0
  go_enter Try.func15, Try.ntmps15
  go_wp2_with fail
  refine c1.out.mono ?_
  rintro e w1 ⟨v, rfl, ho, hb⟩
  have HB1 := Lib.hid (HB.out.trans (hb.mono (by simp)))
  obtain ⟨ga, gc, rfl, hrow, -⟩ := OwnI.slice ho
  have HR1 := Lib.hid hrow
  rw [seq_len]
  have c2 := Lib.hid (fun (w : World) h => seq_len (lgT T cs zs) r0 ▸ sum_any (seqL (lgT T cs zs) r0) (by rw [seq_len]; omega) HBd.out ga gc w h)
  clear ho hb c1 hrow
  go_wp2_with fail
  refine (c2.out _ HR1.out).mono ?_
  rintro e w2 ⟨rfl, rfl⟩
  go_wp2
  go_ret2
  exact ⟨rfl, HB1.out⟩

set_option maxHeartbeats 2000000 in
theorem climb_impl (m : Mp) (T : Nat → Nat → Int) (hT : TT m T) (cs : List Ct) (hl : cs.length ≤ 1048576) (zs : List Int) (hl2 : zs.length ≤ 1048576) (hR : m.R.length ≤ maxLen) (hC : m.C.length ≤ maxLen) (a b : Option Addr) (ca cb : Nat) (ad : Option Addr) (cap : Nat) (al : Option Addr) (cl : Nat) (w : World) (h : Rc m cs zs a b ad al w) :
    Calls Try.prog 23 #[.agg #[.int .i64 m.W, .int .i64 m.H, .slice a m.R.length ca, .slice b m.C.length cb], .slice ad cs.length cap, .slice al zs.length cl] w (LPost w (smZ (seqL (lgC m T cs zs) (rn m T cs zs))) (csB m T cs zs)) := by
  have HB := Lib.hid ((Below.refl w.heap.size w).alloc (Nat.le_refl _) (.cells #[.int .i64 m.W, .int .i64 m.H, .slice a m.R.length ca, .slice b m.C.length cb] 26))
  have c1 := Lib.hid (over_any 62 (lgC m T cs zs) (fun args w => enter_of Try.func62 (by kernel_rfl) rfl args w) m T hT cs hl zs hl2 hR hC a b ca cb ad cap al cl _ (h.later HB.out) (fun hp l hl' a b al ca cb cl w hcap hr hc hz => by
    obtain ⟨ww, hh, i, j, k, L⟩ := hp.leg hT hl'
    obtain ⟨-, -, r3, r4, r5⟩ := L.along hT
    have h1 := L.len
    have h2 := L.top
    have := TibC.impl_any m (lgR m T cs zs l) (by omega) a b al ca cb cl w hcap hR hC hr hc hz
    rwa [r5] at this))
  have HBd := Lib.hid (seq_bd (cl_bd (m := m) (cs := cs) (zs := zs) hT))
  have hrn := rn_le m T cs zs
  obtain ⟨r0, hr0⟩ : ∃ r, rn m T cs zs = r := ⟨_, rfl⟩
  rw [hr0] at c1 HBd hrn ⊢
  clear h hT hr0
  go_enter Try.func23, Try.ntmps23
  go_wp2_with fail
  refine c1.out.mono ?_
  rintro e w1 ⟨v, rfl, ho, hb⟩
  have HB1 := Lib.hid (HB.out.trans (hb.mono (by simp)))
  obtain ⟨ga, gc, rfl, hrow, -⟩ := OwnI.slice ho
  have HR1 := Lib.hid hrow
  rw [seq_len]
  have c2 := Lib.hid (fun (w : World) h => seq_len (lgC m T cs zs) r0 ▸ sum_any (seqL (lgC m T cs zs) r0) (by rw [seq_len]; omega) HBd.out ga gc w h)
  clear ho hb c1 hrow
  go_wp2_with fail
  refine (c2.out _ HR1.out).mono ?_
  rintro e w2 ⟨rfl, rfl⟩
  go_wp2
  go_ret2
  exact ⟨rfl, HB1.out⟩

set_option maxHeartbeats 2000000 in
theorem is_impl (m : Mp) (T : Nat → Nat → Int) (hT : TT m T) (cs : List Ct) (hl : cs.length ≤ 1048576) (zs : List Int) (hl2 : zs.length ≤ 1048576) (hR : m.R.length ≤ maxLen) (hC : m.C.length ≤ maxLen) (a b : Option Addr) (ca cb : Nat) (ad : Option Addr) (cap : Nat) (al : Option Addr) (cl : Nat) (w : World) (h : Rc m cs zs a b ad al w) :
    Calls Try.prog 17 #[.agg #[.int .i64 m.W, .int .i64 m.H, .slice a m.R.length ca, .slice b m.C.length cb], .slice ad cs.length cap, .slice al zs.length cl] w fun e w' => e = .returned (.bool (csB m T cs zs)) ∧ Below w.heap.size w w' := by
  have HB := Lib.hid ((Below.refl w.heap.size w).alloc (Nat.le_refl _) (.cells #[.int .i64 m.W, .int .i64 m.H, .slice a m.R.length ca, .slice b m.C.length cb] 26))
  have c1 := Lib.hid (routes_any m T hT cs hl zs hl2 hR hC a b ca cb ad cap al cl _ (h.later HB.out))
  clear h hT
  go_enter Try.func17, Try.ntmps17
  go_wp2_with fail
  refine c1.out.mono ?_
  rintro e w1 ⟨v, rs, rfl, -, hb⟩
  have HB1 := Lib.hid (HB.out.trans (hb.mono (by simp)))
  clear hb c1
  go_wp2
  go_ret
  exact ⟨rfl, HB1.out⟩
end Go.Proofs.Ytdfmfmndmldggaa.KrO
