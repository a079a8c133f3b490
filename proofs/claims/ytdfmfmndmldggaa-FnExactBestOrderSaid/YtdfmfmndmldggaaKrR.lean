/- Courses: the program's routes of the legs. -/
import Derived.Test.YtdfmfmndmldggaaKrI
import Derived.Test.YtdfmfmndmldggaaBaN
namespace Go.Proofs.Ytdfmfmndmldggaa.KrR
open Go.RowKit Lb Bk IntS CtK CoM CoP CoF CoC KrM KrI LtI TblS
open PrtB (TPst ownP_nil)
open Cells (NPost)
set_option linter.unusedSimpArgs false
set_option linter.unusedVariables false

/-- Rows of different kinds lie apart. -/
theorem own_apart {w : World} {b b' : Nat} {e e' : TypeId} {k k' : Nat} {v v' : Value} {n n' : Nat} {xs xs' : List Value} (h : w.ownsRow b e k v n xs) (h' : w.ownsRow b' e' k' v' n' xs') (hne : e ≠ e') : v.ownBlock = none ∨ v.ownBlock ≠ v'.ownBlock := by
  rcases h.2 with ⟨rfl, _⟩ | ⟨g, cap, cur, rfl, hg, hh, _⟩
  · exact .inl rfl
  · refine .inr fun e2 => ?_
    rcases h'.2 with ⟨rfl, _⟩ | ⟨g', cap', cur', rfl, hg', hh', _⟩
    · simp [Value.ownBlock] at e2
    · obtain rfl : g = g' := by simpa [Value.ownBlock] using e2
      rw [hh] at hh'
      injection hh' with h3
      injection h3 with _ h4
      exact hne h4
theorem blk_keep {w w' : World} {base : Nat} {e T : TypeId} {k n : Nat} {v : Value} {xs : List Value} {A : Nat} {cs : Array Value} (h : w.ownsRow base e k v n xs) (hb : Blk w A T cs) (hne : e ≠ T) (hg : w.grownBy w' v.ownBlock) : Blk w' A T cs := by
  refine (hg.block A hb.lt (fun e2 => ?_)).trans hb
  rcases h.2 with ⟨rfl, _⟩ | ⟨g, cap, cur, rfl, _, hh, _⟩
  · simp [Value.ownBlock] at e2
  · have h1 : A = g := by simpa [Value.ownBlock] using e2
    subst h1
    unfold Blk at hb
    rw [hh] at hb
    injection hb with h3
    injection h3 with _ h4
    exact hne h4
/-- The table, the box of the map and the stops. -/
structure Tr (w : World) (box : Array Value) (vs : Value) (ss : List Ct) (v : Value) (k : Nat) (F : Nat → List Int) (rs : Nat → Value) (wr : World) : Prop where
  b : Below w.heap.size w wr
  own : OwnP wr w.heap.size v k F rs
  box : Blk wr w.heap.size 26 box
  st : Own wr (w.heap.size + 1) vs ss
theorem Tr.below {w : World} {box : Array Value} {vs : Value} {ss : List Ct} {v : Value} {k : Nat} {F : Nat → List Int} {rs : Nat → Value} {wr w' : World} (h : Tr w box vs ss v k F rs wr) (hb : Below wr.heap.size wr w') : Tr w box vs ss v k F rs w' := ⟨h.b.trans (hb.mono h.b.size), h.own.below hb, h.box.later hb, h.st.below hb⟩
theorem Tr.alloc {w : World} {box : Array Value} {vs : Value} {ss : List Ct} {v : Value} {k : Nat} {F : Nat → List Int} {rs : Nat → Value} {wr : World} (h : Tr w box vs ss v k F rs wr) (o : Obj) : Tr w box vs ss v k F rs (wr.alloc o) := h.below ((Below.refl _ _).alloc (Nat.le_refl _) _)
theorem Tr.low {w : World} {box : Array Value} {vs : Value} {ss : List Ct} {v : Value} {k : Nat} {F : Nat → List Int} {rs : Nat → Value} {wr : World} (h : Tr w box vs ss v k F rs wr) : ∀ i, i < k → ∀ x, (rs i).ownBlock = some x → x < wr.heap.size := fun i hi x e => (World.ownsRow.lt (h.own.row i hi) x e).2
theorem Tr.push {w : World} {box : Array Value} {vs : Value} {ss : List Ct} {v v' vq : Value} {k s : Nat} {F : Nat → List Int} {rs : Nat → Value} {z : List Int} {wr w' : World} (h : Tr w box vs ss v k F rs wr) (hq : OwnI wr s vq z) (hz : F k = z) (hs : w.heap.size ≤ s) (hlow : ∀ i, i < k → ∀ x, (rs i).ownBlock = some x → x < s)
    (ho : w'.ownsRow w.heap.size 24 1 v' (k + 1) ((List.range k).map rs ++ [vq])) (hg : wr.grownBy w' v.ownBlock) : Tr w box vs ss v' (k + 1) F (fun i => if i = k then vq else rs i) w' :=
  ⟨h.b.grown hg h.b.size (fun k e => (World.ownsRow.lt h.own.tbl k e).1), PrtB.push h.own hq hs hlow ho hg (fun _ _ => rfl) hz, blk_keep h.own.tbl h.box (by decide) hg, World.ownsRow.kept h.st hg (own_apart h.st h.own.tbl (by decide))⟩
theorem stp_of {m : Mp} {T : Nat → Nat → Int} {cs : List Ct} {zs : List Int} (h : CsP m T cs zs) : StP m cs zs := ⟨h.1, h.2.1, h.2.2.1⟩
def rn (m : Mp) (T : Nat → Nat → Int) (cs : List Ct) (zs : List Int) : Nat := if csB m T cs zs then zs.length - 1 else 0
theorem r_no {m : Mp} {T : Nat → Nat → Int} {cs : List Ct} {zs : List Int} (h : ¬ CsP m T cs zs) : csB m T cs zs = false ∧ rn m T cs zs = 0 := by
  have : csB m T cs zs = false := decide_eq_false h
  exact ⟨this, by unfold rn; rw [this]; rfl⟩
theorem r_yes {m : Mp} {T : Nat → Nat → Int} {cs : List Ct} {zs : List Int} (h : CsP m T cs zs) : csB m T cs zs = true ∧ rn m T cs zs = zs.length - 1 := by
  have : csB m T cs zs = true := decide_eq_true h
  exact ⟨this, by unfold rn; rw [this]; rfl⟩

set_option maxRecDepth 20000 in
set_option maxHeartbeats 4000000 in
theorem routes_any (m : Mp) (T : Nat → Nat → Int) (hT : TT m T) (cs : List Ct) (hl : cs.length ≤ 1048576) (zs : List Int) (hl2 : zs.length ≤ 1048576) (hR : m.R.length ≤ maxLen) (hC : m.C.length ≤ maxLen) (a b : Option Addr) (ca cb : Nat) (ad : Option Addr) (cap : Nat) (al : Option Addr) (cl : Nat) (w : World) (h : Rc m cs zs a b ad al w) :
    Calls Try.prog 59 #[.agg #[.int .i64 m.W, .int .i64 m.H, .slice a m.R.length ca, .slice b m.C.length cb], .slice ad cs.length cap, .slice al zs.length cl] w (TPst w (rn m T cs zs) (lgR m T cs zs) (csB m T cs zs)) := by
  obtain ⟨t1, ri, rz0, rz1, rz2⟩ := info_parts rInfo
  have HB := Lib.hid ((Below.refl w.heap.size w).alloc (Nat.le_refl _) (.cells #[.int .i64 m.W, .int .i64 m.H, .slice a m.R.length ca, .slice b m.C.length cb] 26))
  have HK := Lib.hid (Blk.new w 26 #[.int .i64 m.W, .int .i64 m.H, .slice a m.R.length ca, .slice b m.C.length cb])
  have H := Lib.hid h
  obtain ⟨so, hso⟩ : ∃ o, stK m cs zs = o := ⟨_, rfl⟩
  obtain ⟨ss, hss⟩ : ∃ o, stR m cs zs = o := ⟨_, rfl⟩
  have c1 : ∀ w, Rc m cs zs a b ad al w → Calls Try.prog 74 #[.agg #[.int .i64 m.W, .int .i64 m.H, .slice a m.R.length ca, .slice b m.C.length cb], .slice ad cs.length cap, .slice al zs.length cl] w (CPost w ss so) := fun w h => by
    have := stops_any m cs hl zs hl2 hR hC a b ca cb ad cap al cl w h
    rwa [hso, hss] at this
  replace c1 := Lib.hid c1
  have HSO := Lib.hid hso
  have HSS := Lib.hid hss
  obtain ⟨ok, hok⟩ : ∃ o, csB m T cs zs = o := ⟨_, rfl⟩
  obtain ⟨r0, hr0⟩ : ∃ o, rn m T cs zs = o := ⟨_, rfl⟩
  have HO := Lib.hid hok
  have HZ := Lib.hid hr0
  have HT := Lib.hid hT
  rw [hok, hr0]
  clear h hso hss hok hr0 hT
  go_enter Try.func59, Try.ntmps59
  go_wp2_with fail
  refine (c1.out _ (H.out.later HB.out)).mono ?_
  rintro e w1 ⟨v1, rfl, ho, hb⟩
  have HB1 := Lib.hid (HB.out.trans (hb.mono (by simp)))
  have HK1 := Lib.hid (HK.out.later hb)
  rw [World.size_alloc] at ho
  have HS1 := Lib.hid ho
  have hs1 := HB1.out.size
  clear hb HB HK c1 ho
  cases so with
  | false =>
    obtain ⟨h1, h2⟩ := r_no (m := m) (T := T) (cs := cs) (zs := zs) (fun g => by have h3 := decide_eq_true (stp_of g); have h4 := HSO.out; unfold stK at h4; rw [h3] at h4; cases h4)
    rw [HO.out] at h1
    rw [HZ.out] at h2
    subst h1 h2
    go_wp2
    go_ret2
    exact ⟨_, fun _ => undef, rfl, ownP_nil w1 w _ _ hs1, HB1.out.alloc hs1 _⟩
  | true =>
  have HP := Lib.hid (show StP m cs zs from by have h4 := HSO.out; unfold stK at h4; exact of_decide_eq_true h4)
  obtain rfl : stL cs zs = ss := by rw [← HSS.out]; exact (st_yes HP.out).2.symm
  obtain ⟨sa, sc, rfl, -, -⟩ := Own.slice HS1.out
  have hsc := Own.le HS1.out
  obtain ⟨ww, hh, g⟩ := good_of (good_ok HP.out.1)
  have HG := Lib.hid g
  have hn8 := HP.out.2.1
  obtain ⟨r, hr⟩ : ∃ r, zs.length = r + 1 := ⟨zs.length - 1, by omega⟩
  have HN := Lib.hid hr
  rw [hr] at hn8
  rw [st_len, hr] at hsc ⊢
  rw [st_len, hr] at HS1
  have hr1 : 1 ≤ r := by omega
  have hr7 : r ≤ 7 := by omega
  have hci : (r : Int) + 1 ≤ (sc : Int) := by omega
  have hc1 : (1 : Int) ≤ (r : Int) + 1 := by omega
  have HT0 := Lib.hid (show Tr w #[.int .i64 m.W, .int .i64 m.H, .slice a m.R.length ca, .slice b m.C.length cb] (.slice sa (r + 1) sc) (stL cs zs) (.slice (some ⟨w1.heap.size, 0, none⟩) 0 0) 0 (lgR m T cs zs) (fun _ => undef) (w1.alloc (.cells #[] 24)) from
    ⟨HB1.out.alloc hs1 _, ownP_nil w1 w _ _ hs1, HK1.out.alloc _, HS1.out.below ((Below.refl _ _).alloc (Nat.le_refl _) _)⟩)
  obtain ⟨sb, rfl⟩ : ∃ g, sa = some ⟨g, 0, none⟩ := by
    rcases HS1.out.2 with ⟨e, _⟩ | ⟨g, c, cur, e, _⟩
    · cases e
    · exact ⟨g, by simpa using (Value.slice.inj e).1⟩
  clear hs1 HS1 HB1 HK1 g hr hl2 hl
  go_wp2
  go_loopg [30, 10] r (fun gk i v wr => ∃ (k : Nat) (rs : Nat → Value), k ≤ r ∧ gk = r - k ∧ i = .int .i64 k ∧ Tr w #[.int .i64 m.W, .int .i64 m.H, .slice a m.R.length ca, .slice b m.C.length cb] (.slice (some ⟨sb, 0, none⟩) (r + 1) sc) (stL cs zs) v k (lgR m T cs zs) rs wr ∧ ∀ l, l < k → LegP T cs zs l)
  case atStart => exact ⟨0, _, Nat.zero_le _, rfl, rfl, HT0.out, fun l hl => absurd hl (Nat.not_lt_zero _)⟩
  case round =>
    clear HT0
    obtain ⟨k, rs, hk, hgk, rfl, hS, hF⟩ := hrel
    have HS := Lib.hid hS
    have HF := Lib.hid hF
    clear hS hF
    by_cases hlt : k < r
    · have hrow := (Own.row (show Own wr (w.heap.size + 1) (.slice (some ⟨sb, 0, none⟩) (stL cs zs).length sc) (stL cs zs) from by have := HS.out.st; rw [st_len, HN.out]; exact this))
      obtain ⟨b1, off1, e1, c0, c1⟩ := hrow.cells (i := k) (by rw [st_len, HN.out]; omega)
      cases e1
      obtain ⟨b1, off1, e1, d0, d1⟩ := hrow.cells (i := k + 1) (by rw [st_len, HN.out]; omega)
      cases e1
      rw [st_at cs (by rw [HN.out]; omega)] at c0 c1 d0 d1
      rw [show 0 + (k + 1) * 2 = 2 + k * 2 by omega] at d0 d1
      rw [Nat.zero_add] at c0 c1
      have hsb : sb < wr.heap.size := World.block_lt_of_cell? wr _ c0
      obtain ⟨x, hx⟩ : ∃ x, ctA cs (zAt zs k) = x := ⟨_, rfl⟩
      obtain ⟨y, hy⟩ : ∃ y, ctA cs (zAt zs (k + 1)) = y := ⟨_, rfl⟩
      rw [hx] at c0 c1
      rw [hy] at d0 d1
      have HX := Lib.hid hx
      have HY := Lib.hid hy
      have hk0 : (0 : Int) ≤ (k : Int) := by omega
      have hk1 : (k : Int) < (r : Int) := by omega
      have hk2 : (k : Int) < (r : Int) + 1 := by omega
      clear hx hy hrow
      go_upto_region 9 with (fail)
      have HS2 := Lib.hid ((HS.out.alloc (.cells #[.int .i64 y.co, .int .i64 y.ce] 70)).alloc (.cells #[.int .i64 x.co, .int .i64 x.ce] 70))
      have HKy := Lib.hid ((Blk.new wr 70 #[.int .i64 y.co, .int .i64 y.ce]).alloc (.cells #[.int .i64 x.co, .int .i64 x.ce] 70))
      have HKx := Lib.hid (Blk.new (wr.alloc (.cells #[.int .i64 y.co, .int .i64 y.ce] 70)) 70 #[.int .i64 x.co, .int .i64 x.ce])
      rw [World.size_alloc] at HKx
      generalize (wr.alloc (.cells #[.int .i64 y.co, .int .i64 y.ce] 70)).alloc (.cells #[.int .i64 x.co, .int .i64 x.ce] 70) = wz at *
      obtain ⟨A, hA⟩ : ∃ A, wr.heap.size = A := ⟨_, rfl⟩
      rw [hA] at HKy HKx
      try rw [hA]
      clear hA c0 c1 d0 d1 HS hsb
      obtain ⟨p0, p1, p2, p3, -⟩ := MapS.Blk.four HS2.out.box
      obtain ⟨⟨y0, y1⟩, -⟩ := blk_cells HKy.out
      obtain ⟨⟨x0, x1⟩, -⟩ := blk_cells HKx.out
      have hf1 : Fnd cs zs k := HP.out.2.2 k (by rw [HN.out]; omega)
      have hf2 : Fnd cs zs (k + 1) := HP.out.2.2 (k + 1) (by rw [HN.out]; omega)
      have hlt2 := leg_lt (T := T) HG.out HP.out.1 hf1 hf2
      have hbr := best_br m T HT.out x.ce y.ce
      have hcx : ceA cs (zAt zs k) = x.ce := by unfold ceA; rw [HX.out]
      have hcy : ceA cs (zAt zs (k + 1)) = y.ce := by unfold ceA; rw [HY.out]
      rw [hcx, hcy] at hlt2
      obtain ⟨zr, hzr⟩ : ∃ z, brZ m T x.ce y.ce = z := ⟨_, rfl⟩
      rw [hzr, hlt2] at hbr
      have c2 := Lib.hid hbr.2
      have hzl := hbr.1
      have hxc : x.co = zAt zs k := by rw [← HX.out]; exact (fnd_at hf1).2
      have hyc : y.co = zAt zs (k + 1) := by rw [← HY.out]; exact (fnd_at hf2).2
      by_cases hneg : 0 ≤ lgT T cs zs k
      · rw [decide_eq_true hneg] at c2 hlt2
        by_cases hxy : x.co = y.co
        · obtain ⟨h1, h2⟩ := r_no (m := m) (T := T) (cs := cs) (zs := zs) (fun g => (g.2.2.2 k (by rw [HN.out]; omega)).1 (by rw [← hxc, ← hyc, hxy]))
          have hxye : x = y := by
            have hq : zAt zs k = zAt zs (k + 1) := by rw [← hxc, ← hyc, hxy]
            rw [← HX.out, ← HY.out, hq]
          rw [HO.out] at h1
          rw [HZ.out] at h2
          have hw1 : (x.co == y.co) = true := by simpa using hxy
          have hw2 : (x.ce == y.ce) = true := by rw [hxye]; simp
          subst h1 h2
          clear hxy hxye hcx hcy hxc hyc hbr hlt2 hzr hneg hf1 hf2
          go_wp2_with fail
          refine (c2.out _ _ _ _ _ hR hC (RowAt.below H.out.d.r HS2.out.b) (RowAt.below H.out.d.c HS2.out.b)).mono ?_
          rintro e w3 ⟨v3, rfl, ho, hb⟩
          have HS3 := Lib.hid (HS2.out.below hb)
          have HKy3 := Lib.hid (HKy.out.later hb)
          have HKx3 := Lib.hid (HKx.out.later hb)
          have hs3 := HS3.out.b.size
          clear ho hb p0 p1 p2 p3 x0 x1 y0 y1 HS2 HKy HKx
          obtain ⟨⟨y0, y1⟩, -⟩ := blk_cells HKy3.out
          obtain ⟨⟨x0, x1⟩, -⟩ := blk_cells HKx3.out
          go_wp2
          go_ret2
          exact ⟨_, fun _ => undef, rfl, ownP_nil w3 w _ _ hs3, HS3.out.b.alloc hs3 _⟩
        · have HL := Lib.hid (show ∀ l, l < k + 1 → LegP T cs zs l from all_succ HF.out ⟨by rw [← hxc, ← hyc]; exact hxy, hneg⟩)
          have hze : lgR m T cs zs k = zr := by
            rw [← hzr]
            unfold lgR brZ
            rw [hcx, hcy, hlt2]
            rfl
          have HZE := Lib.hid hze
          have hw1 : (x.co == y.co) = false := by simpa using hxy
          clear hxy hze hcx hcy hxc hyc hbr hlt2 hzr hneg hf1 hf2
          go_wp2_with fail
          refine (c2.out _ _ _ _ _ hR hC (RowAt.below H.out.d.r HS2.out.b) (RowAt.below H.out.d.c HS2.out.b)).mono ?_
          rintro e w3 ⟨v3, rfl, ho, hb⟩
          have HS3 := Lib.hid (HS2.out.below hb)
          have HLo := Lib.hid (show ∀ i, i < k → ∀ x, (rs i).ownBlock = some x → x < wz.heap.size from HS2.out.low)
          have HKy3 := Lib.hid (HKy.out.later hb)
          have HKx3 := Lib.hid (HKx.out.later hb)
          have HQ := Lib.hid ho
          have hs2 := HS2.out.b.size
          have hs3 := HS3.out.b.size
          clear ho hb p0 p1 p2 p3 x0 x1 y0 y1 HS2 HKy HKx
          obtain ⟨⟨y0, y1⟩, -⟩ := blk_cells HKy3.out
          obtain ⟨⟨x0, x1⟩, -⟩ := blk_cells HKx3.out
          obtain ⟨ga, gc, rfl, -, -⟩ := OwnI.slice HQ.out
          have HTa := Lib.hid (HS3.out.alloc (.cells #[.slice ga zr.length gc] 24))
          have HQa := Lib.hid (HQ.out.below ((Below.refl _ _).alloc (Nat.le_refl _) (.cells #[.slice ga zr.length gc] 24)))
          have hown := HTa.out.own.tbl
          go_upto_region 12 with (fail)
          go_wp2_with (go_loud (at_builtin; (refine wpList_append_own _ rfl (.tmp 56) (.tmp 58) 62 rfl w.heap.size 24 t1 (.slice none 0 0) 1 24 Try.underlying62 ri rz0 rz1 rz2 rfl (by decide) _ k _ rfl hown ⟨_, 0, none⟩ 1 1 [.slice ga zr.length gc] rfl rfl (cell_one_new _ _ _) (by simp [Value.oneCell']) (by unfold maxLen; omega) (by omega) (by simp; omega) ?_; intro v' w3 hown3 hgr3 _; have HP3 := Lib.hid (HTa.out.push HQa.out HZE.out hs2 HLo.out hown3 hgr3); clear hown3 hgr3)))
          go_roundg (r - (k + 1))
          case measure => omega
          case rel => exact ⟨k + 1, _, by omega, rfl, by go_num, HP3.out, HL.out⟩
      · rw [decide_eq_false hneg] at c2
        obtain ⟨h1, h2⟩ := r_no (m := m) (T := T) (cs := cs) (zs := zs) (fun g => hneg (g.2.2.2 k (by rw [HN.out]; omega)).2)
        rw [HO.out] at h1
        rw [HZ.out] at h2
        subst h1 h2
        clear hcx hcy hxc hyc hbr hlt2 hzr hneg hf1 hf2
        go_wp2_with fail
        refine (c2.out _ _ _ _ _ hR hC (RowAt.below H.out.d.r HS2.out.b) (RowAt.below H.out.d.c HS2.out.b)).mono ?_
        rintro e w3 ⟨v3, rfl, ho, hb⟩
        have HS3 := Lib.hid (HS2.out.below hb)
        have hs3 := HS3.out.b.size
        clear ho hb p0 p1 p2 p3 x0 x1 y0 y1 HS2 HKy HKx
        go_wp2
        go_ret2
        exact ⟨_, fun _ => undef, rfl, ownP_nil w3 w _ _ hs3, HS3.out.b.alloc hs3 _⟩
    · obtain rfl : k = r := by omega
      obtain ⟨h1, h2⟩ := r_yes (m := m) (T := T) (cs := cs) (zs := zs) ⟨HP.out.1, HP.out.2.1, HP.out.2.2, by rw [HN.out]; exact HF.out⟩
      rw [HO.out] at h1
      rw [HZ.out, HN.out] at h2
      obtain rfl : r0 = k := by omega
      subst h1
      clear h2
      go_wp2
      go_ret2
      exact ⟨_, _, rfl, HS.out.own, HS.out.b⟩
end Go.Proofs.Ytdfmfmndmldggaa.KrR
