/- OpenParts: both texts. -/
import Derived.Test.YtijcdnmcmngheaaPrtS
import Derived.Test.YtijcdnmcmngheaaPrtI
namespace Go.Proofs.Ytijcdnmcmngheaa.PrtO
open Go.RowKit Lb IntS MapS MapV SpecB TblS PrtB PutS PrtS
set_option linter.unusedSimpArgs false
set_option linter.unusedVariables false

structure TSt (w : World) (box : Array Value) (n : Nat) (zs : Nat → List Int) (rs : Nat → Value) (v : Value) (wr : World) : Prop where
  b : Below w.heap.size w wr
  box : Blk wr w.heap.size 26 box
  own : OwnP wr w.heap.size v n zs rs
theorem TSt.below {w : World} {box : Array Value} {n : Nat} {zs : Nat → List Int} {rs : Nat → Value} {v : Value} {wr w' : World} (h : TSt w box n zs rs v wr) (hb : Below wr.heap.size wr w') : TSt w box n zs rs v w' :=
  ⟨h.b.trans (hb.mono h.b.size), h.box.later hb, h.own.below hb⟩
theorem TSt.push {w : World} {box : Array Value} {n s : Nat} {zs zs' : Nat → List Int} {rs : Nat → Value} {v v' vq : Value} {z : List Int} {wr w' : World} (h : TSt w box n zs rs v wr) (hs : w.heap.size ≤ s) (hq : OwnI wr s vq z) (hlow : ∀ i, i < n → ∀ x, (rs i).ownBlock = some x → x < s)
    (ho : w'.ownsRow w.heap.size 24 1 v' (n + 1) ((List.range n).map rs ++ [vq])) (hgr : wr.grownBy w' v.ownBlock) (h1 : ∀ i, i < n → zs' i = zs i) (h2 : zs' n = z) : TSt w box (n + 1) zs' (fun i => if i = n then vq else rs i) v' w' :=
  ⟨h.b.grown hgr h.b.size (fun k e => (h.own.tbl.lt k e).1), blk_grown h.box hgr (own_ne h.own.tbl h.box (by decide)), PrtB.push h.own hq hs hlow ho hgr h1 h2⟩

set_option maxHeartbeats 1000000 in
theorem spec_bad (m : Mp) (a b : Option Addr) (ca cb : Nat) (w : World) (hR : m.R.length ≤ maxLen) (hC : m.C.length ≤ maxLen) (hr : IRow w a m.R) (hc : IRow w b m.C) (h : ¬ m.ok) (zs : Nat → List Int) :
    Calls Try.prog 35 #[.agg #[.int .i64 m.W, .int .i64 m.H, .slice a m.R.length ca, .slice b m.C.length cb]] w (TPst w 0 zs false) := by
  have HB := Lib.hid ((Below.refl w.heap.size w).alloc (Nat.le_refl _) (.cells #[.int .i64 m.W, .int .i64 m.H, .slice a m.R.length ca, .slice b m.C.length cb] 26))
  have HK := Lib.hid (Blk.new w 26 #[.int .i64 m.W, .int .i64 m.H, .slice a m.R.length ca, .slice b m.C.length cb])
  have HT := Lib.hid (show TSt w #[.int .i64 m.W, .int .i64 m.H, .slice a m.R.length ca, .slice b m.C.length cb] 0 zs (fun _ => undef) (.slice (some ⟨w.heap.size + 1, 0, none⟩) 0 0) ((w.alloc (.cells #[.int .i64 m.W, .int .i64 m.H, .slice a m.R.length ca, .slice b m.C.length cb] 26)).alloc (.cells #[] 24)) from by
    refine ⟨HB.out.alloc (by simp) _, HK.out.alloc _, ?_⟩
    have := ownP_nil (w.alloc (.cells #[.int .i64 m.W, .int .i64 m.H, .slice a m.R.length ca, .slice b m.C.length cb] 26)) w zs (fun _ => undef) (by simp)
    rw [World.size_alloc] at this
    exact this)
  have hk := okB_no h
  clear h
  go_enter Try.func35, Try.ntmps35
  go_wp2_with fail
  refine (MapV.spec_any m a b ca cb _ hR hC (RowAt.below hr HT.out.b) (RowAt.below hc HT.out.b)).mono ?_
  rw [hk]
  rintro e w1 ⟨rfl, hb1⟩
  have HT1 := Lib.hid (HT.out.below hb1)
  clear hb1
  go_wp2
  go_ret2
  exact ⟨_, _, rfl, HT1.out.own, HT1.out.b⟩

set_option maxRecDepth 100000 in
set_option maxHeartbeats 4000000 in
theorem spec_raw (ww hh : Nat) (R C : List Int) (a b : Option Addr) (ca cb : Nat) (w : World) (hok : Mp.ok ⟨ww, hh, R, C⟩) (g : GoodM ⟨ww, hh, R, C⟩ ww hh) (hr : IRow w a R) (hc : IRow w b C) :
    Calls Try.prog 35 #[.agg #[.int .i64 ww, .int .i64 hh, .slice a R.length ca, .slice b C.length cb]] w fun e w' => ∃ ps, PartsTo ⟨ww, hh, R, C⟩ (ww * hh) (ww * hh) ps ∧ TPst w ps.length (zsOf ps) true e w' := by
  obtain ⟨t1, ri, rz0, rz1, rz2⟩ := info_parts rInfo
  have n36 := g.n36
  have HG := Lib.hid g
  have HCl := Lib.hid (show C.length = ww * hh from g.C)
  have hR : R.length ≤ maxLen := by have := g.R; simp only at this; unfold maxLen; omega
  have hC : C.length ≤ maxLen := by have := g.C; simp only at this; unfold maxLen; omega
  have HRr := Lib.hid hr
  have HCr := Lib.hid hc
  have HT := Lib.hid (show TSt w #[.int .i64 ww, .int .i64 hh, .slice a R.length ca, .slice b C.length cb] 0 (zsOf []) (fun _ => undef) (.slice (some ⟨w.heap.size + 1, 0, none⟩) 0 0) ((w.alloc (.cells #[.int .i64 ww, .int .i64 hh, .slice a R.length ca, .slice b C.length cb] 26)).alloc (.cells #[] 24)) from by
    refine ⟨((Below.refl _ _).alloc (Nat.le_refl _) _).alloc (by simp) _, (Blk.new w 26 #[.int .i64 ww, .int .i64 hh, .slice a R.length ca, .slice b C.length cb]).alloc _, ?_⟩
    have := ownP_nil (w.alloc (.cells #[.int .i64 ww, .int .i64 hh, .slice a R.length ca, .slice b C.length cb] 26)) w (zsOf []) (fun _ => undef) (by simp)
    rw [World.size_alloc] at this
    exact this)
  have hk := okB_yes hok
  clear hok g hr hc
  go_enter Try.func35, Try.ntmps35
  go_wp2_with fail
  refine (MapV.spec_any ⟨ww, hh, R, C⟩ a b ca cb _ hR hC (RowAt.below HRr.out HT.out.b) (RowAt.below HCr.out HT.out.b)).mono ?_
  rw [hk]
  rintro e w1 ⟨rfl, hb1⟩
  have HT1 := Lib.hid (HT.out.below hb1)
  clear hb1 hk
  obtain ⟨p0, p1, p2, p3, -⟩ := HT1.out.box.four
  go_wp2_with fail
  clear p0 p1 p2 p3
  go_loopg [5, 4] (ww * hh) (fun q i vp wr => ∃ k : Nat, k ≤ ww * hh ∧ q = ww * hh - k ∧ i = .int .i64 k ∧ ∃ qs rs, PartsTo ⟨ww, hh, R, C⟩ (ww * hh) k qs ∧ TSt w #[.int .i64 ww, .int .i64 hh, .slice a R.length ca, .slice b C.length cb] qs.length (zsOf qs) rs vp wr)
  case atStart => exact ⟨0, Nat.zero_le _, rfl, rfl, [], _, .zero, HT1.out⟩
  case round =>
    clear HT HT1
    obtain ⟨k, hk, hq, rfl, qs, rs, hP, hS⟩ := hrel
    have HP := Lib.hid hP
    have HS := Lib.hid hS
    have HPl := Lib.hid hP.length
    clear hP hS
    obtain ⟨p0, p1, p2, p3, -⟩ := HS.out.box.four
    by_cases hlt : k < ww * hh
    · have hkC : k < C.length := by have := HCl.out; omega
      rcases RowAt.below HCr.out HS.out.b with h0 | ⟨b1, off1, rfl, hc1⟩
      · omega
      have g1 : wr.cell? ⟨b1, off1 + k, none⟩ = some (.int .i64 (zAt C k)) := hc1 k hkC
      obtain ⟨-, -, hz0', hz9'⟩ := HG.out.cell k hlt
      simp only at hz0' hz9'
      clear hc1
      by_cases hf : zAt C k = 0
      · have HN := Lib.hid (show ¬ Opn ⟨ww, hh, R, C⟩ (ww * hh) k from fun h => by have := h.2; simp only at this; omega)
        go_wp2_with fail
        go_roundg (ww * hh - (k + 1))
        case measure => omega
        case rel => exact ⟨k + 1, by omega, rfl, by go_num, qs, rs, .no HP.out (not_heads_forb HN.out), HS.out⟩
      · have HO := Lib.hid (show Opn ⟨ww, hh, R, C⟩ (ww * hh) k from ⟨hlt, by show 0 < zAt C k; omega⟩)
        have hf' : (zAt C k == 0) = false := by simpa using hf
        clear hf
        go_wp2_with fail
        refine (part_raw ww hh R C a (some ⟨b1, off1, none⟩) ca cb k _ HG.out (RowAt.below HCr.out HS.out.b) HO.out).mono ?_
        rintro e w2 ⟨⟨v2, rfl, p, ho2, hp2⟩, hb2⟩
        have HS2 := Lib.hid (HS.out.below hb2)
        have HQ2 := Lib.hid ho2
        have HPt := Lib.hid hp2
        have HLow := Lib.hid (show ∀ i, i < qs.length → ∀ x, (rs i).ownBlock = some x → x < wr.heap.size from fun i hi x hx => ((HS.out.own.row i hi).lt x hx).2)
        have HSz := Lib.hid HS.out.b.size
        have hp0 : 0 < p.length := List.length_pos_of_mem ((hp2.2 k).2 .here)
        have hpl := hp2.length HG.out HO.out
        clear ho2 hp2 hb2 g1
        obtain ⟨gq, cq, rfl⟩ := own_ints_slice HQ2.out hp0
        have hc0 := own_ints_cell HQ2.out hp0
        obtain ⟨x, hx⟩ : ∃ x, p.getD 0 0 = x := ⟨_, rfl⟩
        rw [hx] at hc0
        have HX := Lib.hid hx
        by_cases hxk : x = k
        · have HH := Lib.hid ((part_head HO.out HPt.out).1 (hx.trans hxk))
          have hx1 : ((x : Int) == (k : Int)) = true := by simp; omega
          have hsz2 := HS2.out.b.size
          have hPl := HPl.out
          have hown := HS2.out.own.tbl.alloc (.cells #[.slice (some ⟨gq, 0, none⟩) p.length cq] 24)
          clear hx hxk
          go_wp2_with (at_builtin; (refine wpList_append_own _ rfl (.tmp 33) (.tmp 35) 42 rfl w.heap.size 24 t1 (.slice none 0 0) 1 24 Try.underlying42 ri rz0 rz1 rz2 rfl (by decide) u4 qs.length _ rfl hown ⟨_, 0, none⟩ 1 1 [.slice (some ⟨gq, 0, none⟩) p.length cq] rfl rfl (cell_one_new _ _ _) (by simp [Value.oneCell']) (by unfold maxLen; omega) (by omega) (by simp; omega) ?_; intro v' w7 hown7 hgr7 _; have HPush := Lib.hid ((HS2.out.below ((Below.refl _ _).alloc (Nat.le_refl _) _)).push (zs' := zsOf (qs ++ [p])) HSz.out (World.ownsRow.alloc HQ2.out _) HLow.out hown7 hgr7 (fun i hi => zsOf_old hi) (zsOf_new qs p)); clear hown7 hgr7))
          go_roundg (ww * hh - (k + 1))
          case measure => omega
          case rel => exact ⟨k + 1, by omega, rfl, by go_num, qs ++ [p], _, .yes HP.out HH.out HPt.out, by rw [show (qs ++ [p]).length = qs.length + 1 by simp]; exact HPush.out⟩
        · have HH := Lib.hid (show ¬ Heads ⟨ww, hh, R, C⟩ (ww * hh) k from fun h => hxk (hx.symm.trans ((part_head HO.out HPt.out).2 h)))
          have hx1 : ((x : Int) == (k : Int)) = false := by simp; omega
          clear hx hxk
          go_wp2_with fail
          go_roundg (ww * hh - (k + 1))
          case measure => omega
          case rel => exact ⟨k + 1, by omega, rfl, by go_num, qs, rs, .no HP.out HH.out, HS2.out⟩
    · obtain rfl : k = ww * hh := by omega
      have hnC : ¬ ww * hh < C.length := by have := HCl.out; omega
      go_wp2
      go_ret2
      exact ⟨qs, HP.out, u4, rs, rfl, HS.out.own, HS.out.b⟩

theorem part_ex {m : Mp} {w h : Nat} (g : GoodM m w h) {c : Nat} (hc : Opn m (w * h) c) : ∃ p, IsPart m c p := by
  classical
  refine ⟨(List.range (w * h)).filter (fun x => decide (Rch m c x)), List.Pairwise.filter _ List.pairwise_lt_range, fun x => ?_⟩
  rw [List.mem_filter, List.mem_range, decide_eq_true_iff]
  exact ⟨fun h => h.2, fun h => ⟨(h.opn g hc).1, h⟩⟩
theorem parts_ex {m : Mp} {w h : Nat} (g : GoodM m w h) : ∀ k, ∃ ps, PartsTo m (w * h) k ps
  | 0 => ⟨[], .zero⟩
  | k + 1 => by
    classical
    obtain ⟨ps, hp⟩ := parts_ex g k
    by_cases hh : Heads m (w * h) k
    · obtain ⟨p, hq⟩ := part_ex g hh.1
      exact ⟨_, .yes hp hh hq⟩
    · exact ⟨_, .no hp hh⟩

/-- Both texts answer alike. -/
theorem both (m : Mp) : ∃ (ps : List (List Nat)) (ok : Bool), (ok = true → ∃ ww hh, GoodM m ww hh ∧ PartsTo m (ww * hh) (ww * hh) ps) ∧ (ok = true ↔ m.ok) ∧ (∀ i, (zsOf ps i).length ≤ 36) ∧ ps.length ≤ 36 ∧
    (∀ a b ca cb w, m.R.length ≤ maxLen → m.C.length ≤ maxLen → IRow w a m.R → IRow w b m.C → Calls Try.prog 35 #[.agg #[.int .i64 m.W, .int .i64 m.H, .slice a m.R.length ca, .slice b m.C.length cb]] w (TPst w ps.length (zsOf ps) ok)) ∧
    (∀ a b ca cb w, m.R.length ≤ maxLen → m.C.length ≤ maxLen → IRow w a m.R → IRow w b m.C → Calls Try.prog 34 #[.agg #[.int .i64 m.W, .int .i64 m.H, .slice a m.R.length ca, .slice b m.C.length cb]] w (TPst w ps.length (zsOf ps) ok)) := by
  by_cases h : m.ok
  · obtain ⟨ww, hh, g⟩ := good_of h
    obtain ⟨ps, hp⟩ := parts_ex g (ww * hh)
    have n36 := g.n36
    have hpl := hp.length
    refine ⟨ps, true, fun _ => ⟨ww, hh, g, hp⟩, ⟨fun _ => h, fun _ => rfl⟩, fun i => hp.len g i, by omega, ?_, fun a b ca cb w _ _ hr hc => PrtI.impl_yes m ww hh g h a b ca cb w hr hc ps hp⟩
    intro a b ca cb w _ _ hr hc
    have e := mp_eq g
    obtain ⟨W, H, R, C⟩ := m
    cases e
    refine (spec_raw ww hh R C a b ca cb w h g hr hc).mono ?_
    rintro e w' ⟨qs, hq, ht⟩
    rw [← hq.unique hp]
    exact ht
  · exact ⟨[], false, (fun e => by cases e), ⟨(fun e => by cases e), fun e => absurd e h⟩, fun i => by simp [zsOf, ints], by simp, fun a b ca cb w hR hC hr hc => spec_bad m a b ca cb w hR hC hr hc h _, fun a b ca cb w hR hC hr hc => PrtI.impl_bad m a b ca cb w hR hC hr hc h _⟩
theorem both_v (m : Mp) : ∃ (n : Nat) (zs : Nat → List Int) (ok : Bool), n ≤ 36 ∧ (∀ i, (zs i).length ≤ 36) ∧
    (∀ a b ca cb w, m.R.length ≤ maxLen → m.C.length ≤ maxLen → IRow w a m.R → IRow w b m.C → Calls Try.prog 35 #[.agg #[.int .i64 m.W, .int .i64 m.H, .slice a m.R.length ca, .slice b m.C.length cb]] w (TPst w n zs ok)) ∧
    (∀ a b ca cb w, m.R.length ≤ maxLen → m.C.length ≤ maxLen → IRow w a m.R → IRow w b m.C → Calls Try.prog 34 #[.agg #[.int .i64 m.W, .int .i64 m.H, .slice a m.R.length ca, .slice b m.C.length cb]] w (TPst w n zs ok)) := by
  obtain ⟨ps, ok, _, _, h3, h4, h5, h6⟩ := both m
  exact ⟨ps.length, zsOf ps, ok, h4, h3, h5, h6⟩

end Go.Proofs.Ytijcdnmcmngheaa.PrtO
