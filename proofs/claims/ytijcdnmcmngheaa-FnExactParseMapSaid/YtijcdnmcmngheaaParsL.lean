/- 'FnExactParseMap' answers as its model, at every text, in memory of its own: the walk of the law. -/
import Derived.Test.YtijcdnmcmngheaaParsS
import Derived.Test.YtijcdnmcmngheaaLawM
namespace Go.Proofs.Ytijcdnmcmngheaa.ParsL
open Go.RowKit Lb IntS MapS MapV MapO SpecB LawM ParsC
open ParsI (PPost)
set_option linter.unusedSimpArgs false
set_option linter.unusedVariables false

theorem map_one {m m2 : Mp} {w h w2 h2 : Nat} {s : ByteArray} (t : TextOf m w h s) (t2 : TextOf m2 w2 h2 s) : m = m2 := by
  have e1 := t.first
  have e2 := t2.first
  have z1 := t.size
  have z2 := t2.size
  have w1 := t.g.w1
  have w1' := t2.g.w1
  rw [e1] at e2
  obtain rfl : w = w2 := by omega
  have hm : w * h = w * h2 := by omega
  obtain rfl : h = h2 := Nat.eq_of_mul_eq_mul_left (by omega) hm
  rw [mp_eq t.g, mp_eq t2.g]
  have hR := t.g.R
  have hC := t.g.C
  have hR2 := t2.g.R
  have hC2 := t2.g.C
  have hb : ∀ c, c < w * h → bAt (cellT m c) 0 = bAt (cellT m2 c) 0 ∧ bAt (cellT m c) 1 = bAt (cellT m2 c) 1 := fun c hc => by
    rw [← t.at0 c hc, ← t2.at0 c hc, ← t.at1 c hc, ← t2.at1 c hc]
    exact ⟨rfl, rfl⟩
  have hRR : m.R = m2.R := by
    apply List.ext_getElem (by omega)
    intro k h1 h2
    have hk : k < w * h := by omega
    have e := (t.cellF k hk).2.2.2.1
    have e' := (t2.cellF k hk).2.2.2.1
    rw [(hb k hk).2, e'] at e
    unfold zAt at e
    simpa [List.getD_eq_getElem?_getD, h1, h2] using e.symm
  have hCC : m.C = m2.C := by
    apply List.ext_getElem (by omega)
    intro k h1 h2
    have hk : k < w * h := by omega
    have e := (t.cellF k hk).2.2.1
    have e' := (t2.cellF k hk).2.2.1
    rw [(hb k hk).1, e'] at e
    unfold zAt at e
    simpa [List.getD_eq_getElem?_getD, h1, h2] using e.symm
  rw [hRR, hCC]

theorem both_v (s : ByteArray) (hs : s.size ≤ 1048576) : ∃ (m' : Mp) (ok : Bool), m'.R.length ≤ 36 ∧ m'.C.length ≤ 36 ∧
    (∀ w, Calls Try.prog 27 #[.string s] w (MPost w m' ok)) ∧
    (∀ w, Calls Try.prog 24 #[.string s] w (MPost w m' ok)) := by
  by_cases h : ∃ m ww hh, TextOf m ww hh s
  · obtain ⟨m, ww, hh, T⟩ := h
    have hR := T.g.R
    have hC := T.g.C
    have n36 := T.g.n36
    have key : ∀ w e w', PPost w s e w' → MPost w m true e w' := by
      intro w e w' hp
      rcases hp with ⟨m2, w2, h2, T2, hp⟩ | ⟨hno, _⟩
      · rw [map_one T T2]; exact hp
      · exact absurd T (hno m ww hh)
    exact ⟨m, true, by omega, by omega, fun w => (ParsS.parse_any s w hs).mono (key w), fun w => (ParsI.parse_any s w hs).mono (key w)⟩
  · have key : ∀ w e w', PPost w s e w' → MPost w noMap false e w' := by
      intro w e w' hp
      rcases hp with ⟨m2, w2, h2, T2, hp⟩ | ⟨_, hp⟩
      · exact absurd ⟨m2, w2, h2, T2⟩ h
      · exact hp
    exact ⟨noMap, false, by simp [noMap], by simp [noMap], fun w => (ParsS.parse_any s w hs).mono (key w), fun w => (ParsI.parse_any s w hs).mono (key w)⟩

/-- The model's answer in its box at 's'. -/
structure StS (W : World) (m' : Mp) (a3 : Option Addr) (c3 : Nat) (b3 : Option Addr) (d3 : Nat) (s : Nat) (wx : World) : Prop where
  hb : Below W.heap.size W wx
  hp : Blk wx s 26 #[.int .i64 m'.W, .int .i64 m'.H, .slice a3 m'.R.length c3, .slice b3 m'.C.length d3]
  hw : IRow wx a3 m'.R
  hv : IRow wx b3 m'.C
section
variable {W : World} {m' : Mp} {a3 : Option Addr} {c3 : Nat} {b3 : Option Addr} {d3 : Nat} {s : Nat} {wx w' : World}
theorem StS.later (h : StS W m' a3 c3 b3 d3 s wx) (hb : Below wx.heap.size wx w') : StS W m' a3 c3 b3 d3 s w' :=
  ⟨h.hb.trans (hb.mono h.hb.size), h.hp.later hb, RowAt.below h.hw hb, RowAt.below h.hv hb⟩
theorem StS.chg {lo hi : Nat} (h : StS W m' a3 c3 b3 d3 s wx) (hc : Chg lo hi wx w') (h1 : W.heap.size ≤ lo) (h2 : s < lo) (h0 : lo ≤ wx.heap.size) (ha : ∀ x, a3 = some x → x.block < s) (hb : ∀ x, b3 = some x → x.block < s) : StS W m' a3 c3 b3 d3 s w' :=
  ⟨h.hb.trans ((hc.below h0).mono h1), (hc.block _ h.hp.lt (.inl h2)).trans h.hp, hc.row h.hw (fun p e => .inl (by have := ha p e; omega)), hc.row h.hv (fun p e => .inl (by have := hb p e; omega))⟩
end

set_option maxRecDepth 100000 in
set_option maxHeartbeats 4000000 in
theorem law_any (W : World) (s : ByteArray) (hmax : s.size ≤ maxLen) :
    Calls Try.prog 13 #[.string s] W fun e w' => e = .returned (.bool true) ∧ Below W.heap.size W w' := by
  by_cases hbig : 1048576 < s.size
  · have e1 : decide ((1048576 : Int) < (s.size : Int)) = true := by simp; omega
    go_enter Try.func13, Try.ntmps13
    go_wp2
    go_ret
    exact ⟨rfl, Below.refl _ _⟩
  · have hsm : s.size ≤ 1048576 := by omega
    have e1 : decide ((1048576 : Int) < (s.size : Int)) = false := by simp; omega
    obtain ⟨m', ok, hlen, hlen2, hS, hI⟩ := both_v s hsm
    have hzl : m'.R.length ≤ maxLen := by unfold maxLen; omega
    have hzl2 : m'.C.length ≤ maxLen := by unfold maxLen; omega
    have HS := Lib.hid hS
    have HI := Lib.hid hI
    clear hS hI hbig
    go_enter Try.func13, Try.ntmps13
    go_wp2_with fail
    refine (HS.out _).mono ?_
    rintro e w3 ⟨v3, rfl, ho3, hb3⟩
    obtain ⟨a3, c3, b3, d3, rfl, ha3, hb3p, -⟩ := ho3
    have hL3 := Lib.hid (show (∀ x, a3 = some x → x.block < w3.heap.size) ∧ (∀ x, b3 = some x → x.block < w3.heap.size) from ⟨fun x e => (OwnI.lt ha3 x e).2, fun x e => (OwnI.lt hb3p x e).2⟩)
    have hA := Lib.hid (show StS W m' a3 c3 b3 d3 w3.heap.size (w3.alloc (.cells #[.int .i64 m'.W, .int .i64 m'.H, .slice a3 m'.R.length c3, .slice b3 m'.C.length d3] 26)) from ⟨hb3.alloc hb3.size _, Blk.new _ _ _, RowAt.below (OwnI.row ha3) ((Below.refl _ _).alloc (Nat.le_refl _) _), RowAt.below (OwnI.row hb3p) ((Below.refl _ _).alloc (Nat.le_refl _) _)⟩)
    have hWs3 := Lib.hid (show W.heap.size ≤ w3.heap.size from hb3.size)
    clear hb3 ha3 hb3p
    go_wp2_with fail
    refine (HI.out _).mono ?_
    rintro e w5 ⟨v5, rfl, ho5, hb5⟩
    obtain ⟨a5, c5, b5, d5, rfl, ha5, hb5p, hn5⟩ := ho5
    rw [World.size_alloc] at ha5 hb5p
    have hBa := Lib.hid ((Below.refl w5.heap.size w5).alloc (Nat.le_refl _) (.cells #[.int .i64 m'.W, .int .i64 m'.H, .slice a5 m'.R.length c5, .slice b5 m'.C.length d5] 26))
    have hA5 := Lib.hid ((hA.out.later hb5).later hBa.out)
    have hG5 := Lib.hid (show StX m' a5 c5 b5 d5 (w3.heap.size + 1) w5.heap.size w5.heap.size (w5.alloc (.cells #[.int .i64 m'.W, .int .i64 m'.H, .slice a5 m'.R.length c5, .slice b5 m'.C.length d5] 26)) from ⟨Blk.new _ _ _, ha5.below hBa.out, hb5p.below hBa.out, hn5, fun x e => (OwnI.lt ha5 x e).2, fun x e => (OwnI.lt hb5p x e).2⟩)
    have hs35 := Lib.hid (show w3.heap.size + 1 ≤ w5.heap.size from by have := hb5.size; rwa [World.size_alloc] at this)
    have hAw5 := Lib.hid (hA.out.later hb5)
    have hz5 := hAw5.out.hp.lt
    obtain ⟨p0, p1, p2, p3, -⟩ := hAw5.out.hp.four
    clear hb5 ha5 hb5p hn5 hBa hA
    go_wp2_with fail
    refine (MapS.eq_same m' a5 b5 a3 b3 c5 d5 c3 d3 _ (OwnI.row hG5.out.r) (OwnI.row hG5.out.c) hA5.out.hw hA5.out.hv hzl hzl2).mono ?_
    rintro e w6 ⟨rfl, hb6⟩
    have hA6 := Lib.hid (hA5.out.later hb6)
    have hG6 := Lib.hid (hG5.out.later hb6)
    clear hb6 p0 p1 p2 p3 hA5 hG5 hAw5 hz5
    obtain ⟨q0, q1, q2, q3, -⟩ := hG6.out.x.four
    have hs3 := hWs3.out
    have hs5 := hs35.out
    have hs6 := hG6.out.x.lt
    go_wp2_with fail
    refine (MapS.mark_any m' a5 b5 c5 d5 (w3.heap.size + 1) w5.heap.size w6 w6 hG6.out.r hG6.out.c hG6.out.n hG6.out.la hG6.out.lb (by omega) (by omega)).mono ?_
    rintro e w11 ⟨rfl, hm11, hm11p, hc11⟩
    have hA11 := Lib.hid (hA6.out.chg hc11 (by omega) (by omega) (by omega) hL3.out.1 hL3.out.2)
    have hM11 := Lib.hid (show StM m' a5 c5 b5 d5 w5.heap.size w11 from ⟨(hc11.block _ hG6.out.x.lt (.inr (Nat.le_refl _))).trans hG6.out.x, mrow_mark hm11 (by unfold markM; rw [markZ_length]), mrow_mark hm11p (by unfold markM; rw [markZ_length])⟩)
    clear hm11 hm11p hc11 q0 q1 q2 q3 hA6 hG6 hs6
    obtain ⟨q0, q1, q2, q3, -⟩ := hM11.out.x.four
    go_wp2_with fail
    refine (MapS.held_any m' a5 b5 c5 d5 _ hM11.out.r hM11.out.c (by omega)).mono ?_
    rintro e w12 ⟨rfl, hb12⟩
    have hA12 := Lib.hid (hA11.out.later hb12)
    have hM12 := Lib.hid (hM11.out.later hb12)
    clear hb12 q0 q1 q2 q3 hA11 hM11
    go_wp2_with fail
    refine (HI.out _).mono ?_
    rintro e w14 ⟨v14, rfl, ho14, hb14⟩
    obtain ⟨a14, c14, b14, d14, rfl, ha14, hb14p, -⟩ := ho14
    have hBa := Lib.hid ((Below.refl w14.heap.size w14).alloc (Nat.le_refl _) (.cells #[.int .i64 m'.W, .int .i64 m'.H, .slice a14 m'.R.length c14, .slice b14 m'.C.length d14] 26))
    have hAw := Lib.hid (hA12.out.later hb14)
    have hA14 := Lib.hid ((hA12.out.later hb14).later hBa.out)
    have hM14 := Lib.hid ((hM12.out.later hb14).later hBa.out)
    have hH14 := Lib.hid (show IRow _ a14 m'.R ∧ IRow _ b14 m'.C from ⟨OwnI.row (ha14.below hBa.out), OwnI.row (hb14p.below hBa.out)⟩)
    have hz14 := hAw.out.hp.lt
    obtain ⟨p0, p1, p2, p3, -⟩ := hAw.out.hp.four
    clear hb14 ha14 hb14p hA12 hM12 hAw
    go_wp2_with fail
    refine (MapS.eq_same m' a14 b14 a3 b3 c14 d14 c3 d3 _ hH14.out.1 hH14.out.2 hA14.out.hw hA14.out.hv hzl hzl2).mono ?_
    rintro e w15 ⟨rfl, hb15⟩
    have hB15 := Lib.hid (hA14.out.later hb15).hb
    have hM15 := Lib.hid (hM14.out.later hb15)
    clear hb15 p0 p1 p2 p3 hA14 hM14 hH14 hBa hz14
    obtain ⟨q0, q1, q2, q3, -⟩ := hM15.out.x.four
    go_wp2_with fail
    refine (MapS.held_any m' a5 b5 c5 d5 _ hM15.out.r hM15.out.c (by omega)).mono ?_
    rintro e w16 ⟨rfl, hb16⟩
    have hB16 := Lib.hid (hB15.out.trans (hb16.mono hB15.out.size))
    clear hb16
    go_wp2
    go_ret
    exact ⟨rfl, hB16.out⟩

end Go.Proofs.Ytijcdnmcmngheaa.ParsL
