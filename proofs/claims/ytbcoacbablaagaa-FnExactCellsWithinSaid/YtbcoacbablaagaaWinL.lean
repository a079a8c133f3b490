/- 'FnExactCellsWithin' answers as its model, at every argument, in memory of its own: the walk of the law. -/
import Derived.Test.YtbcoacbablaagaaWinI
import Derived.Test.YtbcoacbablaagaaMapO
namespace Go.Proofs.Ytbcoacbablaagaa.WinL
open Go.RowKit Lb IntS MapS MapV MapO
set_option linter.unusedSimpArgs false
set_option linter.unusedVariables false

/-- What stands when both answers have been compared. -/
structure Kp (W : World) (m : Mp) (a : Option Addr) (ca : Nat) (b : Option Addr) (cb : Nat) (a4 : Option Addr) (ca4 : Nat) (b4 : Option Addr) (cb4 : Nat) (a3 a5 : Option Addr) (c5 : Nat) (zs : List Int) (s3 s4 : Nat) (wx : World) : Prop where
  hb : Below W.heap.size W wx
  hx : Blk wx s4 26 #[.int .i64 m.W, .int .i64 m.H, .slice a4 m.R.length ca4, .slice b4 m.C.length cb4]
  hk : Blk wx W.heap.size 48 #[.int .i64 m.W, .int .i64 m.H, .slice a m.R.length ca, .slice b m.C.length cb]
  hr : OwnI wx s3 (.slice a4 m.R.length ca4) m.R
  hc : OwnI wx s3 (.slice b4 m.C.length cb4) m.C
  hw : IRow wx a3 zs
  hg : OwnI wx (s4 + 1) (.slice a5 zs.length c5) zs

/-- The two lists of a map, as they can be read; as they are owned. -/
def MRow (w : World) (a b : Option Addr) (m : Mp) : Prop := IRow w a m.R ∧ IRow w b m.C
def MOwn (w : World) (base : Nat) (a : Option Addr) (ca : Nat) (b : Option Addr) (cb : Nat) (m : Mp) : Prop := OwnI w base (.slice a m.R.length ca) m.R ∧ OwnI w base (.slice b m.C.length cb) m.C
theorem MRow.below {w w' : World} {a b : Option Addr} {m : Mp} (h : MRow w a b m) (hb : Below w.heap.size w w') : MRow w' a b m := ⟨RowAt.below h.1 hb, RowAt.below h.2 hb⟩
theorem MOwn.below {w w' : World} {base : Nat} {a : Option Addr} {ca : Nat} {b : Option Addr} {cb : Nat} {m : Mp} (h : MOwn w base a ca b cb m) (hb : Below w.heap.size w w') : MOwn w' base a ca b cb m := ⟨h.1.below hb, h.2.below hb⟩
theorem MRow.chg {lo hi : Nat} {w w' : World} {a b : Option Addr} {m : Mp} (hc : Chg lo hi w w') (h : MRow w a b m) (h1 : ∀ p, a = some p → p.block < lo ∨ hi ≤ p.block) (h2 : ∀ p, b = some p → p.block < lo ∨ hi ≤ p.block) : MRow w' a b m := ⟨hc.row h.1 h1, hc.row h.2 h2⟩
theorem MOwn.chg {lo hi base : Nat} {w w' : World} {a : Option Addr} {ca : Nat} {b : Option Addr} {cb : Nat} {m : Mp} (hc : Chg lo hi w w') (h : MOwn w base a ca b cb m) (h1 : ∀ p, a = some p → p.block < lo ∨ hi ≤ p.block) (h2 : ∀ p, b = some p → p.block < lo ∨ hi ≤ p.block) : MOwn w' base a ca b cb m := ⟨hc.own h.1 h1, hc.own h.2 h2⟩
theorem mrow_mark {w : World} {base n cap : Nat} {a : Option Addr} {zs : List Int} (h : OwnI w base (.slice a n cap) zs) (hn : zs.length = n) : IRow w a zs := by
  subst hn; exact OwnI.row h

theorem mark_row {w : World} {base : Nat} {a : Option Addr} {n cap : Nat} {k : Int} (h : OwnI w base (.slice a n cap) (markZ k n)) : RowAt w a n (fun j => .int .i64 (k + j)) := by
  obtain ⟨a', c', e, hr, _⟩ := OwnI.slice h
  rw [markZ_length] at e
  cases e
  have h2 := hr
  unfold IRow at h2
  rw [markZ_length] at h2
  exact h2.congr fun j hj => by rw [markZ_at _ _ _ hj]

set_option maxHeartbeats 4000000 in
theorem law_any (W : World) (m : Mp) (a : Option Addr) (ca : Nat) (b : Option Addr) (cb : Nat) (hi : IsMp W m a b) (p : Int) (hp : (Lit.int IntKind.i64 p).wf = true) (t : Int) (ht : (Lit.int IntKind.i64 t).wf = true) :
    Calls Try.prog 10 #[.agg #[.int .i64 m.W, .int .i64 m.H, .slice a m.R.length ca, .slice b m.C.length cb], .int .i64 p, .int .i64 t] W fun e w' => e = .returned (.bool true) ∧ Below W.heap.size W w' := by
  have hB := Lib.hid (show Below W.heap.size W (W.alloc (.cells #[.int .i64 m.W, .int .i64 m.H, .slice a m.R.length ca, .slice b m.C.length cb] 48)) from (Below.refl _ _).alloc (Nat.le_refl _) _)
  have hK := Lib.hid (Blk.new W 48 #[.int .i64 m.W, .int .i64 m.H, .slice a m.R.length ca, .slice b m.C.length cb])
  have hR := Lib.hid hi.R
  have hC := Lib.hid hi.C
  have lR := Lib.hid hi.lR
  have lC := Lib.hid hi.lC
  clear hi
  by_cases hbig : 1048576 < m.R.length + m.C.length
  · go_enter Try.func10, Try.ntmps10
    go_wp2_with fail
    refine (MapS.sz_no m a b ca cb _ lR.out lC.out hbig).mono ?_
    rintro e w1 ⟨rfl, hb1⟩
    go_wp2
    go_ret
    exact ⟨rfl, hB.out.trans (hb1.mono (by simp))⟩
  · have hsm : m.R.length + m.C.length ≤ 1048576 := by omega
    obtain ⟨zs, ok, hlen, hS, hI⟩ := WinI.both_v m p t
    have hzl : zs.length ≤ maxLen := by unfold maxLen; omega
    have HS := Lib.hid hS
    have HI := Lib.hid hI
    clear hS hI
    go_enter Try.func10, Try.ntmps10
    go_wp2_with fail
    refine (MapS.sz_yes m a b ca cb _ hsm).mono ?_
    rintro e w1 ⟨rfl, hb1⟩
    have hB1 := Lib.hid (hB.out.trans (hb1.mono (by simp)))
    have hK1 := Lib.hid (hK.out.later hb1)
    clear hb1
    obtain ⟨p0, p1, p2, p3, -⟩ := hK1.out.four
    go_wp2_with fail
    refine (MapS.to_any m a b ca cb _ (RowAt.below hR.out hB1.out) (RowAt.below hC.out hB1.out) hsm).mono ?_
    rintro e w2 ⟨⟨v, rfl, ho2⟩, hb2⟩
    obtain ⟨a2, ca2, b2, cb2, rfl, ha2, hc2, hn2⟩ := ho2
    have hB2 := Lib.hid (hB1.out.trans (hb2.mono hB1.out.size))
    have hK2 := Lib.hid (hK1.out.later hb2)
    clear p0 p1 p2 p3 hb2 hn2
    go_wp2_with fail
    refine (HS.out a2 b2 ca2 cb2 _ lR.out lC.out (OwnI.row ha2) (OwnI.row hc2)).mono ?_
    rintro e w3 ⟨v3, rfl, ho3, hb3⟩
    obtain ⟨a3, c3, rfl, ha3, hk3⟩ := OwnI.slice ho3
    have hW3 := Lib.hid ha3
    have hL3 := Lib.hid (show ∀ x, a3 = some x → x.block < w3.heap.size from fun x e => (hk3 x e).2)
    clear ha3 hk3 ho3
    have hB3 := Lib.hid (hB2.out.trans (hb3.mono hB2.out.size))
    have hK3 := Lib.hid (hK2.out.later hb3)
    clear hb3 ha2 hc2
    obtain ⟨p0, p1, p2, p3, -⟩ := hK3.out.four
    go_wp2_with fail
    refine (MapS.to_any m a b ca cb _ (RowAt.below hR.out hB3.out) (RowAt.below hC.out hB3.out) hsm).mono ?_
    rintro e w4 ⟨⟨v, rfl, ho4⟩, hb4⟩
    obtain ⟨a4, ca4, b4, cb4, rfl, ha4, hc4, hn4⟩ := ho4
    have hB4 := Lib.hid (hB3.out.trans (hb4.mono hB3.out.size))
    have hK4 := Lib.hid (hK3.out.later hb4)
    have hW4 := Lib.hid (RowAt.below hW3.out hb4)
    have hS4 := Lib.hid hb4.size
    have hA4 := Lib.hid ha4
    have hC4 := Lib.hid hc4
    have hN4 := Lib.hid hn4
    clear p0 p1 p2 p3 hb4 hn4 ha4 hc4 hW3
    obtain ⟨p0, p1, p2, p3, -⟩ := hK4.out.four
    have hX4 := Lib.hid (Blk.new w4 26 #[.int .i64 m.W, .int .i64 m.H, .slice a4 m.R.length ca4, .slice b4 m.C.length cb4])
    have hZ4 := Lib.hid (show Below w4.heap.size w4 (w4.alloc (.cells #[.int .i64 m.W, .int .i64 m.H, .slice a4 m.R.length ca4, .slice b4 m.C.length cb4] 26)) from (Below.refl _ _).alloc (Nat.le_refl _) _)
    go_wp2_with fail
    refine (HI.out a4 b4 ca4 cb4 _ lR.out lC.out (RowAt.below (OwnI.row hA4.out) hZ4.out) (RowAt.below (OwnI.row hC4.out) hZ4.out)).mono ?_
    rintro e w5 ⟨v5, rfl, ho5, hb5⟩
    obtain ⟨a5, c5, rfl, ha5, hk5⟩ := OwnI.slice ho5
    have hO5 := Lib.hid ho5
    have hL5 := Lib.hid (show ∀ x, a5 = some x → w4.heap.size + 1 ≤ x.block from fun x e => by have := (hk5 x e).1; simpa using this)
    have hG5 := Lib.hid ha5
    clear ha5 hk5 ho5
    have hZ5 := Lib.hid (hZ4.out.trans (hb5.mono (by simp)))
    have hB5 := Lib.hid (hB4.out.trans (hZ5.out.mono hB4.out.size))
    have hK5 := Lib.hid (hK4.out.later hZ5.out)
    have hW5 := Lib.hid (RowAt.below hW4.out hZ5.out)
    have hX5 := Lib.hid (hX4.out.later hb5)
    have hA5 := Lib.hid (hA4.out.below hZ5.out)
    have hC5 := Lib.hid (hC4.out.below hZ5.out)
    clear p0 p1 p2 p3 hb5 hW4
    go_wp2_with fail
    refine (IntS.eq_same a5 a3 c5 c3 zs w5 hG5.out hW5.out hzl).mono ?_
    rintro e w5e ⟨rfl, hb5e⟩
    have hBe := Lib.hid (hB5.out.trans (hb5e.mono hB5.out.size))
    have hKe := Lib.hid (hK5.out.later hb5e)
    have hXe := Lib.hid (hX5.out.later hb5e)
    have hAe := Lib.hid (hA5.out.below hb5e)
    have hCe := Lib.hid (hC5.out.below hb5e)
    have hWe := Lib.hid (RowAt.below hW5.out hb5e)
    have hGe := Lib.hid (hO5.out.below hb5e)
    clear hb5e hG5 hO5 hW5 hA5 hC5 hX5 hK5 hB5
    have hz := hXe.out.lt
    obtain ⟨p0, p1, p2, p3, -⟩ := hKe.out.four
    obtain ⟨q0, q1, q2, q3, -⟩ := hXe.out.four
    have hBd := Lib.hid (show Below W.heap.size W w5e.drew from hBe.out.drew)
    have hXd := Lib.hid (show Blk w5e.drew w4.heap.size 26 #[.int .i64 m.W, .int .i64 m.H, .slice a4 m.R.length ca4, .slice b4 m.C.length cb4] from hXe.out)
    have hKd := Lib.hid (show Blk w5e.drew W.heap.size 48 #[.int .i64 m.W, .int .i64 m.H, .slice a m.R.length ca, .slice b m.C.length cb] from hKe.out)
    have hAd := Lib.hid (show OwnI w5e.drew w3.heap.size (.slice a4 m.R.length ca4) m.R from hAe.out)
    have hCd := Lib.hid (show OwnI w5e.drew w3.heap.size (.slice b4 m.C.length cb4) m.C from hCe.out)
    have hWd := Lib.hid (show IRow w5e.drew a3 zs from hWe.out)
    have hGd := Lib.hid (show OwnI w5e.drew (w4.heap.size + 1) (.slice a5 zs.length c5) zs from by have := hGe.out; rwa [World.size_alloc] at this)
    go_upto_region 10 with (fail)
    go_cut [53] from 49 (fun s wx => s = .bool false ∧ Kp W m a ca b cb a4 ca4 b4 cb4 a3 a5 c5 zs w3.heap.size w4.heap.size wx)
    case first =>
      go_region_with (first
        | (go_at_call 44; refine (MapS.to_any m a b ca cb _ (RowAt.below hR.out hBd.out) (RowAt.below hC.out hBd.out) hsm).mono ?_; rintro e w6 ⟨⟨v, rfl, ho6⟩, hb6⟩; obtain ⟨a6, ca6, b6, cb6, rfl, ha6, hc6, hn6⟩ := ho6; have hB6 := Lib.hid (hBd.out.trans (hb6.mono hBd.out.size)); obtain ⟨r0, r1, r2, r3, -⟩ := (hXd.out.later hb6).four; have hX6 := Lib.hid (hXd.out.later hb6); have hK6 := Lib.hid (hKd.out.later hb6); have hA6 := Lib.hid (hAd.out.below hb6); have hC6 := Lib.hid (hCd.out.below hb6); have hW6 := Lib.hid (RowAt.below hWd.out hb6); have hG6 := Lib.hid (hGd.out.below hb6); have hD6 := Lib.hid ha6; have hE6 := Lib.hid hc6; clear ha6 hc6 hn6 hb6)
        | (go_at_call 46; refine (MapS.eq_same m _ _ _ _ _ _ _ _ _ (OwnI.row hA6.out) (OwnI.row hC6.out) (OwnI.row hD6.out) (OwnI.row hE6.out) lR.out lC.out).mono ?_; rintro e w7 ⟨rfl, hb7⟩; have hB7 := Lib.hid (hB6.out.trans (hb7.mono hB6.out.size)); have hX7 := Lib.hid (hX6.out.later hb7); have hK7 := Lib.hid (hK6.out.later hb7); have hA7 := Lib.hid (hA6.out.below hb7); have hC7 := Lib.hid (hC6.out.below hb7); have hW7 := Lib.hid (RowAt.below hW6.out hb7); have hG7 := Lib.hid (hG6.out.below hb7); clear hb7))
      all_goals go_wp2_with fail
      all_goals go_meet
      all_goals exact ⟨rfl, hB7.out, hX7.out, hK7.out, hA7.out, hC7.out, hW7.out, hG7.out⟩
    case rest =>
    obtain ⟨rfl, hP⟩ := hcut
    have hB7 := Lib.hid hP.hb
    have hX7 := Lib.hid hP.hx
    have hK7 := Lib.hid hP.hk
    have hA7 := Lib.hid hP.hr
    have hC7 := Lib.hid hP.hc
    have hW7 := Lib.hid hP.hw
    have hG7 := Lib.hid hP.hg
    clear hP p0 p1 p2 p3 q0 q1 q2 q3 hBd hXd hKd hAd hCd hWd hGd hBe hKe hXe hAe hCe hWe hGe hz
    obtain ⟨q0, q1, q2, q3, -⟩ := hX7.out.four
    have hs3 := hB3.out.size
    have hs4 := hS4.out
    have hs7 := hX7.out.lt
    go_wp2_with fail
    refine (MapS.mark_any m a4 b4 ca4 cb4 w3.heap.size w4.heap.size wc wc hA7.out hC7.out hN4.out (fun x e => (OwnI.lt hA4.out x e).2) (fun x e => (OwnI.lt hC4.out x e).2) hsm (by omega)).mono ?_
    rintro e w8 ⟨rfl, -, -, hc8⟩
    have hB8 := Lib.hid (hB7.out.trans ((hc8.below (by omega)).mono hs3))
    have hK8 := Lib.hid (show Blk w8 W.heap.size 48 #[.int .i64 m.W, .int .i64 m.H, .slice a m.R.length ca, .slice b m.C.length cb] from (hc8.block W.heap.size hK7.out.lt (.inl (by have := hK3.out.lt; omega))).trans hK7.out)
    have hW8 := Lib.hid (hc8.row hW7.out (fun p e => .inl (hL3.out p e)))
    have hG8 := Lib.hid (hc8.own hG7.out (fun p e => .inr (by have := hL5.out p e; omega)))
    clear hc8 q0 q1 q2 q3 hB7 hX7 hK7 hA7 hC7 hW7 hG7 hA4 hC4 hN4 hX4 hZ4 hZ5
    go_wp2_with fail
    refine (IntS.eq_same a5 a3 c5 c3 zs w8 (OwnI.row hG8.out) hW8.out hzl).mono ?_
    rintro e w8e ⟨rfl, hb8e⟩
    have hB8e := Lib.hid (hB8.out.trans (hb8e.mono hB8.out.size))
    have hK8e := Lib.hid (hK8.out.later hb8e)
    have hW8e := Lib.hid (RowAt.below hW8.out hb8e)
    have hG8e := Lib.hid (hG8.out.below hb8e)
    clear hb8e hB8 hK8 hW8 hG8
    go_wp2_with fail
    refine (IntS.mark_any (w4.heap.size + 1) a5 c5 zs 1 w8e hG8e.out (by omega) (by omega)).mono ?_
    rintro e w9 ⟨rfl, hm9, hg9⟩
    have hO9b : ∀ k, (Value.slice a5 zs.length c5).ownBlock = some k → w4.heap.size + 1 ≤ k := fun k e => by
      cases a5 with
      | none => cases e
      | some x =>
        obtain rfl : x.block = k := by simpa [Value.ownBlock] using e
        exact hL5.out x rfl
    have hM9 := Lib.hid (mark_row hm9)
    have hB9 := Lib.hid (hB8e.out.grown hg9 hB8e.out.size (fun k e => by have := hO9b k e; omega))
    have hK9 := Lib.hid (show Blk w9 W.heap.size 48 #[.int .i64 m.W, .int .i64 m.H, .slice a m.R.length ca, .slice b m.C.length cb] from (hg9.block W.heap.size hK8e.out.lt (fun e => by have := hO9b _ e.symm; omega)).trans hK8e.out)
    have hW9 := Lib.hid (row_beside hW8e.out hg9 (fun x e e2 => by have := hO9b _ e2; have := hL3.out x e; omega))
    clear hm9 hg9 hO9b hB8e hK8e hW8e hG8e
    go_wp2_with fail
    refine (IntS.held_any a5 c5 zs.length 1 w9 hM9.out (by omega) (by omega)).mono ?_
    rintro e w9' ⟨rfl, rfl⟩
    obtain ⟨p0, p1, p2, p3, -⟩ := hK9.out.four
    go_wp2_with fail
    refine (MapS.to_any m a b ca cb _ (RowAt.below hR.out hB9.out) (RowAt.below hC.out hB9.out) hsm).mono ?_
    rintro e w10 ⟨⟨v, rfl, ho10⟩, hb10⟩
    obtain ⟨a10, ca10, b10, cb10, rfl, ha10, hc10, hn10⟩ := ho10
    have hB10 := Lib.hid (hB9.out.trans (hb10.mono hB9.out.size))
    have hW10 := Lib.hid (RowAt.below hW9.out hb10)
    have hM10 := Lib.hid (RowAt.below hM9.out hb10)
    clear p0 p1 p2 p3 hb10 hn10 hW9 hM9 hK9 hB9
    go_wp2_with fail
    refine (HI.out a10 b10 ca10 cb10 _ lR.out lC.out (OwnI.row ha10) (OwnI.row hc10)).mono ?_
    rintro e w12 ⟨v12, rfl, ho12, hb12⟩
    obtain ⟨a12, c12, rfl, ha12, hk12⟩ := OwnI.slice ho12
    have hO12 := Lib.hid ho12
    clear ha12 hk12 ho12
    have hB12 := Lib.hid (hB10.out.trans (hb12.mono hB10.out.size))
    have hW12 := Lib.hid (RowAt.below hW10.out hb12)
    have hM12 := Lib.hid (RowAt.below hM10.out hb12)
    clear hb12 ha10 hc10 hW10 hM10 hB10
    go_wp2_with fail
    refine (IntS.eq_same a12 a3 c12 c3 zs w12 (OwnI.row hO12.out) hW12.out hzl).mono ?_
    rintro e w12e ⟨rfl, hb12e⟩
    have hB13 := Lib.hid (hB12.out.trans (hb12e.mono hB12.out.size))
    have hM13 := Lib.hid (RowAt.below hM12.out hb12e)
    clear hb12e hB12 hM12
    go_wp2_with fail
    refine (IntS.held_any a5 c5 zs.length 1 _ hM13.out (by omega) (by omega)).mono ?_
    rintro e w9' ⟨rfl, rfl⟩
    go_wp2
    go_ret
    exact ⟨rfl, hB13.out⟩

end Go.Proofs.Ytbcoacbablaagaa.WinL
