/- 'FnExactOpenParts' answers as its model, at every argument, in memory of its own: the walk of the law. -/
import Derived.Test.YtijcdnmcmngheaaPrtO
import Derived.Test.YtijcdnmcmngheaaMapO
namespace Go.Proofs.Ytijcdnmcmngheaa.PrtL
open Go.RowKit Lb IntS MapS MapV MapO SpecB TblS PrtB
set_option linter.unusedSimpArgs false
set_option linter.unusedVariables false

/-- What stands when both answers have been compared. -/
structure Kp (W : World) (m : Mp) (a : Option Addr) (ca : Nat) (b : Option Addr) (cb : Nat) (a4 : Option Addr) (ca4 : Nat) (b4 : Option Addr) (cb4 : Nat) (s2 : Nat) (a3 : Option Addr) (c3 : Nat) (rs3 : Nat → Value) (a5 : Option Addr) (c5 : Nat) (rs5 : Nat → Value) (n : Nat) (zs : Nat → List Int) (s3 s4 : Nat) (wx : World) : Prop where
  hb : Below W.heap.size W wx
  hx : Blk wx s4 26 #[.int .i64 m.W, .int .i64 m.H, .slice a4 m.R.length ca4, .slice b4 m.C.length cb4]
  hk : Blk wx W.heap.size 51 #[.int .i64 m.W, .int .i64 m.H, .slice a m.R.length ca, .slice b m.C.length cb]
  hr : OwnI wx s3 (.slice a4 m.R.length ca4) m.R
  hc : OwnI wx s3 (.slice b4 m.C.length cb4) m.C
  hw : OwnP wx s2 (.slice a3 n c3) n zs rs3
  hg : OwnP wx (s4 + 1) (.slice a5 n c5) n zs rs5

theorem own_keep {w w' : World} {base : Nat} {e : TypeId} {v : Value} {n : Nat} {xs : List Value} (h : w.ownsRow base e 1 v n xs) (hk : ∀ x, v.ownBlock = some x → x < w.heap.size → w'.heap[x]? = w.heap[x]?) : w'.ownsRow base e 1 v n xs := by
  have hlt := h.lt
  refine ⟨h.1, ?_⟩
  rcases h.2 with h2 | ⟨g, c, cur, hv, hg, hh, r⟩
  · exact .inl h2
  · have e1 : v.ownBlock = some g := by rw [hv]; simp [Value.ownBlock]
    exact .inr ⟨g, c, cur, hv, hg, (hk g e1 (hlt g e1).2).trans hh, r⟩
/-- Where a table lies. -/
def InB (lo hi : Nat) (v : Value) (n : Nat) (rs : Nat → Value) : Prop := (∀ x, v.ownBlock = some x → lo ≤ x ∧ x < hi) ∧ ∀ i, i < n → ∀ x, (rs i).ownBlock = some x → lo ≤ x ∧ x < hi
theorem inB_of {w : World} {base n : Nat} {v : Value} {zs : Nat → List Int} {rs : Nat → Value} (h : OwnP w base v n zs rs) : InB base w.heap.size v n rs := ⟨fun x e => h.tbl.lt x e, fun i hi x e => (h.row i hi).lt x e⟩
theorem keep_of {w w' : World} {base n : Nat} {v : Value} {zs : Nat → List Int} {rs : Nat → Value} (h : OwnP w base v n zs rs) (hk : ∀ x, (v.ownBlock = some x ∨ ∃ i, i < n ∧ (rs i).ownBlock = some x) → x < w.heap.size → w'.heap[x]? = w.heap[x]?) : OwnP w' base v n zs rs :=
  ⟨own_keep h.tbl fun x e hl => hk x (.inl e) hl, fun i hi => own_keep (h.row i hi) fun x e hl => hk x (.inr ⟨i, hi, e⟩) hl, h.ne⟩
theorem chg_of {w w' : World} {base n lo hi l h' : Nat} {v : Value} {zs : Nat → List Int} {rs : Nat → Value} (h : OwnP w base v n zs rs) (hc : Chg lo hi w w') (hb : InB l h' v n rs) (hd : h' ≤ lo ∨ hi ≤ l) : OwnP w' base v n zs rs :=
  keep_of h fun x hx hl => hc.block x hl (by
    have : l ≤ x ∧ x < h' := by
      rcases hx with hx | ⟨i, hi, hx⟩
      · exact hb.1 x hx
      · exact hb.2 i hi x hx
    omega)
theorem low_of {w w' : World} {base n B l h' : Nat} {v : Value} {zs : Nat → List Int} {rs : Nat → Value} (h : OwnP w base v n zs rs) (hB : Below B w w') (hb : InB l h' v n rs) (hd : h' ≤ B) : OwnP w' base v n zs rs :=
  keep_of h fun x hx hl => hB.block x (by
    have : l ≤ x ∧ x < h' := by
      rcases hx with hx | ⟨i, hi, hx⟩
      · exact hb.1 x hx
      · exact hb.2 i hi x hx
    omega)

set_option maxHeartbeats 4000000 in
theorem law_any (W : World) (m : Mp) (a : Option Addr) (ca : Nat) (b : Option Addr) (cb : Nat) (hi : IsMp W m a b) :
    Calls Try.prog 8 #[.agg #[.int .i64 m.W, .int .i64 m.H, .slice a m.R.length ca, .slice b m.C.length cb]] W fun e w' => e = .returned (.bool true) ∧ Below W.heap.size W w' := by
  have hB := Lib.hid (show Below W.heap.size W (W.alloc (.cells #[.int .i64 m.W, .int .i64 m.H, .slice a m.R.length ca, .slice b m.C.length cb] 51)) from (Below.refl _ _).alloc (Nat.le_refl _) _)
  have hK := Lib.hid (Blk.new W 51 #[.int .i64 m.W, .int .i64 m.H, .slice a m.R.length ca, .slice b m.C.length cb])
  have hR := Lib.hid hi.R
  have hC := Lib.hid hi.C
  have lR := Lib.hid hi.lR
  have lC := Lib.hid hi.lC
  clear hi
  by_cases hbig : 1048576 < m.R.length + m.C.length
  · go_enter Try.func8, Try.ntmps8
    go_wp2_with fail
    refine (MapS.sz_no m a b ca cb _ lR.out lC.out hbig).mono ?_
    rintro e w1 ⟨rfl, hb1⟩
    go_wp2
    go_ret
    exact ⟨rfl, hB.out.trans (hb1.mono (by simp))⟩
  · have hsm : m.R.length + m.C.length ≤ 1048576 := by omega
    obtain ⟨n, zs, ok, hlen, hz36, hS, hI⟩ := PrtO.both_v m
    have hzl : n ≤ maxLen := by unfold maxLen; omega
    have hzz : ∀ i, i < n → (zs i).length ≤ maxLen := fun i _ => by have := hz36 i; unfold maxLen; omega
    have htot := tot_le (zs := zs) (n := n) (c := 36) fun i _ => hz36 i
    have htot2 : tot zs n ≤ 1296 := by omega
    have HZZ := Lib.hid hzz
    clear hz36 hzz htot
    have HS := Lib.hid hS
    have HI := Lib.hid hI
    clear hS hI
    go_enter Try.func8, Try.ntmps8
    go_wp2_with fail
    refine (MapS.sz_yes m a b ca cb _ hsm).mono ?_
    rintro e w1 ⟨rfl, hb1⟩
    have hB1 := Lib.hid (hB.out.trans (hb1.mono (by simp)))
    have hK1 := Lib.hid (hK.out.later hb1)
    clear hb1
    obtain ⟨p0, p1, p2, p3, -⟩ := hK1.out.four
    go_wp2_with fail
    refine (MapS.to_any m a b ca cb _ (RowAt.below hR.out hB1.out) (RowAt.below hC.out hB1.out) hsm).mono ?_
    rintro e w2 ⟨⟨v, rfl, ho2⟩, hb2⟩
    obtain ⟨a2, ca2, b2, cb2, rfl, ha2, hc2, hn2⟩ := ho2
    have hB2 := Lib.hid (hB1.out.trans (hb2.mono hB1.out.size))
    have hK2 := Lib.hid (hK1.out.later hb2)
    clear p0 p1 p2 p3 hb2 hn2
    go_wp2_with fail
    refine (HS.out a2 b2 ca2 cb2 _ lR.out lC.out (OwnI.row ha2) (OwnI.row hc2)).mono ?_
    rintro e w3 ⟨v3, rs3, rfl, ho3, hb3⟩
    obtain ⟨a3, c3, rfl⟩ := ho3.slice
    have hW3 := Lib.hid ho3
    have hL3 := Lib.hid (inB_of ho3)
    clear ho3
    have hB3 := Lib.hid (hB2.out.trans (hb3.mono hB2.out.size))
    have hK3 := Lib.hid (hK2.out.later hb3)
    clear hb3 ha2 hc2
    obtain ⟨p0, p1, p2, p3, -⟩ := hK3.out.four
    go_wp2_with fail
    refine (MapS.to_any m a b ca cb _ (RowAt.below hR.out hB3.out) (RowAt.below hC.out hB3.out) hsm).mono ?_
    rintro e w4 ⟨⟨v, rfl, ho4⟩, hb4⟩
    obtain ⟨a4, ca4, b4, cb4, rfl, ha4, hc4, hn4⟩ := ho4
    have hB4 := Lib.hid (hB3.out.trans (hb4.mono hB3.out.size))
    have hK4 := Lib.hid (hK3.out.later hb4)
    have hW4 := Lib.hid (hW3.out.below hb4)
    have hS4 := Lib.hid hb4.size
    have hA4 := Lib.hid ha4
    have hC4 := Lib.hid hc4
    have hN4 := Lib.hid hn4
    clear p0 p1 p2 p3 hb4 hn4 ha4 hc4 hW3
    obtain ⟨p0, p1, p2, p3, -⟩ := hK4.out.four
    have hX4 := Lib.hid (Blk.new w4 26 #[.int .i64 m.W, .int .i64 m.H, .slice a4 m.R.length ca4, .slice b4 m.C.length cb4])
    have hZ4 := Lib.hid (show Below w4.heap.size w4 (w4.alloc (.cells #[.int .i64 m.W, .int .i64 m.H, .slice a4 m.R.length ca4, .slice b4 m.C.length cb4] 26)) from (Below.refl _ _).alloc (Nat.le_refl _) _)
    go_wp2_with fail
    refine (HI.out a4 b4 ca4 cb4 _ lR.out lC.out (RowAt.below (OwnI.row hA4.out) hZ4.out) (RowAt.below (OwnI.row hC4.out) hZ4.out)).mono ?_
    rintro e w5 ⟨v5, rs5, rfl, ho5, hb5⟩
    obtain ⟨a5, c5, rfl⟩ := ho5.slice
    rw [World.size_alloc] at ho5
    have hO5 := Lib.hid ho5
    have hL5 := Lib.hid (inB_of ho5)
    have hs5 := Lib.hid (show w4.heap.size + 1 ≤ w5.heap.size from by have := hb5.size; simpa using this)
    clear ho5
    have hZ5 := Lib.hid (hZ4.out.trans (hb5.mono (by simp)))
    have hB5 := Lib.hid (hB4.out.trans (hZ5.out.mono hB4.out.size))
    have hK5 := Lib.hid (hK4.out.later hZ5.out)
    have hW5 := Lib.hid (hW4.out.below hZ5.out)
    have hX5 := Lib.hid (hX4.out.later hb5)
    have hA5 := Lib.hid (hA4.out.below hZ5.out)
    have hC5 := Lib.hid (hC4.out.below hZ5.out)
    clear p0 p1 p2 p3 hb5 hW4
    go_wp2_with fail
    refine (TblS.eq_same a5 a3 c5 c3 n zs w5 hO5.out.rd hW5.out.rd hzl HZZ.out).mono ?_
    rintro e w5e ⟨rfl, hb5e⟩
    have hBe := Lib.hid (hB5.out.trans (hb5e.mono hB5.out.size))
    have hKe := Lib.hid (hK5.out.later hb5e)
    have hXe := Lib.hid (hX5.out.later hb5e)
    have hAe := Lib.hid (hA5.out.below hb5e)
    have hCe := Lib.hid (hC5.out.below hb5e)
    have hWe := Lib.hid (hW5.out.below hb5e)
    have hGe := Lib.hid (hO5.out.below hb5e)
    clear hb5e hO5 hW5 hA5 hC5 hX5 hK5 hB5
    have hz := hXe.out.lt
    obtain ⟨p0, p1, p2, p3, -⟩ := hKe.out.four
    obtain ⟨q0, q1, q2, q3, -⟩ := hXe.out.four
    have hBd := Lib.hid (show Below W.heap.size W w5e.drew from hBe.out.drew)
    have hXd := Lib.hid (show Blk w5e.drew w4.heap.size 26 #[.int .i64 m.W, .int .i64 m.H, .slice a4 m.R.length ca4, .slice b4 m.C.length cb4] from hXe.out)
    have hKd := Lib.hid (show Blk w5e.drew W.heap.size 51 #[.int .i64 m.W, .int .i64 m.H, .slice a m.R.length ca, .slice b m.C.length cb] from hKe.out)
    have hAd := Lib.hid (show OwnI w5e.drew w3.heap.size (.slice a4 m.R.length ca4) m.R from hAe.out)
    have hCd := Lib.hid (show OwnI w5e.drew w3.heap.size (.slice b4 m.C.length cb4) m.C from hCe.out)
    have hWd := Lib.hid (show OwnP w5e.drew w2.heap.size (.slice a3 n c3) n zs rs3 from ⟨hWe.out.tbl, hWe.out.row, hWe.out.ne⟩)
    have hGd := Lib.hid (show OwnP w5e.drew (w4.heap.size + 1) (.slice a5 n c5) n zs rs5 from ⟨hGe.out.tbl, hGe.out.row, hGe.out.ne⟩)
    go_upto_region 10 with (fail)
    go_cut [45] from 41 (fun s wx => s = .bool false ∧ Kp W m a ca b cb a4 ca4 b4 cb4 w2.heap.size a3 c3 rs3 a5 c5 rs5 n zs w3.heap.size w4.heap.size wx)
    case first =>
      go_region_with (first
        | (go_at_call 45; refine (MapS.to_any m a b ca cb _ (RowAt.below hR.out hBd.out) (RowAt.below hC.out hBd.out) hsm).mono ?_; rintro e w6 ⟨⟨v, rfl, ho6⟩, hb6⟩; obtain ⟨a6, ca6, b6, cb6, rfl, ha6, hc6, hn6⟩ := ho6; have hB6 := Lib.hid (hBd.out.trans (hb6.mono hBd.out.size)); obtain ⟨r0, r1, r2, r3, -⟩ := (hXd.out.later hb6).four; have hX6 := Lib.hid (hXd.out.later hb6); have hK6 := Lib.hid (hKd.out.later hb6); have hA6 := Lib.hid (hAd.out.below hb6); have hC6 := Lib.hid (hCd.out.below hb6); have hW6 := Lib.hid (hWd.out.below hb6); have hG6 := Lib.hid (hGd.out.below hb6); have hD6 := Lib.hid ha6; have hE6 := Lib.hid hc6; clear ha6 hc6 hn6 hb6)
        | (go_at_call 46; refine (MapS.eq_same m _ _ _ _ _ _ _ _ _ (OwnI.row hA6.out) (OwnI.row hC6.out) (OwnI.row hD6.out) (OwnI.row hE6.out) lR.out lC.out).mono ?_; rintro e w7 ⟨rfl, hb7⟩; have hB7 := Lib.hid (hB6.out.trans (hb7.mono hB6.out.size)); have hX7 := Lib.hid (hX6.out.later hb7); have hK7 := Lib.hid (hK6.out.later hb7); have hA7 := Lib.hid (hA6.out.below hb7); have hC7 := Lib.hid (hC6.out.below hb7); have hW7 := Lib.hid (hW6.out.below hb7); have hG7 := Lib.hid (hG6.out.below hb7); clear hb7))
      all_goals go_wp2_with fail
      all_goals go_meet
      all_goals exact ⟨rfl, hB7.out, hX7.out, hK7.out, hA7.out, hC7.out, hW7.out, hG7.out⟩
    case rest =>
    obtain ⟨rfl, hP⟩ := hcut
    have hB7 := Lib.hid hP.hb
    have hX7 := Lib.hid hP.hx
    have hK7 := Lib.hid hP.hk
    have hA7 := Lib.hid hP.hr
    have hC7 := Lib.hid hP.hc
    have hW7 := Lib.hid hP.hw
    have hG7 := Lib.hid hP.hg
    clear hP p0 p1 p2 p3 q0 q1 q2 q3 hBd hXd hKd hAd hCd hWd hGd hBe hKe hXe hAe hCe hWe hGe hz
    obtain ⟨q0, q1, q2, q3, -⟩ := hX7.out.four
    have hs3 := hB3.out.size
    have hs4 := hS4.out
    have hs7 := hX7.out.lt
    go_wp2_with fail
    refine (MapS.mark_any m a4 b4 ca4 cb4 w3.heap.size w4.heap.size wc wc hA7.out hC7.out hN4.out (fun x e => (OwnI.lt hA4.out x e).2) (fun x e => (OwnI.lt hC4.out x e).2) hsm (by omega)).mono ?_
    rintro e w8 ⟨rfl, -, -, hc8⟩
    have hB8 := Lib.hid (hB7.out.trans ((hc8.below (by omega)).mono hs3))
    have hK8 := Lib.hid (show Blk w8 W.heap.size 51 #[.int .i64 m.W, .int .i64 m.H, .slice a m.R.length ca, .slice b m.C.length cb] from (hc8.block W.heap.size hK7.out.lt (.inl (by have := hK3.out.lt; omega))).trans hK7.out)
    have hW8 := Lib.hid (chg_of hW7.out hc8 hL3.out (.inl (Nat.le_refl _)))
    have hG8 := Lib.hid (chg_of hG7.out hc8 hL5.out (.inr (by omega)))
    have hs58 := Lib.hid (show w4.heap.size + 1 ≤ w8.heap.size from by have := hc8.size; have := hs7; omega)
    clear hc8 q0 q1 q2 q3 hB7 hX7 hK7 hA7 hC7 hW7 hG7 hA4 hC4 hN4 hX4 hZ4 hZ5
    go_wp2_with fail
    have hz8 := Lib.hid (show w4.heap.size + 1 ≤ w8.heap.size from by have := hB8.out.size; have := hs58.out; omega)
    refine (TblS.eq_same a5 a3 c5 c3 n zs w8 hG8.out.rd hW8.out.rd hzl HZZ.out).mono ?_
    rintro e w8e ⟨rfl, hb8e⟩
    have hB8e := Lib.hid (hB8.out.trans (hb8e.mono hB8.out.size))
    have hK8e := Lib.hid (hK8.out.later hb8e)
    have hW8e := Lib.hid (hW8.out.below hb8e)
    have hz8e := Lib.hid (show w4.heap.size + 1 ≤ w8e.heap.size from by have := hb8e.size; have := hz8.out; omega)
    have hG8e := Lib.hid (hG8.out.below hb8e)
    clear hb8e hB8 hK8 hW8 hG8
    go_wp2_with fail
    refine (TblS.mark_any (w4.heap.size + 1) a5 c5 n zs rs5 1 w8e hG8e.out hz8e.out hzl (by omega) (by omega)).mono ?_
    rintro e w9 ⟨rfl, hm9, hg9⟩
    have hM9 := Lib.hid hm9.rd
    have hB9 := Lib.hid (hB8e.out.trans (hg9.mono (by omega)))
    have hK9 := Lib.hid (hK8e.out.below hg9 (by omega))
    have hW9 := Lib.hid (low_of hW8e.out hg9 hL3.out (by omega))
    clear hm9 hg9 hB8e hK8e hW8e hG8e
    go_wp2_with fail
    refine (TblS.held_any a5 c5 n zs 1 w9 hM9.out hzl (by omega) (by omega)).mono ?_
    rintro e w9' ⟨rfl, rfl⟩
    obtain ⟨p0, p1, p2, p3, -⟩ := hK9.out.four
    go_wp2_with fail
    refine (MapS.to_any m a b ca cb _ (RowAt.below hR.out hB9.out) (RowAt.below hC.out hB9.out) hsm).mono ?_
    rintro e w10 ⟨⟨v, rfl, ho10⟩, hb10⟩
    obtain ⟨a10, ca10, b10, cb10, rfl, ha10, hc10, hn10⟩ := ho10
    have hB10 := Lib.hid (hB9.out.trans (hb10.mono hB9.out.size))
    have hW10 := Lib.hid (hW9.out.below hb10)
    have hM10 := Lib.hid (hM9.out.below hb10)
    clear p0 p1 p2 p3 hb10 hn10 hW9 hM9 hK9 hB9
    go_wp2_with fail
    refine (HI.out a10 b10 ca10 cb10 _ lR.out lC.out (OwnI.row ha10) (OwnI.row hc10)).mono ?_
    rintro e w12 ⟨v12, rs12, rfl, ho12, hb12⟩
    obtain ⟨a12, c12, rfl⟩ := ho12.slice
    have hO12 := Lib.hid ho12
    clear ho12
    have hB12 := Lib.hid (hB10.out.trans (hb12.mono hB10.out.size))
    have hW12 := Lib.hid (hW10.out.below hb12)
    have hM12 := Lib.hid (hM10.out.below hb12)
    clear hb12 ha10 hc10 hW10 hM10 hB10
    go_wp2_with fail
    refine (TblS.eq_same a12 a3 c12 c3 n zs w12 hO12.out.rd hW12.out.rd hzl HZZ.out).mono ?_
    rintro e w12e ⟨rfl, hb12e⟩
    have hB13 := Lib.hid (hB12.out.trans (hb12e.mono hB12.out.size))
    have hM13 := Lib.hid (hM12.out.below hb12e)
    clear hb12e hB12 hM12
    go_wp2_with fail
    refine (TblS.held_any a5 c5 n zs 1 _ hM13.out hzl (by omega) (by omega)).mono ?_
    rintro e w9' ⟨rfl, rfl⟩
    go_wp2
    go_ret
    exact ⟨rfl, hB13.out⟩

end Go.Proofs.Ytijcdnmcmngheaa.PrtL
