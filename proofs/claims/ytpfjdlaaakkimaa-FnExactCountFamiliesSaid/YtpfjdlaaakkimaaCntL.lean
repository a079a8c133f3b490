/- 'FnExactCountFamilies' answers as its model, at every argument, in memory of its own: the walk of the law. -/
import Derived.Test.YtpfjdlaaakkimaaCntS
import Derived.Test.YtpfjdlaaakkimaaFtK
import Derived.Test.YtpfjdlaaakkimaaIntE
import Derived.Test.YtpfjdlaaakkimaaFsO
namespace Go.Proofs.Ytpfjdlaaakkimaa.CntL
open Go.RowKit Lb Bk FtS FtL CntI FsO
open IntS (OwnI IRow markZ)
set_option linter.unusedSimpArgs false
set_option linter.unusedVariables false

theorem own_i {w : World} {base : Nat} {v : Value} {zs : List Int} (h : w.ownsRow base 3 1 v zs.length (zs.map (Value.int .i64))) : OwnI w base v zs := h

theorem MapS_row {w : World} {base : Nat} {a : Option Addr} {cap : Nat} {zs : List Int} (h : OwnI w base (.slice a zs.length cap) zs) : IRow w a zs := by
  obtain ⟨a', c', e, hr, _⟩ := IntS.OwnI.slice h
  cases e; exact hr
theorem mark_row {w : World} {base : Nat} {a : Option Addr} {cap n : Nat} {k : Int} (h : OwnI w base (.slice a n cap) (markZ k n)) : RowAt w a n (fun j => .int .i64 (k + j)) := by
  have h' : OwnI w base (.slice a (markZ k n).length cap) (markZ k n) := by rw [IntS.markZ_length]; exact h
  have := MapS_row h'
  unfold IRow at this
  rw [IntS.markZ_length] at this
  exact this.congr fun j hj => by rw [IntS.markZ_at _ _ _ hj]

set_option maxHeartbeats 4000000 in
theorem law_any (W : World) (a : Option Addr) (n cap : Nat) (h : Nat → Ft) (hi : IsFs W a n h) :
    Calls Try.prog 8 #[.slice a n cap] W fun e w' => e = .returned (.bool true) ∧ Below W.heap.size W w' := by
  have hR := Lib.hid hi.R
  have hF := Lib.hid hi.f
  have hL := Lib.hid hi.l
  clear hi
  go_enter Try.func8, Try.ntmps8
  go_wp2_with fail
  refine (szS_any a cap n h _ _ hR.out hF.out hL.out (by decide) (by decide)).mono ?_
  rintro e w1 ⟨⟨r, rfl, hr⟩, hb1⟩
  have hB1 := Lib.hid hb1
  clear hb1
  rcases hr with rfl | ⟨h0, hr⟩
  · go_wp2
    go_ret
    exact ⟨rfl, hB1.out⟩
  have ht := totF_nn h n
  have hn : n ≤ 1048576 := by omega
  have hneg : decide (r < 0) = false := decide_eq_false (by omega)
  clear hr ht
  obtain ⟨zs, ok, hzl, hS, hI⟩ := CntS.both n h hn
  have HS := Lib.hid hS
  have HI := Lib.hid hI
  have hzm : zs.length ≤ maxLen := by unfold maxLen; omega
  clear hS hI
  go_wp2_with fail
  refine (toS_any a cap n h _ (hR.out.later hB1.out) hn).mono ?_
  rintro e w2 ⟨g2, rfl, ho2, -, hb2⟩
  have hB2 := Lib.hid (hB1.out.trans (hb2.mono hB1.out.size))
  clear hb2
  go_wp2_with fail
  refine (HS.out _ _ _ ho2.row).mono ?_
  rintro e w3 ⟨v3, rfl, ho3, hb3⟩
  obtain ⟨a3, c3, rfl, ha3, hk3⟩ := IntS.OwnI.slice (own_i ho3)
  have hW3 := Lib.hid ha3
  have hL3 := Lib.hid (show ∀ x, a3 = some x → x.block < w3.heap.size from fun x e => (hk3 x e).2)
  have hB3 := Lib.hid (hB2.out.trans (hb3.mono hB2.out.size))
  clear hb3 ha3 hk3 ho3 ho2
  go_wp2_with fail
  refine (toS_any a cap n h _ (hR.out.later hB3.out) hn).mono ?_
  rintro e w4 ⟨g4, rfl, ho4, hg4, hb4⟩
  have hB4 := Lib.hid (hB3.out.trans (hb4.mono hB3.out.size))
  have hW4 := Lib.hid (RowAt.below hW3.out hb4)
  have hO4 := Lib.hid ho4
  have hlt4 := Lib.hid ho4.lt
  have hs4 := Lib.hid hb4.size
  clear hb4 ho4 hW3
  go_wp2_with fail
  refine (HI.out _ _ _ hO4.out.row).mono ?_
  rintro e w5 ⟨v5, rfl, ho5, hb5⟩
  obtain ⟨a5, c5, rfl, ha5, hk5⟩ := IntS.OwnI.slice (own_i ho5)
  have hO5 := Lib.hid (own_i ho5)
  have hL5 := Lib.hid (show ∀ x, a5 = some x → w4.heap.size ≤ x.block from fun x e => (hk5 x e).1)
  have hG5 := Lib.hid ha5
  have hB5 := Lib.hid (hB4.out.trans (hb5.mono hB4.out.size))
  have hW5 := Lib.hid (RowAt.below hW4.out hb5)
  have hF5 := Lib.hid (hO4.out.later hb5)
  have hs5 := Lib.hid hb5.size
  clear ha5 hk5 ho5 hb5 hW4
  go_wp2_with fail
  refine (IntS.eq_same a5 a3 c5 c3 zs w5 hG5.out hW5.out hzm).mono ?_
  rintro e w6 ⟨rfl, hb6⟩
  have hB6 := Lib.hid (hB5.out.trans (hb6.mono hB5.out.size))
  have hW6 := Lib.hid (RowAt.below hW5.out hb6)
  have hO6 := Lib.hid (hO5.out.below hb6)
  have hF6 := Lib.hid (hF5.out.later hb6)
  have hs6 := Lib.hid (Nat.le_trans hs5.out hb6.size)
  clear hb6 hG5 hW5 hO5 hF5
  go_wp2_with fail
  refine (toS_any a cap n h _ (hR.out.later hB6.out) hn).mono ?_
  rintro e w7 ⟨g7, rfl, ho7, -, hb7⟩
  have hB7 := Lib.hid (hB6.out.trans (hb7.mono hB6.out.size))
  have hW7 := Lib.hid (RowAt.below hW6.out hb7)
  have hO7 := Lib.hid (hO6.out.below hb7)
  have hF7 := Lib.hid (hF6.out.later hb7)
  have hs7 := Lib.hid (Nat.le_trans hs6.out hb7.size)
  have hN7 := Lib.hid ho7
  clear hb7 ho7 hW6 hO6 hF6
  go_wp2_with fail
  refine (eqS_same _ _ _ _ n h _ hF7.out.row hN7.out.row hL.out).mono ?_
  rintro e w8 ⟨rfl, hb8⟩
  have hB8 := Lib.hid (hB7.out.trans (hb8.mono hB7.out.size))
  have hW8 := Lib.hid (RowAt.below hW7.out hb8)
  have hO8 := Lib.hid (hO7.out.below hb8)
  have hF8 := Lib.hid (hF7.out.later hb8)
  have hs8 := Lib.hid (Nat.le_trans hs7.out hb8.size)
  clear hb8 hW7 hO7 hF7 hN7
  go_wp2_with fail
  refine (FtK.mark_one g4 n n _ (FtK.Mk.of hF8.out) hn).mono ?_
  rintro e w9 ⟨rfl, hg9⟩
  have hB9 := Lib.hid (hB8.out.grown hg9 hB8.out.size (fun q e => by cases e; exact Nat.le_trans hB3.out.size hg4))
  have hW9 := Lib.hid (IntS.row_beside hW8.out hg9 (fun x ex e => by
    have h1 := hL3.out x ex
    have h3 : g4 = x.block := by simpa using e
    omega))
  have hO9 := Lib.hid (show OwnI w9 w4.heap.size (.slice a5 zs.length c5) zs from hO8.out.kept hg9 (by
    cases ea : a5 with
    | none => simp [Value.ownBlock]
    | some y =>
      have h2 := hL5.out y ea
      have h3 := hlt4.out
      refine .inr fun e => ?_
      have : y.block = g4 := by simpa [Value.ownBlock] using e
      omega))
  have hs9 := Lib.hid (Nat.le_trans hs8.out hg9.size)
  have hk9 : decide (((1 + 5 * n : Nat) : Int) < 0) = false := decide_eq_false (by omega)
  clear hg9 hW8 hO8 hF8
  go_wp2_with fail
  refine (IntS.eq_same a5 a3 c5 c3 zs w9 (MapS_row hO9.out) hW9.out hzm).mono ?_
  rintro e w10 ⟨rfl, hb10⟩
  have hB10 := Lib.hid (hB9.out.trans (hb10.mono hB9.out.size))
  have hW10 := Lib.hid (RowAt.below hW9.out hb10)
  have hO10 := Lib.hid (hO9.out.below hb10)
  have hs10 := Lib.hid (Nat.le_trans hs9.out hb10.size)
  clear hb10 hW9 hO9 hk9
  go_wp2_with fail
  refine (IntS.mark_any w4.heap.size a5 c5 zs 1 w10 hO10.out (by decide) (by omega)).mono ?_
  rintro e w11 ⟨rfl, ho11, hg11⟩
  have hB11 := Lib.hid (hB10.out.grown hg11 hB10.out.size (fun q e => by
    cases ea : a5 with
    | none => rw [ea] at e; cases e
    | some y =>
      rw [ea] at e
      have h2 := hL5.out y ea
      have : y.block = q := by simpa [Value.ownBlock] using e
      have := hB4.out.size
      omega))
  have hW11 := Lib.hid (IntS.row_beside hW10.out hg11 (fun x ex e => by
    cases ea : a5 with
    | none => rw [ea] at e; cases e
    | some y =>
      rw [ea] at e
      have h1 := hL3.out x ex
      have h2 := hL5.out y ea
      have h3 : y.block = x.block := by simpa [Value.ownBlock] using e
      have := hs4.out
      omega))
  have hM11 := Lib.hid ho11
  clear hg11 ho11 hW10 hO10
  have hrow := Lib.hid (show RowAt w11 a5 zs.length (fun j => .int .i64 (1 + j)) from (mark_row hM11.out))
  go_wp2_with fail
  refine (IntS.held_any a5 c5 zs.length 1 w11 hrow.out (by decide) (by omega)).mono ?_
  rintro e w12 ⟨rfl, rfl⟩
  go_wp2_with fail
  refine (toS_any a cap n h _ (hR.out.later hB11.out) hn).mono ?_
  rintro e w13 ⟨g13, rfl, ho13, -, hb13⟩
  have hB13 := Lib.hid (hB11.out.trans (hb13.mono hB11.out.size))
  have hW13 := Lib.hid (RowAt.below hW11.out hb13)
  have hR13 := Lib.hid (RowAt.below hrow.out hb13)
  clear hb13 hW11
  go_wp2_with fail
  refine (HI.out _ _ _ ho13.row).mono ?_
  rintro e w14 ⟨v14, rfl, ho14, hb14⟩
  obtain ⟨a14, c14, rfl, ha14, -⟩ := IntS.OwnI.slice (own_i ho14)
  have hA14 := Lib.hid ha14
  have hB14 := Lib.hid (hB13.out.trans (hb14.mono hB13.out.size))
  have hW14 := Lib.hid (RowAt.below hW13.out hb14)
  have hR14 := Lib.hid (RowAt.below hR13.out hb14)
  clear hb14 ha14 ho14 ho13 hW13 hR13
  go_wp2_with fail
  refine (IntS.eq_same a14 a3 c14 c3 zs w14 hA14.out hW14.out hzm).mono ?_
  rintro e w15 ⟨rfl, hb15⟩
  have hB15 := Lib.hid (hB14.out.trans (hb15.mono hB14.out.size))
  have hR15 := Lib.hid (RowAt.below hR14.out hb15)
  clear hb15
  go_wp2_with fail
  refine (IntS.held_any a5 c5 zs.length 1 w15 hR15.out (by decide) (by omega)).mono ?_
  rintro e w16 ⟨rfl, rfl⟩
  go_wp2
  go_ret
  exact ⟨rfl, hB15.out⟩

end Go.Proofs.Ytpfjdlaaakkimaa.CntL
