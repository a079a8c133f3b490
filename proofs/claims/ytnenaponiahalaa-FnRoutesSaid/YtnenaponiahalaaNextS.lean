/- The cells next to a cell: the model's text. -/
import Derived.Test.YtnenaponiahalaaNext
import Derived.Test.YtnenaponiahalaaNextN
import Derived.Deep.Cut
import Derived.Deep.CutRange
import Derived.Deep.DeepCutAuto
namespace Go.Proofs.Ytnenaponiahalaa.NextS
open Go.RowKit Lb IntS MapS MapV High
open Go.Proofs.Ytnenaponiahalaa.Next (below_drewN bAD)
set_option linter.unusedSimpArgs false
set_option linter.unusedVariables false

/-- The places as far as looked at, in a row of the call's own. -/
def Plc (w : World) (B : Nat) (cs : Array Value) (xs : List Nat) (l : Value) (wr : World) : Prop :=
  wr.ownsRow (w.heap.size + 1) 3 1 l xs.length ((ints xs).map (Value.int .i64)) ∧ Blk wr w.heap.size 26 cs ∧ Below w.heap.size w wr
theorem Plc.put {w : World} {B : Nat} {cs : Array Value} {xs : List Nat} {d : Nat} {l l' : Value} {wr w' : World} {o : Obj} (h : Plc w B cs xs l wr)
    (ho : w'.ownsRow (w.heap.size + 1) 3 1 l' (xs.length + 1) ((ints xs).map (Value.int .i64) ++ [.int .i64 d])) (hg : (wr.alloc o).grownBy w' l.ownBlock) : Plc w B cs (xs ++ [d]) l' w' := by
  obtain ⟨h1, h2, h3⟩ := h
  have hlt := h1.lt
  have h4 := h3.alloc h3.size o
  refine ⟨?_, ?_, h4.grown hg h4.size (fun q e => by have := (hlt q e).1; omega)⟩
  · have e1 : (xs ++ [d]).length = xs.length + 1 := by simp
    have e2 : (ints (xs ++ [d])).map (Value.int .i64) = (ints xs).map (Value.int .i64) ++ [.int .i64 d] := by simp [ints]
    rw [e1, e2]; exact ho
  · have h5 := h2.alloc o
    refine (hg.block w.heap.size h5.lt (fun e => ?_)).trans h5
    have := (hlt w.heap.size e.symm).1
    omega
/-- The filtered places, beside what was there. -/
def Flt (wc : World) (xs : List Nat) (l : Value) (wr : World) : Prop :=
  wr.ownsRow wc.heap.size 3 1 l xs.length ((ints xs).map (Value.int .i64)) ∧ Below wc.heap.size wc wr
theorem Flt.put {wc : World} {xs : List Nat} {d : Nat} {l l' : Value} {wr w' : World} {o : Obj} (h : Flt wc xs l wr)
    (ho : w'.ownsRow wc.heap.size 3 1 l' (xs.length + 1) ((ints xs).map (Value.int .i64) ++ [.int .i64 d])) (hg : (wr.alloc o).grownBy w' l.ownBlock) : Flt wc (xs ++ [d]) l' w' := by
  obtain ⟨h1, h3⟩ := h
  have hlt := h1.lt
  have h4 := h3.alloc h3.size o
  refine ⟨?_, h4.grown hg h4.size (fun q e => (hlt q e).1)⟩
  have e1 : (xs ++ [d]).length = xs.length + 1 := by simp
  have e2 : (ints (xs ++ [d])).map (Value.int .i64) = (ints xs).map (Value.int .i64) ++ [.int .i64 d] := by simp [ints]
  rw [e1, e2]; exact ho
theorem Flt.drewN {wc : World} {xs : List Nat} {l : Value} {wr : World} (h : Flt wc xs l wr) (n : Nat) : Flt wc xs l (wr.drewN n) := ⟨h.1, below_drewN h.2 n⟩

set_option maxRecDepth 100000 in
set_option maxHeartbeats 4000000 in
theorem spec_raw (ww hh : Nat) (R C : List Int) (a b : Option Addr) (ca cb : Nat) (c : Nat) (w : World) (g : GoodM ⟨ww, hh, R, C⟩ ww hh) (hc : IRow w b C) (hl : c < ww * hh) :
    Calls Try.prog 132 #[.agg #[.int .i64 ww, .int .i64 hh, .slice a R.length ca, .slice b C.length cb], .int .i64 c] w fun e w' => (∃ v, e = .returned v ∧ OwnI w' w.heap.size v (ints (nx ⟨ww, hh, R, C⟩ c))) ∧ Below w.heap.size w w' := by
  obtain ⟨t0, hi, hz0, hz1, hz2⟩ := info_parts iInfo
  have w1 := g.w1
  have w6 := g.w6
  have h1 := g.h1
  have h6 := g.h6
  have n36 := g.n36
  have hCl := Lib.hid (show C.length = ww * hh from g.C)
  have hNX := Lib.hid (nx_eq g c)
  obtain ⟨x, hx⟩ : ∃ x, c % ww = x := ⟨_, rfl⟩
  obtain ⟨y, hy⟩ : ∃ y, c / ww = y := ⟨_, rfl⟩
  have HA := Lib.hid (at_of w1 hl hx hy)
  have xw := HA.out.xw
  have yh := HA.out.yh
  obtain ⟨d1, d2⟩ := dm ww c x y hx hy
  clear hx hy g
  go_enter Try.func132, Try.ntmps132
  go_upto_region 2 with (fail)
  go_cut [5, 6, 7] from 10 (fun l sx sy wx => sx = .int .i64 x ∧ sy = .int .i64 y ∧ Plc w 0 #[.int .i64 ww, .int .i64 hh, .slice a R.length ca, .slice b C.length cb] (nearTo ww hh c 0) l wx)
  case first =>
    go_quiet (fail)
    go_wp2
    go_meet
    refine ⟨(by first | rfl | rw [d1]), (by first | rfl | rw [d2]), ?_, (Blk.new w 26 _).alloc _, below_drewN (((Below.refl _ _).alloc (Nat.le_refl _) _).alloc (by simp) _) _⟩
    have := World.ownsRow_made (e := 3) (size := 1) (base := w.heap.size + 1) (w.alloc (.cells #[.int .i64 ww, .int .i64 hh, .slice a R.length ca, .slice b C.length cb] 26)) #[] 0 (by simp) (Nat.zero_le _) rfl
    rw [World.size_alloc] at this
    exact this
  case rest =>
  obtain ⟨rfl, rfl, hP⟩ := hcut
  have HP := Lib.hid hP
  clear hP
  obtain ⟨p0, p1, p2, p3, -⟩ := HP.out.2.1.four
  go_upto_if 20 with (fail)
  go_cut [5] from 10 (fun l wx => Plc w 0 #[.int .i64 ww, .int .i64 hh, .slice a R.length ca, .slice b C.length cb] (nearTo ww hh c 1) l wx)
  case first =>
    by_cases hin : 0 < y
    · obtain ⟨d, hd, hde⟩ := mdir0 HA.out hin
      have HS := Lib.hid (nearTo_one hd)
      have ir1 : 0 < (y : Int) := by omega
      have hlen := nearTo_length ww hh c 0
      have hown := HP.out.1
      have hzw := HP.out.2.2.size
      clear hd
      go_wp2_with (at_builtin; refine wpList_append_own _ rfl (.tmp 21) (.tmp 26) 24 rfl (w.heap.size + 1) 3 t0 (.int .i64 0) 1 8 Try.underlying24 hi hz0 hz1 hz2 rfl (by decide) _ _ _ rfl (hown.alloc _) ⟨_, 0, none⟩ 1 1 [.int .i64 d] rfl rfl (cell_one_new _ _ _) (by simp [Value.oneCell']) (by unfold maxLen; omega) (by omega) (by simp <;> omega) ?_; intro v' w3 hown3 hgrow _)
      have HP2 := Lib.hid (HP.out.put hown3 hgrow)
      clear hown hown3 hgrow
      go_wp2_with fail
      go_meet
      rw [HS.out]
      exact HP2.out
    · have HS := Lib.hid (nearTo_none (dir_none0 HA.out hin))
      have ir1 : (y : Int) ≤ 0 := by omega
      go_wp2_with fail
      go_meet
      rw [HS.out]
      exact HP.out
  case rest =>
  clear HP p0 p1 p2 p3
  have HP := Lib.hid hcut
  clear hcut
  obtain ⟨p0, p1, p2, p3, -⟩ := HP.out.2.1.four
  go_upto_if 29 with (fail)
  go_cut [5] from 10 (fun l wx => Plc w 0 #[.int .i64 ww, .int .i64 hh, .slice a R.length ca, .slice b C.length cb] (nearTo ww hh c 2) l wx)
  case first =>
    by_cases hin : 0 < x
    · obtain ⟨d, hd, hde⟩ := mdir1 HA.out hin
      have HS := Lib.hid (nearTo_one hd)
      have ir1 : 0 < (x : Int) := by omega
      have hlen := nearTo_length ww hh c 1
      have hown := HP.out.1
      have hzw := HP.out.2.2.size
      clear hd
      go_wp2_with (at_builtin; refine wpList_append_own _ rfl (.tmp 30) (.tmp 33) 24 rfl (w.heap.size + 1) 3 t0 (.int .i64 0) 1 8 Try.underlying24 hi hz0 hz1 hz2 rfl (by decide) _ _ _ rfl (hown.alloc _) ⟨_, 0, none⟩ 1 1 [.int .i64 d] rfl rfl (cell_one_new _ _ _) (by simp [Value.oneCell']) (by unfold maxLen; omega) (by omega) (by simp <;> omega) ?_; intro v' w3 hown3 hgrow _)
      have HP2 := Lib.hid (HP.out.put hown3 hgrow)
      clear hown hown3 hgrow
      go_wp2_with fail
      go_meet
      rw [HS.out]
      exact HP2.out
    · have HS := Lib.hid (nearTo_none (dir_none1 HA.out hin))
      have ir1 : (x : Int) ≤ 0 := by omega
      go_wp2_with fail
      go_meet
      rw [HS.out]
      exact HP.out
  case rest =>
  clear HP p0 p1 p2 p3
  have HP := Lib.hid hcut
  clear hcut
  obtain ⟨p0, p1, p2, p3, -⟩ := HP.out.2.1.four
  go_upto_if 39 with (fail)
  go_cut [5] from 10 (fun l wx => Plc w 0 #[.int .i64 ww, .int .i64 hh, .slice a R.length ca, .slice b C.length cb] (nearTo ww hh c 3) l wx)
  case first =>
    by_cases hin : x + 1 < ww
    · obtain ⟨d, hd, hde⟩ := mdir2 HA.out hin
      have HS := Lib.hid (nearTo_one hd)
      have ir1 : (x : Int) + 1 < ww := by omega
      have hlen := nearTo_length ww hh c 2
      have hown := HP.out.1
      have hzw := HP.out.2.2.size
      clear hd
      go_wp2_with (at_builtin; refine wpList_append_own _ rfl (.tmp 40) (.tmp 43) 24 rfl (w.heap.size + 1) 3 t0 (.int .i64 0) 1 8 Try.underlying24 hi hz0 hz1 hz2 rfl (by decide) _ _ _ rfl (hown.alloc _) ⟨_, 0, none⟩ 1 1 [.int .i64 d] rfl rfl (cell_one_new _ _ _) (by simp [Value.oneCell']) (by unfold maxLen; omega) (by omega) (by simp <;> omega) ?_; intro v' w3 hown3 hgrow _)
      have HP2 := Lib.hid (HP.out.put hown3 hgrow)
      clear hown hown3 hgrow
      go_wp2_with fail
      go_meet
      rw [HS.out]
      exact HP2.out
    · have HS := Lib.hid (nearTo_none (dir_none2 HA.out hin))
      have ir1 : (ww : Int) ≤ (x : Int) + 1 := by omega
      go_wp2_with fail
      go_meet
      rw [HS.out]
      exact HP.out
  case rest =>
  clear HP p0 p1 p2 p3
  have HP := Lib.hid hcut
  clear hcut
  obtain ⟨p0, p1, p2, p3, -⟩ := HP.out.2.1.four
  go_upto_if 49 with (fail)
  go_cut [5] from 10 (fun l wx => Plc w 0 #[.int .i64 ww, .int .i64 hh, .slice a R.length ca, .slice b C.length cb] (nearTo ww hh c 4) l wx)
  case first =>
    by_cases hin : y + 1 < hh
    · obtain ⟨d, hd, hde⟩ := mdir3 HA.out hin
      have HS := Lib.hid (nearTo_one hd)
      have ir1 : (y : Int) + 1 < hh := by omega
      have hlen := nearTo_length ww hh c 3
      have hown := HP.out.1
      have hzw := HP.out.2.2.size
      clear hd
      go_wp2_with (at_builtin; refine wpList_append_own _ rfl (.tmp 50) (.tmp 55) 24 rfl (w.heap.size + 1) 3 t0 (.int .i64 0) 1 8 Try.underlying24 hi hz0 hz1 hz2 rfl (by decide) _ _ _ rfl (hown.alloc _) ⟨_, 0, none⟩ 1 1 [.int .i64 d] rfl rfl (cell_one_new _ _ _) (by simp [Value.oneCell']) (by unfold maxLen; omega) (by omega) (by simp <;> omega) ?_; intro v' w3 hown3 hgrow _)
      have HP2 := Lib.hid (HP.out.put hown3 hgrow)
      clear hown hown3 hgrow
      go_wp2_with fail
      go_meet
      rw [HS.out]
      exact HP2.out
    · have HS := Lib.hid (nearTo_none (dir_none3 HA.out hin))
      have ir1 : (hh : Int) ≤ (y : Int) + 1 := by omega
      go_wp2_with fail
      go_meet
      rw [HS.out]
      exact HP.out
  case rest =>
  clear HP p0 p1 p2 p3
  have HP := Lib.hid hcut
  clear hcut
  obtain ⟨xs, hxs⟩ : ∃ xs, nearTo ww hh c 4 = xs := ⟨_, rfl⟩
  have HN := Lib.hid (show xs = near ww hh c from by rw [← hxs, nearTo_all])
  have hx4 : xs.length ≤ 4 := by rw [← hxs]; exact nearTo_length ww hh c 4
  have HXl := Lib.hid (show ∀ j, j < xs.length → xs.getD j 0 < ww * hh from fun j hj => by rw [HN.out] at hj ⊢; exact near_lt w1 hl j hj)
  have ho5 := HP.out.1
  have HK := Lib.hid HP.out.2.1
  have HB := Lib.hid HP.out.2.2
  rw [hxs] at ho5
  clear HP hxs
  obtain ⟨a5, c5, e5, r5, k5⟩ := OwnI.slice (w := wc) (base := w.heap.size + 1) (zs := ints xs) (by unfold OwnI; rw [ints_length]; exact ho5)
  rw [ints_length] at e5
  subst e5
  have HR := Lib.hid r5
  have hzc := HB.out.size
  clear ho5 r5 k5
  obtain ⟨p0, p1, p2, p3, -⟩ := HK.out.four
  go_wp2
  clear p0 p1 p2 p3
  go_loopw [9, 8] (fun i l wr => ∃ j : Nat, j ≤ xs.length ∧ i = .int .i64 j ∧ Flt wc ((xs.take j).filter (opn ⟨ww, hh, R, C⟩)) l wr) (fun i _ _ => xs.length - (intOf i).toNat)
  case atStart =>
    refine ⟨0, Nat.zero_le _, rfl, ?_, (Below.refl _ _).alloc (Nat.le_refl _) _⟩
    exact World.ownsRow_made (e := 3) (size := 1) wc #[] 0 (Nat.le_refl _) (Nat.zero_le _) rfl
  case round =>
    obtain ⟨j, hj, rfl, hF⟩ := hrel
    have HF := Lib.hid hF
    clear hF
    by_cases hlt : j < xs.length
    · have hd := HXl.out j hlt
      have hdC : xs.getD j 0 < C.length := by have := hCl.out; omega
      have e5 := zAt_ints xs j hlt
      rcases RowAt.below HR.out HF.out.2 with h0 | ⟨b5, off5, rfl, hc5⟩
      · rw [ints_length] at h0; omega
      rcases RowAt.below hc (HB.out.trans (HF.out.2.mono HB.out.size)) with h0 | ⟨b3, off3, rfl, hc3⟩
      · omega
      have g5 := hc5 j (by rw [ints_length]; exact hlt)
      simp only [e5] at g5
      have g3 := hc3 (xs.getD j 0) hdC
      have HK2 := HK.out.below HF.out.2 HK.out.lt
      obtain ⟨p0, p1, p2, p3, -⟩ := HK2.four
      obtain ⟨d, hdd⟩ : ∃ d, xs.getD j 0 = d := ⟨_, rfl⟩
      rw [hdd] at g5 g3 hd hdC
      have HD := Lib.hid hdd
      clear hc5 hc3 e5 hdd HK2
      have hzr := HF.out.2.size
      by_cases ho : 0 < zAt C d
      · have HS := Lib.hid (filter_yes (p := opn ⟨ww, hh, R, C⟩) hlt (by rw [HD.out]; simpa [opn] using ho))
        have hfl : ((xs.take j).filter (opn ⟨ww, hh, R, C⟩)).length ≤ 4 := Nat.le_trans (List.length_filter_le _ _) (by rw [List.length_take]; omega)
        go_wp2
        go_quiet (fail)
        have HFq := Lib.hid (HF.out.drewN nq)
        have hown := HFq.out.1
        go_wp2_with (at_builtin; refine wpList_append_own _ rfl (.tmp 73) (.tmp 78) 24 rfl wc.heap.size 3 t0 (.int .i64 0) 1 8 Try.underlying24 hi hz0 hz1 hz2 rfl (by decide) _ _ _ rfl (hown.alloc _) ⟨_, 0, none⟩ 1 1 [.int .i64 d] rfl rfl (cell_one_new _ _ _) (by simp [Value.oneCell']) (by unfold maxLen; omega) (by omega) (by simp <;> omega) ?_; intro v' w3 hown3 hgrow _)
        have HF2 := Lib.hid (HFq.out.put hown3 hgrow)
        clear hown hown3 hgrow
        go_wp2
        go_roundw
        case rel => exact ⟨j + 1, by omega, by go_num, by rw [HS.out, HD.out]; exact HF2.out⟩
        case measure => simp [intOf]; omega
      · have HS := Lib.hid (filter_no (p := opn ⟨ww, hh, R, C⟩) hlt (by rw [HD.out]; simpa [opn] using ho))
        have ho' : decide (0 < zAt C d) = false := by simpa using ho
        go_wp2
        go_quiet (fail)
        go_wp2
        go_roundw
        case rel => exact ⟨j + 1, by omega, by go_num, by rw [HS.out]; exact HF.out.drewN _⟩
        case measure => simp [intOf]; omega
    · obtain rfl : j = xs.length := by omega
      have ho := HF.out.1
      have hb := HF.out.2
      rw [List.take_length] at ho
      have ho := rebase ho (b' := w.heap.size) hzc
      go_wp2
      go_ret
      refine ⟨⟨_, rfl, ?_⟩, HB.out.trans (hb.mono hzc)⟩
      unfold OwnI
      rw [hNX.out, ints_length, ← HN.out]
      exact ho

end Go.Proofs.Ytnenaponiahalaa.NextS
