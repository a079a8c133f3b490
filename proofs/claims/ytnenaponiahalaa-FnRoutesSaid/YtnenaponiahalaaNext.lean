/- The cells next to a cell: the model and the program. -/
import Derived.Test.YtnenaponiahalaaHighF
import Derived.Test.YtnenaponiahalaaNextM
namespace Go.Proofs.Ytnenaponiahalaa.Next
open Go.RowKit Lb IntS MapS MapV High
set_option linter.unusedSimpArgs false
set_option linter.unusedVariables false

theorem below_drewN {B : Nat} {a w : World} (h : Below B a w) (n : Nat) : Below B a (w.drewN n) := ⟨h.os, h.tape, h.output, h.size, h.block⟩
theorem bAD (w : World) (o : Obj) (n : Nat) : Below w.heap.size w ((w.alloc o).drewN n) := below_drewN ((Below.refl _ _).alloc (Nat.le_refl _) o) n

/-- The list as far as found, of the call's own. -/
def Fnd (w : World) (ww hh : Nat) (R C : List Int) (a b : Option Addr) (ca cb c k : Nat) (l : Value) (wr : World) : Prop :=
  wr.ownsRow (w.heap.size + 1 + 1) 3 1 l (nxTo ⟨ww, hh, R, C⟩ ww hh c k).length ((ints (nxTo ⟨ww, hh, R, C⟩ ww hh c k)).map (Value.int .i64)) ∧ Blk wr w.heap.size 26 #[.int .i64 ww, .int .i64 hh, .slice a R.length ca, .slice b C.length cb] ∧ Below w.heap.size w wr
theorem Fnd.step {w : World} {ww hh : Nat} {R C : List Int} {a b : Option Addr} {ca cb c k : Nat} {l : Value} {wr w' : World} (h : Fnd w ww hh R C a b ca cb c k l wr) (he : nxTo ⟨ww, hh, R, C⟩ ww hh c (k + 1) = nxTo ⟨ww, hh, R, C⟩ ww hh c k) (hb : Below wr.heap.size wr w') : Fnd w ww hh R C a b ca cb c (k + 1) l w' := by
  obtain ⟨h1, h2, h3⟩ := h
  refine ⟨?_, h2.later hb, h3.trans (hb.mono h3.size)⟩
  rw [he]
  exact owns_below h1 hb
theorem Fnd.put {w : World} {ww hh : Nat} {R C : List Int} {a b : Option Addr} {ca cb c k d : Nat} {l l' : Value} {wr w1 w' : World} (h : Fnd w ww hh R C a b ca cb c k l wr) (he : nxTo ⟨ww, hh, R, C⟩ ww hh c (k + 1) = nxTo ⟨ww, hh, R, C⟩ ww hh c k ++ [d]) (hb : Below wr.heap.size wr w1)
    (ho : w'.ownsRow (w.heap.size + 1 + 1) 3 1 l' ((nxTo ⟨ww, hh, R, C⟩ ww hh c k).length + 1) ((ints (nxTo ⟨ww, hh, R, C⟩ ww hh c k)).map (Value.int .i64) ++ [.int .i64 d])) (hg : w1.grownBy w' l.ownBlock) : Fnd w ww hh R C a b ca cb c (k + 1) l' w' := by
  obtain ⟨h1, h2, h3⟩ := h
  have hlt := h1.lt
  have h4 := h3.trans (hb.mono h3.size)
  refine ⟨?_, ?_, h4.grown hg h4.size (fun q e => by have := (hlt q e).1; omega)⟩
  · rw [he]
    have e1 : (nxTo ⟨ww, hh, R, C⟩ ww hh c k ++ [d]).length = (nxTo ⟨ww, hh, R, C⟩ ww hh c k).length + 1 := by simp
    have e2 : (ints (nxTo ⟨ww, hh, R, C⟩ ww hh c k ++ [d])).map (Value.int .i64) = (ints (nxTo ⟨ww, hh, R, C⟩ ww hh c k)).map (Value.int .i64) ++ [.int .i64 d] := by simp [ints]
    rw [e1, e2]; exact ho
  · have h5 := h2.later hb
    refine (hg.block w.heap.size h5.lt (fun e => ?_)).trans h5
    have := (hlt w.heap.size e.symm).1
    omega

set_option maxRecDepth 100000 in
set_option maxHeartbeats 4000000 in
theorem impl_raw (ww hh : Nat) (R C : List Int) (a b : Option Addr) (ca cb : Nat) (c : Nat) (w : World) (g : GoodM ⟨ww, hh, R, C⟩ ww hh) (hc : IRow w b C) (hl : c < ww * hh) :
    Calls Try.prog 77 #[.agg #[.int .i64 ww, .int .i64 hh, .slice a R.length ca, .slice b C.length cb], .int .i64 c] w fun e w' => (∃ v, e = .returned v ∧ OwnI w' w.heap.size v (ints (nxTo ⟨ww, hh, R, C⟩ ww hh c 4))) ∧ Below w.heap.size w w' := by
  obtain ⟨t0, hi, hz0, hz1, hz2⟩ := info_parts iInfo
  have w1 := g.w1
  have w6 := g.w6
  have h1 := g.h1
  have h6 := g.h6
  have n36 := g.n36
  have hCl := Lib.hid (show C.length = ww * hh from g.C)
  have hCm : C.length ≤ maxLen := by have := hCl.out; unfold maxLen; omega
  have HC := Lib.hid (show ∀ i, i < ww * hh → 0 ≤ zAt C i from fun i hi => (g.cell i hi).2.2.1)
  have i0 : ∀ w, (Instr.index 141 (.agg #[.int .i64 0, .int .i64 (-1), .int .i64 (-1), .int .i64 0, .int .i64 1, .int .i64 0, .int .i64 0, .int .i64 1]) (.int .i64 0)).run Try.prog w = .ok (.agg #[.int .i64 0, .int .i64 (-1)]) w := fun _ => by kernel_rfl
  have i1 : ∀ w, (Instr.index 141 (.agg #[.int .i64 0, .int .i64 (-1), .int .i64 (-1), .int .i64 0, .int .i64 1, .int .i64 0, .int .i64 0, .int .i64 1]) (.int .i64 1)).run Try.prog w = .ok (.agg #[.int .i64 (-1), .int .i64 0]) w := fun _ => by kernel_rfl
  have i2 : ∀ w, (Instr.index 141 (.agg #[.int .i64 0, .int .i64 (-1), .int .i64 (-1), .int .i64 0, .int .i64 1, .int .i64 0, .int .i64 0, .int .i64 1]) (.int .i64 2)).run Try.prog w = .ok (.agg #[.int .i64 1, .int .i64 0]) w := fun _ => by kernel_rfl
  have i3 : ∀ w, (Instr.index 141 (.agg #[.int .i64 0, .int .i64 (-1), .int .i64 (-1), .int .i64 0, .int .i64 1, .int .i64 0, .int .i64 0, .int .i64 1]) (.int .i64 3)).run Try.prog w = .ok (.agg #[.int .i64 0, .int .i64 1]) w := fun _ => by kernel_rfl
  obtain ⟨x, hx⟩ : ∃ x, c % ww = x := ⟨_, rfl⟩
  obtain ⟨y, hy⟩ : ∃ y, c / ww = y := ⟨_, rfl⟩
  have HA := Lib.hid (at_of w1 hl hx hy)
  have xw := HA.out.xw
  have yh := HA.out.yh
  obtain ⟨d1, d2⟩ := dm ww c x y hx hy
  clear hx hy g
  go_enter Try.func77, Try.ntmps77
  go_wp2
  go_loopw [19, 6] (fun i l wr => ∃ k : Nat, k ≤ 4 ∧ i = .int .i64 k ∧ Fnd w ww hh R C a b ca cb c k l wr) (fun i _ _ => 4 - (intOf i).toNat)
  case atStart =>
    refine ⟨0, by omega, rfl, ?_, ((Blk.new w 26 _).alloc _).alloc _, (((Below.refl _ _).alloc (Nat.le_refl _) _).alloc (by simp) _).alloc (by simp; omega) _⟩
    have := World.ownsRow_made (e := 3) (size := 1) (base := w.heap.size + 1 + 1) ((w.alloc (.cells #[.int .i64 ww, .int .i64 hh, .slice a R.length ca, .slice b C.length cb] 26)).alloc (.cells #[.int .i64 0, .int .i64 (-1), .int .i64 (-1), .int .i64 0, .int .i64 1, .int .i64 0, .int .i64 0, .int .i64 1] 141)) #[] 0 (by simp) (Nat.zero_le _) rfl
    simpa [nxTo, ints] using this
  case round =>
    obtain ⟨k, hk, hik, hF⟩ := hrel
    have HF := Lib.hid hF
    obtain ⟨p0, p1, p2, p3, -⟩ := hF.2.1.four
    have hz := hF.2.1.lt
    have hlen := nxTo_length ⟨ww, hh, R, C⟩ ww hh c k
    clear hF
    by_cases e4 : k = 4
    · subst e4
      replace hik : _ = Value.int .i64 4 := hik
      subst hik
      go_wp2
      go_ret
      have ho := rebase HF.out.1 (b' := w.heap.size) (by omega)
      rw [← ints_length] at ho
      exact ⟨⟨_, rfl, ho⟩, HF.out.2.2⟩
    by_cases e0 : k = 0
    · subst e0
      replace hik : _ = Value.int .i64 0 := hik
      subst hik
      by_cases hin : 0 < y
      · obtain ⟨d, hd, hdl, hde, hd1, hd2⟩ := dir0 HA.out hin
        have ir1 : 0 ≤ (y : Int) + -1 := by omega
        have ir2 : (y : Int) + -1 < hh := by omega
        have hdC : d < C.length := by have := hCl.out; omega
        by_cases ho : zAt C d = 0
        · have HS := Lib.hid (nxTo_shut (m := ⟨ww, hh, R, C⟩) hd ho)
          have HO := Lib.hid ho
          clear hd ho
          go_wp2
          go_quiet (fail)
          go_wp2_with fail
          refine (forb_yes ⟨ww, hh, R, C⟩ a b ca cb d _ (RowAt.below hc (HF.out.2.2.trans ((bAD wr _ _).mono HF.out.2.2.size))) hdC hCm HO.out).mono ?_
          rintro e w2 ⟨rfl, hb2⟩
          have HF2 := Lib.hid (HF.out.step HS.out ((bAD wr _ _).trans (hb2.mono (by simp))))
          clear hb2
          go_wp2
          go_roundw
          case rel => exact ⟨1, by omega, rfl, HF2.out⟩
          case measure => simp [intOf]
        · have hpos : 0 < zAt C d := by have := HC.out d hdl; omega
          have HS := Lib.hid (nxTo_open (m := ⟨ww, hh, R, C⟩) hd hpos)
          have HO := Lib.hid ho
          clear hd ho hpos
          go_wp2
          go_quiet (fail)
          go_wp2_with fail
          refine (forb_no ⟨ww, hh, R, C⟩ a b ca cb d _ (RowAt.below hc (HF.out.2.2.trans ((bAD wr _ _).mono HF.out.2.2.size))) hdC hCm HO.out).mono ?_
          rintro e w2 ⟨rfl, hb2⟩
          have HB2 := Lib.hid ((bAD wr _ _).trans (hb2.mono (by simp)))
          have hown := owns_below HF.out.1 HB2.out
          have hzw := HB2.out.size
          clear hb2
          go_wp2_with (at_builtin; refine wpList_append_own _ rfl (.tmp 64) (.tmp 66) 24 rfl (w.heap.size + 1 + 1) 3 t0 (.int .i64 0) 1 8 Try.underlying24 hi hz0 hz1 hz2 rfl (by decide) _ _ _ rfl (hown.alloc _) ⟨w2.heap.size, 0, none⟩ 1 1 [.int .i64 d] rfl rfl (cell_one_new _ _ _) (by simp [Value.oneCell']) (by unfold maxLen; omega) (by omega) (by simp; omega) ?_; intro v' w3 hown3 hgrow _)
          have HF2 := Lib.hid (HF.out.put HS.out (HB2.out.trans ((Below.refl _ _).alloc (Nat.le_refl _) _ |>.mono hzw)) hown3 hgrow)
          clear hown hown3 hgrow
          go_wp2
          go_roundw
          case rel => exact ⟨1, by omega, rfl, HF2.out⟩
          case measure => simp [intOf]
      · have HS := Lib.hid (nxTo_none (m := ⟨ww, hh, R, C⟩) (dir_none0 HA.out hin))
        have ir1 : (y : Int) + -1 < 0 := by omega
        go_wp2
        go_quiet (fail)
        go_wp2
        go_roundw
        case rel => exact ⟨1, by omega, rfl, HF.out.step HS.out (bAD wr _ _)⟩
        case measure => simp [intOf]
    by_cases e1 : k = 1
    · subst e1
      replace hik : _ = Value.int .i64 1 := hik
      subst hik
      by_cases hin : 0 < x
      · obtain ⟨d, hd, hdl, hde, hd1, hd2⟩ := dir1 HA.out hin
        have ir1 : 0 ≤ (x : Int) + -1 := by omega
        have ir2 : (x : Int) + -1 < ww := by omega
        have hdC : d < C.length := by have := hCl.out; omega
        by_cases ho : zAt C d = 0
        · have HS := Lib.hid (nxTo_shut (m := ⟨ww, hh, R, C⟩) hd ho)
          have HO := Lib.hid ho
          clear hd ho
          go_wp2
          go_quiet (fail)
          go_wp2_with fail
          refine (forb_yes ⟨ww, hh, R, C⟩ a b ca cb d _ (RowAt.below hc (HF.out.2.2.trans ((bAD wr _ _).mono HF.out.2.2.size))) hdC hCm HO.out).mono ?_
          rintro e w2 ⟨rfl, hb2⟩
          have HF2 := Lib.hid (HF.out.step HS.out ((bAD wr _ _).trans (hb2.mono (by simp))))
          clear hb2
          go_wp2
          go_roundw
          case rel => exact ⟨2, by omega, rfl, HF2.out⟩
          case measure => simp [intOf]
        · have hpos : 0 < zAt C d := by have := HC.out d hdl; omega
          have HS := Lib.hid (nxTo_open (m := ⟨ww, hh, R, C⟩) hd hpos)
          have HO := Lib.hid ho
          clear hd ho hpos
          go_wp2
          go_quiet (fail)
          go_wp2_with fail
          refine (forb_no ⟨ww, hh, R, C⟩ a b ca cb d _ (RowAt.below hc (HF.out.2.2.trans ((bAD wr _ _).mono HF.out.2.2.size))) hdC hCm HO.out).mono ?_
          rintro e w2 ⟨rfl, hb2⟩
          have HB2 := Lib.hid ((bAD wr _ _).trans (hb2.mono (by simp)))
          have hown := owns_below HF.out.1 HB2.out
          have hzw := HB2.out.size
          clear hb2
          go_wp2_with (at_builtin; refine wpList_append_own _ rfl (.tmp 64) (.tmp 66) 24 rfl (w.heap.size + 1 + 1) 3 t0 (.int .i64 0) 1 8 Try.underlying24 hi hz0 hz1 hz2 rfl (by decide) _ _ _ rfl (hown.alloc _) ⟨w2.heap.size, 0, none⟩ 1 1 [.int .i64 d] rfl rfl (cell_one_new _ _ _) (by simp [Value.oneCell']) (by unfold maxLen; omega) (by omega) (by simp; omega) ?_; intro v' w3 hown3 hgrow _)
          have HF2 := Lib.hid (HF.out.put HS.out (HB2.out.trans ((Below.refl _ _).alloc (Nat.le_refl _) _ |>.mono hzw)) hown3 hgrow)
          clear hown hown3 hgrow
          go_wp2
          go_roundw
          case rel => exact ⟨2, by omega, rfl, HF2.out⟩
          case measure => simp [intOf]
      · have HS := Lib.hid (nxTo_none (m := ⟨ww, hh, R, C⟩) (dir_none1 HA.out hin))
        have ir1 : (x : Int) + -1 < 0 := by omega
        go_wp2
        go_quiet (fail)
        go_wp2
        go_roundw
        case rel => exact ⟨2, by omega, rfl, HF.out.step HS.out (bAD wr _ _)⟩
        case measure => simp [intOf]
    by_cases e2 : k = 2
    · subst e2
      replace hik : _ = Value.int .i64 2 := hik
      subst hik
      by_cases hin : x + 1 < ww
      · obtain ⟨d, hd, hdl, hde, hd1, hd2⟩ := dir2 HA.out hin
        have ir1 : (x : Int) + 1 < ww := by omega
        have ir2 : 0 ≤ (x : Int) + 1 := by omega
        have hdC : d < C.length := by have := hCl.out; omega
        by_cases ho : zAt C d = 0
        · have HS := Lib.hid (nxTo_shut (m := ⟨ww, hh, R, C⟩) hd ho)
          have HO := Lib.hid ho
          clear hd ho
          go_wp2
          go_quiet (fail)
          go_wp2_with fail
          refine (forb_yes ⟨ww, hh, R, C⟩ a b ca cb d _ (RowAt.below hc (HF.out.2.2.trans ((bAD wr _ _).mono HF.out.2.2.size))) hdC hCm HO.out).mono ?_
          rintro e w2 ⟨rfl, hb2⟩
          have HF2 := Lib.hid (HF.out.step HS.out ((bAD wr _ _).trans (hb2.mono (by simp))))
          clear hb2
          go_wp2
          go_roundw
          case rel => exact ⟨3, by omega, rfl, HF2.out⟩
          case measure => simp [intOf]
        · have hpos : 0 < zAt C d := by have := HC.out d hdl; omega
          have HS := Lib.hid (nxTo_open (m := ⟨ww, hh, R, C⟩) hd hpos)
          have HO := Lib.hid ho
          clear hd ho hpos
          go_wp2
          go_quiet (fail)
          go_wp2_with fail
          refine (forb_no ⟨ww, hh, R, C⟩ a b ca cb d _ (RowAt.below hc (HF.out.2.2.trans ((bAD wr _ _).mono HF.out.2.2.size))) hdC hCm HO.out).mono ?_
          rintro e w2 ⟨rfl, hb2⟩
          have HB2 := Lib.hid ((bAD wr _ _).trans (hb2.mono (by simp)))
          have hown := owns_below HF.out.1 HB2.out
          have hzw := HB2.out.size
          clear hb2
          go_wp2_with (at_builtin; refine wpList_append_own _ rfl (.tmp 64) (.tmp 66) 24 rfl (w.heap.size + 1 + 1) 3 t0 (.int .i64 0) 1 8 Try.underlying24 hi hz0 hz1 hz2 rfl (by decide) _ _ _ rfl (hown.alloc _) ⟨w2.heap.size, 0, none⟩ 1 1 [.int .i64 d] rfl rfl (cell_one_new _ _ _) (by simp [Value.oneCell']) (by unfold maxLen; omega) (by omega) (by simp; omega) ?_; intro v' w3 hown3 hgrow _)
          have HF2 := Lib.hid (HF.out.put HS.out (HB2.out.trans ((Below.refl _ _).alloc (Nat.le_refl _) _ |>.mono hzw)) hown3 hgrow)
          clear hown hown3 hgrow
          go_wp2
          go_roundw
          case rel => exact ⟨3, by omega, rfl, HF2.out⟩
          case measure => simp [intOf]
      · have HS := Lib.hid (nxTo_none (m := ⟨ww, hh, R, C⟩) (dir_none2 HA.out hin))
        have ir1 : (ww : Int) ≤ (x : Int) + 1 := by omega
        go_wp2
        go_quiet (fail)
        go_wp2
        go_roundw
        case rel => exact ⟨3, by omega, rfl, HF.out.step HS.out (bAD wr _ _)⟩
        case measure => simp [intOf]
    by_cases e3 : k = 3
    · subst e3
      replace hik : _ = Value.int .i64 3 := hik
      subst hik
      by_cases hin : y + 1 < hh
      · obtain ⟨d, hd, hdl, hde, hd1, hd2⟩ := dir3 HA.out hin
        have ir1 : (y : Int) + 1 < hh := by omega
        have ir2 : 0 ≤ (y : Int) + 1 := by omega
        have hdC : d < C.length := by have := hCl.out; omega
        by_cases ho : zAt C d = 0
        · have HS := Lib.hid (nxTo_shut (m := ⟨ww, hh, R, C⟩) hd ho)
          have HO := Lib.hid ho
          clear hd ho
          go_wp2
          go_quiet (fail)
          go_wp2_with fail
          refine (forb_yes ⟨ww, hh, R, C⟩ a b ca cb d _ (RowAt.below hc (HF.out.2.2.trans ((bAD wr _ _).mono HF.out.2.2.size))) hdC hCm HO.out).mono ?_
          rintro e w2 ⟨rfl, hb2⟩
          have HF2 := Lib.hid (HF.out.step HS.out ((bAD wr _ _).trans (hb2.mono (by simp))))
          clear hb2
          go_wp2
          go_roundw
          case rel => exact ⟨4, by omega, rfl, HF2.out⟩
          case measure => simp [intOf]
        · have hpos : 0 < zAt C d := by have := HC.out d hdl; omega
          have HS := Lib.hid (nxTo_open (m := ⟨ww, hh, R, C⟩) hd hpos)
          have HO := Lib.hid ho
          clear hd ho hpos
          go_wp2
          go_quiet (fail)
          go_wp2_with fail
          refine (forb_no ⟨ww, hh, R, C⟩ a b ca cb d _ (RowAt.below hc (HF.out.2.2.trans ((bAD wr _ _).mono HF.out.2.2.size))) hdC hCm HO.out).mono ?_
          rintro e w2 ⟨rfl, hb2⟩
          have HB2 := Lib.hid ((bAD wr _ _).trans (hb2.mono (by simp)))
          have hown := owns_below HF.out.1 HB2.out
          have hzw := HB2.out.size
          clear hb2
          go_wp2_with (at_builtin; refine wpList_append_own _ rfl (.tmp 64) (.tmp 66) 24 rfl (w.heap.size + 1 + 1) 3 t0 (.int .i64 0) 1 8 Try.underlying24 hi hz0 hz1 hz2 rfl (by decide) _ _ _ rfl (hown.alloc _) ⟨w2.heap.size, 0, none⟩ 1 1 [.int .i64 d] rfl rfl (cell_one_new _ _ _) (by simp [Value.oneCell']) (by unfold maxLen; omega) (by omega) (by simp; omega) ?_; intro v' w3 hown3 hgrow _)
          have HF2 := Lib.hid (HF.out.put HS.out (HB2.out.trans ((Below.refl _ _).alloc (Nat.le_refl _) _ |>.mono hzw)) hown3 hgrow)
          clear hown hown3 hgrow
          go_wp2
          go_roundw
          case rel => exact ⟨4, by omega, rfl, HF2.out⟩
          case measure => simp [intOf]
      · have HS := Lib.hid (nxTo_none (m := ⟨ww, hh, R, C⟩) (dir_none3 HA.out hin))
        have ir1 : (hh : Int) ≤ (y : Int) + 1 := by omega
        go_wp2
        go_quiet (fail)
        go_wp2
        go_roundw
        case rel => exact ⟨4, by omega, rfl, HF.out.step HS.out (bAD wr _ _)⟩
        case measure => simp [intOf]
    omega

end Go.Proofs.Ytnenaponiahalaa.Next
