/- FarthestCell: the program and the model. -/
import Derived.Test.YtjngnjokbnklfaaDtM
namespace Go.Proofs.Ytjngnjokbnklfaa.FarI
open Go.RowKit Lb IntS MapS MapV High Cells StepT StpF SpecB DjkB OpnI TmsI LtI
open Go.Proofs.Ytjngnjokbnklfaa.BfoB (oL oL_len oL_at own_at own_cell)
set_option linter.unusedSimpArgs false
set_option linter.unusedVariables false

/-- The farthest of the first 'k' cells, and its time. -/
def farK (F : Nat → Int) : Nat → Nat × Int
  | 0 => (0, -1)
  | k + 1 => if (farK F k).2 < F k then (k, F k) else farK F k
theorem far_take {F : Nat → Int} {k p : Nat} {t : Int} (h : farK F k = (p, t)) (hl : t < F k) : farK F (k + 1) = (k, F k) := by rw [farK, h, if_pos hl]
theorem far_skip {F : Nat → Int} {k p : Nat} {t : Int} (h : farK F k = (p, t)) (hl : ¬ t < F k) : farK F (k + 1) = (p, t) := by rw [farK, h, if_neg hl]
theorem far_ge {F : Nat → Int} : ∀ {k : Nat}, -1 ≤ (farK F k).2
  | 0 => Int.le_refl _
  | k + 1 => by
    have := far_ge (F := F) (k := k)
    rw [farK]
    split
    · show -1 ≤ F k
      omega
    · exact this
theorem far_max {F : Nat → Int} {j : Nat} : ∀ {k : Nat}, j < k → F j ≤ (farK F k).2
  | 0, h => by omega
  | k + 1, h => by
    rw [farK]
    by_cases e : j = k
    · subst e
      split
      · exact Int.le_refl _
      · omega
    · have := far_max (F := F) (k := k) (j := j) (by omega)
      split
      · show F j ≤ F k
        omega
      · exact this
theorem far_at {F : Nat → Int} : ∀ {k : Nat}, 0 ≤ (farK F k).2 → (farK F k).1 < k ∧ F (farK F k).1 = (farK F k).2
  | 0, h => by simp [farK] at h
  | k + 1, h => by
    rw [farK] at h ⊢
    split
    · exact ⟨Nat.lt_succ_self _, rfl⟩
    · rename_i hn
      rw [if_neg hn] at h
      have := far_at (F := F) (k := k) h
      exact ⟨by omega, this.2⟩
/-- Where the program stands. -/
def farP (F : Nat → Int) (i k : Nat) : Nat := if 0 < (farK F k).2 then (farK F k).1 else i
theorem farP_zero (F : Nat → Int) (i : Nat) : farP F i 0 = i := by simp [farP, farK]
theorem farP_val {F : Nat → Int} {i : Nat} (hi : F i = 0) (k : Nat) : F (farP F i k) = if 0 < (farK F k).2 then (farK F k).2 else 0 := by
  unfold farP
  split
  · rename_i h
    exact (far_at (by omega)).2
  · exact hi
theorem farP_take {F : Nat → Int} {i : Nat} (hi : F i = 0) {k : Nat} (h0 : 0 ≤ F k) (h : F (farP F i k) < F k) : farP F i (k + 1) = k := by
  rw [farP_val hi] at h
  have h1 : (farK F k).2 < F k := by split at h <;> omega
  have h2 : 0 < F k := by split at h <;> omega
  unfold farP
  rw [farK, if_pos h1, if_pos h2]
theorem farP_skip {F : Nat → Int} {i : Nat} (hi : F i = 0) {k : Nat} (h : F k < 0 ∨ F k ≤ F (farP F i k)) : farP F i (k + 1) = farP F i k := by
  rw [farP_val hi] at h
  unfold farP
  rw [farK]
  by_cases h1 : (farK F k).2 < F k
  · rw [if_pos h1]
    have hg := far_ge (F := F) (k := k)
    have h2 : ¬ 0 < F k := by
      rcases h with h | h
      · omega
      · split at h <;> omega
    have h3 : ¬ 0 < (farK F k).2 := by omega
    rw [if_neg h2, if_neg h3]
  · rw [if_neg h1]
theorem farP_lt {F : Nat → Int} {i n k : Nat} (hi : i < n) (hk : k ≤ n) : farP F i k < n := by
  unfold farP
  split
  · rename_i h
    have := (far_at (F := F) (k := k) (by omega)).1
    omega
  · exact hi
theorem farP_end {F : Nat → Int} {i n : Nat} (hi : F i = 0) (hl : i < n) (h1 : ∀ c, F c = 0 → c = i) : farP F i n = (farK F n).1 ∧ F (farP F i n) = (farK F n).2 := by
  have hm := far_max (F := F) hl
  rw [hi] at hm
  rw [farP_val hi]
  have ha := far_at (F := F) (k := n) hm
  unfold farP
  split
  · exact ⟨rfl, rfl⟩
  · have e : (farK F n).2 = 0 := by omega
    rw [e] at ha
    exact ⟨(h1 _ ha.2).symm, e.symm⟩
theorem isD_zero {m : Mp} {w h : Nat} (g : GoodM m w h) {wt : Nat → Nat → Int} {s : Nat} (hs : Opn m (w * h) s) (hb : Wts m (w * h) wt) {D : Nat → Int} (hd : IsD m wt s D) {c : Nat} (hc : D c = 0) : c = s := by
  rcases hd c with ⟨e, _⟩ | ⟨_, l⟩
  · omega
  · rw [hc] at l
    rcases (l.1.pos g hs hb).2 with e | e
    · exact e
    · omega

/-- A cell, a number and whether there is one. -/
def FPost (w : World) (p t : Int) (ok : Bool) (e : Ending) (w' : World) : Prop := e = .returned (.tuple #[.int .i64 p, .int .i64 t, .bool ok]) ∧ Below w.heap.size w w'
theorem fret {n n' t t' : Int} {b b' : Bool} (h0 : n' = n) (h1 : t' = t) (h2 : b' = b) : Ending.returned (.tuple #[.int .i64 n, .int .i64 t, .bool b]) = .returned (.tuple #[.int .i64 n', .int .i64 t', .bool b']) := by rw [h0, h1, h2]

set_option maxHeartbeats 1000000 in
theorem spec_no (m : Mp) (p : Int) (ha : askB m p p = false) (a b : Option Addr) (ca cb : Nat) (w : World) (hR : m.R.length ≤ maxLen) (hC : m.C.length ≤ maxLen) (hr : IRow w a m.R) (hc : IRow w b m.C) :
    Calls Try.prog 38 #[.agg #[.int .i64 m.W, .int .i64 m.H, .slice a m.R.length ca, .slice b m.C.length cb], .int .i64 p] w (FPost w 0 0 false) := by
  have HB := Lib.hid ((Below.refl w.heap.size w).alloc (Nat.le_refl _) (.cells #[.int .i64 m.W, .int .i64 m.H, .slice a m.R.length ca, .slice b m.C.length cb] 26))
  have HA := Lib.hid ha
  clear ha
  go_enter Try.func38, Try.ntmps38
  go_wp2_with fail
  refine (asked_any m p p a b ca cb _ hR hC (RowAt.below hr HB.out) (RowAt.below hc HB.out)).mono ?_
  rw [HA.out]
  rintro e w1 ⟨rfl, hb1⟩
  have HB1 := Lib.hid (HB.out.trans (hb1.mono (by simp)))
  clear hb1
  go_wp2_with fail
  go_ret3
  exact ⟨rfl, HB1.out⟩

set_option maxHeartbeats 1000000 in
theorem impl_no (m : Mp) (p : Int) (ha : askB m p p = false) (a b : Option Addr) (ca cb : Nat) (w : World) (hR : m.R.length ≤ maxLen) (hC : m.C.length ≤ maxLen) (hr : IRow w a m.R) (hc : IRow w b m.C) :
    Calls Try.prog 34 #[.agg #[.int .i64 m.W, .int .i64 m.H, .slice a m.R.length ca, .slice b m.C.length cb], .int .i64 p] w (FPost w 0 0 false) := by
  have HB := Lib.hid (show Below w.heap.size w ((w.alloc (.cells #[.int .i64 m.W, .int .i64 m.H, .slice a m.R.length ca, .slice b m.C.length cb] 26)).alloc (.cells #[.int .i64 p] 3)) from ((Below.refl _ _).alloc (Nat.le_refl _) _).alloc (by simp) _)
  have HZ := Lib.hid (irow_one (w.alloc (.cells #[.int .i64 m.W, .int .i64 m.H, .slice a m.R.length ca, .slice b m.C.length cb] 26)) p (w.heap.size + 1) (by simp))
  rw [← allO_one] at ha
  have HA := Lib.hid ha
  clear ha
  go_enter Try.func34, Try.ntmps34
  go_wp2_with fail
  refine (areopen_any m a b ca cb _ 1 [p] _ hR hC (RowAt.below hr HB.out) (RowAt.below hc HB.out) HZ.out (by simp)).mono ?_
  rw [HA.out]
  rintro e w1 ⟨rfl, hb1⟩
  have HB1 := Lib.hid (HB.out.trans (hb1.mono HB.out.size))
  clear hb1
  go_wp2_with fail
  go_ret3
  exact ⟨rfl, HB1.out⟩

set_option maxHeartbeats 4000000 in
theorem spec_ask (m : Mp) (T : Nat → Nat → Int) (ww hh : Nat) (g : GoodM m ww hh) (hT : TT m T) (i : Nat) (hi : Opn m (ww * hh) i) (F : Nat → Int) (hF : IsD m (stp m) i F) (a b : Option Addr) (ca cb : Nat) (w : World) (hr : IRow w a m.R) (hc : IRow w b m.C) :
    Calls Try.prog 38 #[.agg #[.int .i64 m.W, .int .i64 m.H, .slice a m.R.length ca, .slice b m.C.length cb], .int .i64 i] w (FPost w ((farK F (ww * hh)).1 : Nat) (farK F (ww * hh)).2 true) := by
  obtain ⟨hR, hC⟩ := lens g
  have n36 := g.n36
  have n1 := g.n1
  have HB := Lib.hid ((Below.refl w.heap.size w).alloc (Nat.le_refl _) (.cells #[.int .i64 m.W, .int .i64 m.H, .slice a m.R.length ca, .slice b m.C.length cb] 26))
  have HK := Lib.hid (Blk.new w 26 #[.int .i64 m.W, .int .i64 m.H, .slice a m.R.length ca, .slice b m.C.length cb])
  have HG := Lib.hid g
  have HR := Lib.hid hr
  have HC := Lib.hid hc
  have HT := Lib.hid (hT ww hh g)
  have HF := Lib.hid (show ∀ c, c < ww * hh → (zAt m.C c = 0 → F c = -1) ∧ (0 < zAt m.C c → T c i = F c) from fun c hcl => ⟨fun h => by
    rcases hF c with ⟨e, _⟩ | ⟨p, l⟩
    · exact e
    · have := (l.1.opn g hi).2
      omega, fun h => (hF.swap g (fun _ _ => rfl) hi ⟨hcl, h⟩ (hT ww hh g c ⟨hcl, h⟩)).symm⟩)
  have HA := Lib.hid (ask_split g hi hi)
  have HCl := Lib.hid (show m.C.length = ww * hh from g.C)
  have hil : i < ww * hh := hi.1
  have hil2 : (i : Int) < (ww : Int) * (hh : Int) := by rw [← Int.natCast_mul]; omega
  clear hr hc hi g hT hF
  go_enter Try.func38, Try.ntmps38
  go_wp2_with fail
  refine (asked_any m i i a b ca cb _ hR hC (RowAt.below HR.out HB.out) (RowAt.below HC.out HB.out)).mono ?_
  rw [HA.out]
  rintro e w1 ⟨rfl, hb1⟩
  have HB1 := Lib.hid (HB.out.trans (hb1.mono (by simp)))
  have HK1 := Lib.hid (HK.out.later hb1)
  clear hb1 HB HK HA
  go_wp2_with fail
  go_loopg [9, 7, 8] (ww * hh) (fun q c bp bt wr => ∃ (k p : Nat) (t : Int), k ≤ ww * hh ∧ q = ww * hh - k ∧ c = .int .i64 k ∧ bp = .int .i64 (p : Nat) ∧ bt = .int .i64 t ∧ farK F k = (p, t) ∧ Below w.heap.size w wr ∧ Blk wr w.heap.size 26 #[.int .i64 m.W, .int .i64 m.H, .slice a m.R.length ca, .slice b m.C.length cb])
  case atStart => exact ⟨0, 0, -1, Nat.zero_le _, rfl, rfl, rfl, rfl, rfl, HB1.out, HK1.out⟩
  case round =>
    clear HB1 HK1
    obtain ⟨k, p, t, hk, hq, rfl, rfl, rfl, hfk, hb, hkb⟩ := hrel
    have HFk := Lib.hid hfk
    have HB := Lib.hid hb
    have HK := Lib.hid hkb
    clear hfk hb hkb
    obtain ⟨p0, p1, p2, p3, -⟩ := HK.out.four
    have hcl := HCl.out
    by_cases hlt : k < ww * hh
    · have hkC : k < m.C.length := by omega
      rcases RowAt.below HC.out HB.out with h0 | ⟨b1, off1, rfl, hc1⟩
      · omega
      have g1 : wr.cell? ⟨b1, off1 + k, none⟩ = some (.int .i64 (zAt m.C k)) := hc1 k hkC
      obtain ⟨-, -, hz0', hz9'⟩ := HG.out.cell k hlt
      clear hc1 hcl
      by_cases hf : zAt m.C k = 0
      · have HSk := Lib.hid (far_skip HFk.out (by
          rw [(HF.out k hlt).1 hf]
          have := far_ge (F := F) (k := k)
          rw [HFk.out] at this
          simp only at this
          omega))
        go_wp2_with fail
        go_roundg (ww * hh - (k + 1))
        case measure => omega
        case rel => exact ⟨k + 1, p, t, by omega, rfl, by go_num, rfl, rfl, HSk.out, HB.out, HK.out⟩
      · have HO := Lib.hid (show Opn m (ww * hh) k from ⟨hlt, by omega⟩)
        have HTF := Lib.hid ((HF.out k hlt).2 HO.out.2)
        have hf' : (zAt m.C k == 0) = false := by simpa using hf
        clear hf
        go_wp2_with fail
        refine (BfoS.to_any m ww hh HG.out a (some ⟨b1, off1, none⟩) ca cb k _ (RowAt.below HR.out HB.out) (RowAt.below HC.out HB.out) HO.out (T k) (HT.out k HO.out)).mono ?_
        rintro e w2 ⟨⟨v, rfl, ho⟩, hb2⟩
        have HB2 := Lib.hid (HB.out.trans (hb2.mono HB.out.size))
        have HK2 := Lib.hid (HK.out.later hb2)
        obtain ⟨gv, cv, rfl⟩ := own_at ho (by rw [oL_len]; omega)
        have hx := (own_cell ho (j := i) (by rw [oL_len]; exact hil)).1
        rw [oL_at _ hil, HTF.out] at hx
        rw [oL_len]
        clear hb2 ho p0 p1 p2 p3 g1
        by_cases hgt : t < F k
        · have HTk := Lib.hid (far_take HFk.out hgt)
          go_wp2_with fail
          go_roundg (ww * hh - (k + 1))
          case measure => omega
          case rel => exact ⟨k + 1, k, F k, by omega, rfl, by go_num, rfl, rfl, HTk.out, HB2.out, HK2.out⟩
        · have HSk := Lib.hid (far_skip HFk.out hgt)
          have hd : decide (t < F k) = false := by simpa using hgt
          clear hgt
          go_wp2_with fail
          go_roundg (ww * hh - (k + 1))
          case measure => omega
          case rel => exact ⟨k + 1, p, t, by omega, rfl, by go_num, rfl, rfl, HSk.out, HB2.out, HK2.out⟩
    · obtain rfl : k = ww * hh := by omega
      have hnC : ¬ ww * hh < m.C.length := by omega
      go_wp2_with fail
      go_ret3
      exact ⟨by rw [HFk.out]; rfl, HB.out⟩

/-- What stands in the program's loops over times. -/
structure Fa (w : World) (box : Array Value) (gt : Nat) (tm : Nat → Int) (wr : World) : Prop where
  b : Below w.heap.size w wr
  box : Blk wr w.heap.size 26 box
  tms : Blk wr gt 81 (timeCs tm)
theorem Fa.later {w : World} {box : Array Value} {gt : Nat} {tm : Nat → Int} {wr w' : World} (h : Fa w box gt tm wr) (hb : Below wr.heap.size wr w') : Fa w box gt tm w' := ⟨h.b.trans (hb.mono h.b.size), h.box.later hb, h.tms.later hb⟩

set_option maxRecDepth 20000 in
set_option maxHeartbeats 4000000 in
theorem impl_ask (m : Mp) (ww hh : Nat) (g : GoodM m ww hh) (i : Nat) (hi : Opn m (ww * hh) i) (F : Nat → Int) (hF : IsD m (stp m) i F) (a b : Option Addr) (ca cb : Nat) (w : World) (hr : IRow w a m.R) (hc : IRow w b m.C) :
    Calls Try.prog 34 #[.agg #[.int .i64 m.W, .int .i64 m.H, .slice a m.R.length ca, .slice b m.C.length cb], .int .i64 i] w (FPost w ((farK F (ww * hh)).1 : Nat) (farK F (ww * hh)).2 true) := by
  obtain ⟨hR, hC⟩ := lens g
  have n36 := g.n36
  have n1 := g.n1
  have HB := Lib.hid (show Below w.heap.size w ((w.alloc (.cells #[.int .i64 m.W, .int .i64 m.H, .slice a m.R.length ca, .slice b m.C.length cb] 26)).alloc (.cells #[.int .i64 i] 3)) from ((Below.refl _ _).alloc (Nat.le_refl _) _).alloc (by simp) _)
  have HZ := Lib.hid (irow_one (w.alloc (.cells #[.int .i64 m.W, .int .i64 m.H, .slice a m.R.length ca, .slice b m.C.length cb] 26)) (i : Nat) (w.heap.size + 1) (by simp))
  have HK := Lib.hid (show Blk ((w.alloc (.cells #[.int .i64 m.W, .int .i64 m.H, .slice a m.R.length ca, .slice b m.C.length cb] 26)).alloc (.cells #[.int .i64 i] 3)) w.heap.size 26 #[.int .i64 m.W, .int .i64 m.H, .slice a m.R.length ca, .slice b m.C.length cb] from (Blk.new w 26 #[.int .i64 m.W, .int .i64 m.H, .slice a m.R.length ca, .slice b m.C.length cb]).alloc _)
  have HG := Lib.hid g
  have HR := Lib.hid hr
  have HC := Lib.hid hc
  have HI := Lib.hid hi
  have HD := Lib.hid hF
  have HF0 := Lib.hid (hF.self g hi (wts_from g))
  have HFz := Lib.hid (fun c (h : F c = 0) => isD_zero g hi (wts_from g) hF h)
  have HFb := Lib.hid (fun c => hF.bd g hi (wts_from g) c)
  have HA := Lib.hid (show allO m [(i : Nat)] = true from by rw [allO_one]; exact ask_split g hi hi)
  have HCl := Lib.hid (show m.C.length = ww * hh from g.C)
  have hil : i < ww * hh := hi.1
  clear hr hc hi g hF
  go_enter Try.func34, Try.ntmps34
  go_wp2_with fail
  refine (areopen_any m a b ca cb _ 1 [(i : Nat)] _ hR hC (RowAt.below HR.out HB.out) (RowAt.below HC.out HB.out) HZ.out (by simp)).mono ?_
  rw [HA.out]
  rintro e w1 ⟨rfl, hb1⟩
  have HB1 := Lib.hid (HB.out.trans (hb1.mono HB.out.size))
  have HK1 := Lib.hid (HK.out.later hb1)
  clear hb1 HB HK HZ HA
  obtain ⟨p0, p1, p2, p3, -⟩ := HK1.out.four
  go_wp2_with fail
  refine (TmsI.from_any m ww hh HG.out a b ca cb i _ (RowAt.below HR.out HB1.out) (RowAt.below HC.out HB1.out) HI.out F HD.out).mono ?_
  rintro e w2 ⟨rfl, hb2⟩
  have HS2 := Lib.hid (show Fa w #[.int .i64 m.W, .int .i64 m.H, .slice a m.R.length ca, .slice b m.C.length cb] w2.heap.size (fun c => tmOf (F c)) ((w2.alloc (.cells (timeCs fun _ => 0) 81)).setCells w2.heap.size 0 (timeL fun c => tmOf (F c))) from by
    have hb := (HB1.out.trans (hb2.mono HB1.out.size))
    have hn := stored_new w2 (fun c => tmOf (F c))
    exact ⟨hb.trans (hn.2.mono hb.size), (HK1.out.later hb2).later hn.2, hn.1⟩)
  have HTh := Lib.hid (there_new w2)
  clear hb2 p0 p1 p2 p3 HB1 HK1
  obtain ⟨p0, p1, p2, p3, -⟩ := HS2.out.box.four
  dsimp only
  go_step
  go_step
  go_step
  go_step
  refine wpList_store_mid rfl 81 (.tmp 7) (.tmp 17) rfl w2.heap.size 0 (timeL fun c => tmOf (F c)).toArray rfl rfl (by rw [timeS_len]; exact HTh.out) (by rw [timeS_len]; exact info_times) (all_oneCell_toArray timeL_one) ?_
  obtain ⟨w3, hw3⟩ : ∃ w3, ((w2.alloc (.cells (timeCs fun _ => 0) 81)).setCells w2.heap.size 0 (timeL fun c => tmOf (F c))) = w3 := ⟨_, rfl⟩
  rw [hw3] at HS2
  have HW3 := Lib.hid hw3
  change wpList _ _ _ _ _ ((w2.alloc (.cells (timeCs fun _ => 0) 81)).setCells w2.heap.size 0 (timeL fun c => tmOf (F c)))
  rw [hw3]
  obtain ⟨gt, hgt⟩ : ∃ gt, w2.heap.size = gt := ⟨_, rfl⟩
  rw [hgt] at HS2 ⊢
  clear hw3 hgt HW3 HTh
  obtain ⟨nC, hnC⟩ : ∃ n : Nat, n = m.C.length := ⟨_, rfl⟩
  have hnn : nC = ww * hh := hnC.trans HCl.out
  obtain ⟨q0, q1, q2, q3, -⟩ := HS2.out.box.four
  rw [← hnC] at q3
  subst hnn
  have HN := Lib.hid hnC
  clear p0 p1 p2 p3 hnC
  go_wp2_with fail
  go_loopg [22, 8] (ww * hh) (fun q c f wr => ∃ k : Nat, k ≤ ww * hh ∧ q = ww * hh - k ∧ c = .int .i64 k ∧ f = .int .i64 (farP F i k : Nat) ∧ Fa w #[.int .i64 m.W, .int .i64 m.H, .slice a m.R.length ca, .slice b m.C.length cb] gt (fun c => tmOf (F c)) wr)
  case atStart => exact ⟨0, Nat.zero_le _, rfl, rfl, by rw [farP_zero], HS2.out⟩
  case round =>
    clear HS2 q0 q1 q2 q3
    obtain ⟨k, hk, hq, rfl, rfl, hS⟩ := hrel
    have HS := Lib.hid hS
    obtain ⟨f, hf⟩ : ∃ f, farP F i k = f := ⟨_, rfl⟩
    have hfl : f < ww * hh := by rw [← hf]; exact farP_lt hil hk
    have HFv := Lib.hid (show F f = if 0 < (farK F k).2 then (farK F k).2 else 0 from by rw [← hf]; exact farP_val HF0.out k)
    have HFf := Lib.hid hf
    have hf0 : 0 ≤ F f := by rw [HFv.out]; split <;> omega
    rw [hf]
    obtain ⟨t1, t2⟩ := time_cell hS.tms (j := f) (by omega)
    rw [show tmOf (F f) = F f from if_neg (by omega)] at t1
    clear hS hf
    by_cases hlt : k < ww * hh
    · obtain ⟨s1, s2⟩ := time_cell HS.out.tms (j := k) (by omega)
      have hk36 : (k : Int) < 36 := by omega
      have hf36 : (f : Int) < 36 := by omega
      obtain ⟨x, hx⟩ : ∃ x, F k = x := ⟨_, rfl⟩
      obtain ⟨y, hy⟩ : ∃ y, F f = y := ⟨_, rfl⟩
      have HX := Lib.hid hx
      have HY := Lib.hid hy
      have hb := HFb.out k
      rw [hx] at s1 hb
      rw [hy] at t1 hf0
      clear hx hy
      by_cases hneg : x < 0
      · rw [show tmOf x = 9223372036854775807 from if_pos hneg] at s1
        have HSk := Lib.hid (farP_skip HF0.out (k := k) (.inl (by rw [HX.out]; exact hneg)))
        go_upto_region 8 with (fail)
        go_quiet (fail)
        go_wp2_with fail
        go_roundg (ww * hh - (k + 1))
        case measure => omega
        case rel => exact ⟨k + 1, by omega, rfl, by go_num, by rw [HSk.out, HFf.out], HS.out.later (Next.below_drewN (Below.refl _ _) _)⟩
      · rw [show tmOf x = x from if_neg hneg] at s1
        have hne : (x != 9223372036854775807) = true := by rw [bne_iff_ne]; omega
        by_cases hgt : y < x
        · have HTk := Lib.hid (farP_take HF0.out (k := k) (by rw [HX.out]; omega) (by rw [HFf.out, HX.out, HY.out]; exact hgt))
          go_upto_region 8 with (fail)
          go_quiet (fail)
          go_wp2_with fail
          go_roundg (ww * hh - (k + 1))
          case measure => omega
          case rel => exact ⟨k + 1, by omega, rfl, by go_num, by rw [HTk.out], HS.out.later (Next.below_drewN (Below.refl _ _) _)⟩
        · have HSk := Lib.hid (farP_skip HF0.out (k := k) (.inr (by rw [HFf.out, HX.out, HY.out]; omega)))
          have hd : decide (y < x) = false := by simpa using hgt
          clear hgt
          go_upto_region 8 with (fail)
          go_quiet (fail)
          go_wp2_with fail
          go_roundg (ww * hh - (k + 1))
          case measure => omega
          case rel => exact ⟨k + 1, by omega, rfl, by go_num, by rw [HSk.out, HFf.out], HS.out.later (Next.below_drewN (Below.refl _ _) _)⟩
    · obtain rfl : k = ww * hh := by omega
      have hE := farP_end HF0.out hil HFz.out
      rw [HFf.out] at hE
      have HE := Lib.hid hE
      have hf36 : (f : Int) < 36 := by omega
      clear hE
      go_upto_region 11 with (fail)
      go_quiet (fail)
      go_wp2_with fail
      go_ret3
      exact ⟨fret (by rw [HE.out.1]) HE.out.2.symm rfl, Next.below_drewN HS.out.b _⟩

/-- The answer. -/
theorem both (m : Mp) (T : Nat → Nat → Int) (hT : TT m T) (p : Int) : ∃ (c t : Int) (ok : Bool), (ok = askB m p p) ∧
    (ok = true → ∃ ww hh i F, GoodM m ww hh ∧ p = (i : Nat) ∧ Opn m (ww * hh) i ∧ IsD m (stp m) i F ∧ c = ((farK F (ww * hh)).1 : Nat) ∧ t = (farK F (ww * hh)).2) ∧
    (∀ a b ca cb w, m.R.length ≤ maxLen → m.C.length ≤ maxLen → IRow w a m.R → IRow w b m.C → Calls Try.prog 38 #[.agg #[.int .i64 m.W, .int .i64 m.H, .slice a m.R.length ca, .slice b m.C.length cb], .int .i64 p] w (FPost w c t ok)) ∧
    (∀ a b ca cb w, m.R.length ≤ maxLen → m.C.length ≤ maxLen → IRow w a m.R → IRow w b m.C → Calls Try.prog 34 #[.agg #[.int .i64 m.W, .int .i64 m.H, .slice a m.R.length ca, .slice b m.C.length cb], .int .i64 p] w (FPost w c t ok)) := by
  cases ha : askB m p p with
  | false => exact ⟨0, 0, false, rfl, (fun e => by cases e), fun a b ca cb w hR hC hr hc => spec_no m p ha a b ca cb w hR hC hr hc, fun a b ca cb w hR hC hr hc => impl_no m p ha a b ca cb w hR hC hr hc⟩
  | true =>
    obtain ⟨hok, h1, _⟩ := askB_of ha
    obtain ⟨ww, hh, g⟩ := good_of hok
    obtain ⟨i, rfl, hi⟩ := opB_of g h1
    obtain ⟨F, hF⟩ := isD_ex g hi (wts_from g)
    exact ⟨_, _, true, rfl, fun _ => ⟨ww, hh, i, F, g, rfl, hi, hF, rfl, rfl⟩, fun a b ca cb w _ _ hr hc => spec_ask m T ww hh g hT i hi F hF a b ca cb w hr hc, fun a b ca cb w _ _ hr hc => impl_ask m ww hh g i hi F hF a b ca cb w hr hc⟩
theorem both_v (m : Mp) (p : Int) : ∃ (c t : Int) (ok : Bool),
    (∀ a b ca cb w, m.R.length ≤ maxLen → m.C.length ≤ maxLen → IRow w a m.R → IRow w b m.C → Calls Try.prog 38 #[.agg #[.int .i64 m.W, .int .i64 m.H, .slice a m.R.length ca, .slice b m.C.length cb], .int .i64 p] w (FPost w c t ok)) ∧
    (∀ a b ca cb w, m.R.length ≤ maxLen → m.C.length ≤ maxLen → IRow w a m.R → IRow w b m.C → Calls Try.prog 34 #[.agg #[.int .i64 m.W, .int .i64 m.H, .slice a m.R.length ca, .slice b m.C.length cb], .int .i64 p] w (FPost w c t ok)) := by
  obtain ⟨T, hT⟩ := tt_ex m
  obtain ⟨c, t, ok, -, -, h1, h2⟩ := both m T hT p
  exact ⟨c, t, ok, h1, h2⟩
end Go.Proofs.Ytjngnjokbnklfaa.FarI
