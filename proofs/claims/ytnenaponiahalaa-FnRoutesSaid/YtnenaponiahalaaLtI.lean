/- LeastTime: the program and the model. -/
import Derived.Test.YtnenaponiahalaaTmsI
import Derived.Test.YtnenaponiahalaaBfoS
namespace Go.Proofs.Ytnenaponiahalaa.LtI
open Go.RowKit Lb IntS MapS MapV High Cells StepT StpF SpecB DjkB OpnI TmsI
open Go.Proofs.Ytnenaponiahalaa.BfoB (oL oL_len oL_at own_at own_cell)
set_option linter.unusedSimpArgs false
set_option linter.unusedVariables false

theorem ok_of {m : Mp} {ww hh : Nat} (g : GoodM m ww hh) : m.ok := by
  have hW := g.W
  have hH := g.H
  have hw1 := g.w1
  have hw6 := g.w6
  have hh1 := g.h1
  have hh6 := g.h6
  have hR := g.R
  have hC := g.C
  refine ⟨⟨by omega, by omega, by omega, by omega, ?_, by omega⟩, fun i hi => g.cell i (by omega)⟩
  rw [hR, hW, hH, Int.natCast_mul]
/-- The least times to all open cells. -/
def TT (m : Mp) (T : Nat → Nat → Int) : Prop := ∀ ww hh, GoodM m ww hh → ∀ b, Opn m (ww * hh) b → IsD m (fun x y => stp m y x) b (T b)
theorem tt_ex (m : Mp) : ∃ T, TT m T := by
  by_cases h : m.ok
  · obtain ⟨ww, hh, g⟩ := good_of h
    have hu : ∀ w' h', GoodM m w' h' → w' = ww ∧ h' = hh := fun w' h' g' => by
      have e1 := g.W
      have e2 := g'.W
      have e3 := g.H
      have e4 := g'.H
      exact ⟨by omega, by omega⟩
    have : ∀ b, ∃ D, Opn m (ww * hh) b → IsD m (fun x y => stp m y x) b D := fun b => by
      by_cases ho : Opn m (ww * hh) b
      · obtain ⟨D, hD⟩ := isD_ex g ho (wts_to g)
        exact ⟨D, fun _ => hD⟩
      · exact ⟨fun _ => 0, fun e => absurd e ho⟩
    refine ⟨fun b => (this b).choose, fun w' h' g' b hb => ?_⟩
    obtain ⟨rfl, rfl⟩ := hu w' h' g'
    exact (this b).choose_spec hb
  · exact ⟨fun _ _ => 0, fun w' h' g' => absurd (ok_of g') h⟩

/-- The answer. -/
def ltB (m : Mp) (T : Nat → Nat → Int) (p q : Int) : Bool := askB m p q && decide (0 ≤ T q.toNat p.toNat)
def ltN (m : Mp) (T : Nat → Nat → Int) (p q : Int) : Int := if ltB m T p q then T q.toNat p.toNat else 0
theorem lt_no {m : Mp} {T : Nat → Nat → Int} {p q : Int} (h : askB m p q = false) : ltB m T p q = false ∧ ltN m T p q = 0 := by
  have h1 : ltB m T p q = false := by unfold ltB; rw [h]; rfl
  exact ⟨h1, by unfold ltN; rw [h1]; rfl⟩
theorem lt_far {m : Mp} {T : Nat → Nat → Int} {i j : Nat} (h : T j i < 0) : ltB m T (i : Nat) (j : Nat) = false ∧ ltN m T (i : Nat) (j : Nat) = 0 := by
  have h1 : ltB m T (i : Nat) (j : Nat) = false := by unfold ltB; rw [Int.toNat_natCast, Int.toNat_natCast, decide_eq_false (by omega)]; simp
  exact ⟨h1, by unfold ltN; rw [h1]; rfl⟩
theorem lt_yes {m : Mp} {T : Nat → Nat → Int} {i j : Nat} (ha : askB m (i : Nat) (j : Nat) = true) (h : 0 ≤ T j i) : ltB m T (i : Nat) (j : Nat) = true ∧ ltN m T (i : Nat) (j : Nat) = T j i := by
  have h1 : ltB m T (i : Nat) (j : Nat) = true := by unfold ltB; rw [ha, Int.toNat_natCast, Int.toNat_natCast, decide_eq_true h]; rfl
  exact ⟨h1, by unfold ltN; rw [h1, Int.toNat_natCast, Int.toNat_natCast]; rfl⟩
theorem irow_two (w : World) (p q : Int) (B : Nat) (hB : w.heap.size = B) : IRow (w.alloc (.cells #[.int .i64 p, .int .i64 q] 3)) (some ⟨B, 0, none⟩) [p, q] := by
  subst hB
  exact irow_new w [p, q]
theorem irow_one (w : World) (p : Int) (B : Nat) (hB : w.heap.size = B) : IRow (w.alloc (.cells #[.int .i64 p] 3)) (some ⟨B, 0, none⟩) [p] := by
  subst hB
  exact irow_new w [p]
theorem lret {n n' : Int} {b b' : Bool} (h1 : n' = n) (h2 : b' = b) : Ending.returned (.tuple #[.int .i64 n, .bool b]) = .returned (.tuple #[.int .i64 n', .bool b']) := by rw [h1, h2]
/-- A number and whether there is one. -/
def LPost (w : World) (n : Int) (ok : Bool) (e : Ending) (w' : World) : Prop := e = .returned (.tuple #[.int .i64 n, .bool ok]) ∧ Below w.heap.size w w'
theorem lens {m : Mp} {ww hh : Nat} (g : GoodM m ww hh) : m.R.length ≤ maxLen ∧ m.C.length ≤ maxLen := by
  have h1 := g.R
  have h2 := g.C
  have h3 := g.n36
  unfold maxLen
  omega

set_option maxHeartbeats 1000000 in
theorem spec_no (m : Mp) (T : Nat → Nat → Int) (p q : Int) (ha : askB m p q = false) (a b : Option Addr) (ca cb : Nat) (w : World) (hR : m.R.length ≤ maxLen) (hC : m.C.length ≤ maxLen) (hr : IRow w a m.R) (hc : IRow w b m.C) :
    Calls Try.prog 20 #[.agg #[.int .i64 m.W, .int .i64 m.H, .slice a m.R.length ca, .slice b m.C.length cb], .int .i64 p, .int .i64 q] w (LPost w (ltN m T p q) (ltB m T p q)) := by
  have HB := Lib.hid ((Below.refl w.heap.size w).alloc (Nat.le_refl _) (.cells #[.int .i64 m.W, .int .i64 m.H, .slice a m.R.length ca, .slice b m.C.length cb] 26))
  have HL := Lib.hid (lt_no (T := T) ha)
  have HA := Lib.hid ha
  clear ha
  go_enter Try.func20, Try.ntmps20
  go_wp2_with fail
  refine (asked_any m p q a b ca cb _ hR hC (RowAt.below hr HB.out) (RowAt.below hc HB.out)).mono ?_
  rw [HA.out]
  rintro e w1 ⟨rfl, hb1⟩
  have HB1 := Lib.hid (HB.out.trans (hb1.mono (by simp)))
  clear hb1
  go_wp2_with fail
  go_ret2
  exact ⟨lret HL.out.2 HL.out.1, HB1.out⟩

set_option maxHeartbeats 2000000 in
theorem spec_ask (m : Mp) (T : Nat → Nat → Int) (ww hh : Nat) (g : GoodM m ww hh) (hT : TT m T) (i j : Nat) (hi : Opn m (ww * hh) i) (hj : Opn m (ww * hh) j) (ha : askB m (i : Nat) (j : Nat) = true) (a b : Option Addr) (ca cb : Nat) (w : World) (hr : IRow w a m.R) (hc : IRow w b m.C) :
    Calls Try.prog 20 #[.agg #[.int .i64 m.W, .int .i64 m.H, .slice a m.R.length ca, .slice b m.C.length cb], .int .i64 i, .int .i64 j] w (LPost w (ltN m T i j) (ltB m T i j)) := by
  obtain ⟨hR, hC⟩ := lens g
  have n36 := g.n36
  have HB := Lib.hid ((Below.refl w.heap.size w).alloc (Nat.le_refl _) (.cells #[.int .i64 m.W, .int .i64 m.H, .slice a m.R.length ca, .slice b m.C.length cb] 26))
  have HK := Lib.hid (Blk.new w 26 #[.int .i64 m.W, .int .i64 m.H, .slice a m.R.length ca, .slice b m.C.length cb])
  have HG := Lib.hid g
  have HR := Lib.hid hr
  have HC := Lib.hid hc
  have HJ := Lib.hid hj
  have HD := Lib.hid (hT ww hh g j hj)
  have hil : i < ww * hh := hi.1
  have hil2 : (i : Int) < (ww : Int) * (hh : Int) := by rw [← Int.natCast_mul]; omega
  obtain ⟨t, ht⟩ : ∃ t, T j i = t := ⟨_, rfl⟩
  have HT := Lib.hid ht
  have HA := Lib.hid ha
  have HV := Lib.hid (show (t < 0 → ltB m T (i : Nat) (j : Nat) = false ∧ ltN m T (i : Nat) (j : Nat) = 0) ∧ (0 ≤ t → ltB m T (i : Nat) (j : Nat) = true ∧ ltN m T (i : Nat) (j : Nat) = t) from ⟨fun h => lt_far (by omega), fun h => by rw [← ht]; exact lt_yes ha (by omega)⟩)
  clear hr hc hi hj ha g hT ht
  go_enter Try.func20, Try.ntmps20
  go_wp2_with fail
  refine (asked_any m i j a b ca cb _ hR hC (RowAt.below HR.out HB.out) (RowAt.below HC.out HB.out)).mono ?_
  rw [HA.out]
  rintro e w1 ⟨rfl, hb1⟩
  have HB1 := Lib.hid (HB.out.trans (hb1.mono (by simp)))
  have HK1 := Lib.hid (HK.out.later hb1)
  clear hb1 HB HK
  obtain ⟨p0, p1, p2, p3, -⟩ := HK1.out.four
  go_wp2_with fail
  refine (BfoS.to_any m ww hh HG.out a b ca cb j _ (RowAt.below HR.out HB1.out) (RowAt.below HC.out HB1.out) HJ.out (T j) HD.out).mono ?_
  rintro e w2 ⟨⟨v, rfl, ho⟩, hb2⟩
  have HB2 := Lib.hid (HB1.out.trans (hb2.mono HB1.out.size))
  have HK2 := Lib.hid (HK1.out.later hb2)
  obtain ⟨gv, cv, rfl⟩ := own_at ho (by rw [oL_len]; omega)
  have hx := (own_cell ho (j := i) (by rw [oL_len]; exact hil)).1
  rw [oL_at _ hil, HT.out] at hx
  rw [oL_len]
  clear hb2 ho p0 p1 p2 p3 HB1 HK1
  obtain ⟨p0, p1, p2, p3, -⟩ := HK2.out.four
  by_cases hneg : t < 0
  · have HL := Lib.hid (HV.out.1 hneg)
    clear HV
    go_wp2_with fail
    go_ret2
    exact ⟨lret HL.out.2 HL.out.1, HB2.out⟩
  · have HL := Lib.hid (HV.out.2 (by omega))
    have hneg' : decide (t < 0) = false := by simpa using hneg
    clear HV
    go_wp2_with fail
    refine (BfoS.to_any m ww hh HG.out a b ca cb j _ (RowAt.below HR.out HB2.out) (RowAt.below HC.out HB2.out) HJ.out (T j) HD.out).mono ?_
    rintro e w3 ⟨⟨v, rfl, ho⟩, hb3⟩
    have HB3 := Lib.hid (HB2.out.trans (hb3.mono HB2.out.size))
    obtain ⟨gu, cu, rfl⟩ := own_at ho (by rw [oL_len]; omega)
    have hy := (own_cell ho (j := i) (by rw [oL_len]; exact hil)).1
    rw [oL_at _ hil, HT.out] at hy
    rw [oL_len]
    clear hb3 ho p0 p1 p2 p3 HB2 HK2 hx
    go_wp2_with fail
    go_ret2
    exact ⟨lret HL.out.2 HL.out.1, HB3.out⟩

set_option maxHeartbeats 1000000 in
theorem impl_no (m : Mp) (T : Nat → Nat → Int) (p q : Int) (ha : askB m p q = false) (a b : Option Addr) (ca cb : Nat) (w : World) (hR : m.R.length ≤ maxLen) (hC : m.C.length ≤ maxLen) (hr : IRow w a m.R) (hc : IRow w b m.C) :
    Calls Try.prog 19 #[.agg #[.int .i64 m.W, .int .i64 m.H, .slice a m.R.length ca, .slice b m.C.length cb], .int .i64 p, .int .i64 q] w (LPost w (ltN m T p q) (ltB m T p q)) := by
  have HB := Lib.hid (show Below w.heap.size w ((w.alloc (.cells #[.int .i64 m.W, .int .i64 m.H, .slice a m.R.length ca, .slice b m.C.length cb] 26)).alloc (.cells #[.int .i64 p, .int .i64 q] 3)) from ((Below.refl _ _).alloc (Nat.le_refl _) _).alloc (by simp) _)
  have HZ := Lib.hid (irow_two (w.alloc (.cells #[.int .i64 m.W, .int .i64 m.H, .slice a m.R.length ca, .slice b m.C.length cb] 26)) p q (w.heap.size + 1) (by simp))
  have HL := Lib.hid (lt_no (T := T) ha)
  rw [← allO_two] at ha
  have HA := Lib.hid ha
  clear ha
  go_enter Try.func19, Try.ntmps19
  go_wp2_with fail
  refine (areopen_any m a b ca cb _ 2 [p, q] _ hR hC (RowAt.below hr HB.out) (RowAt.below hc HB.out) HZ.out (by simp)).mono ?_
  rw [HA.out]
  rintro e w1 ⟨rfl, hb1⟩
  have HB1 := Lib.hid (HB.out.trans (hb1.mono HB.out.size))
  clear hb1
  go_wp2_with fail
  go_ret2
  exact ⟨lret HL.out.2 HL.out.1, HB1.out⟩

set_option maxHeartbeats 2000000 in
theorem impl_ask (m : Mp) (T : Nat → Nat → Int) (ww hh : Nat) (g : GoodM m ww hh) (hT : TT m T) (i j : Nat) (hi : Opn m (ww * hh) i) (hj : Opn m (ww * hh) j) (ha : askB m (i : Nat) (j : Nat) = true) (a b : Option Addr) (ca cb : Nat) (w : World) (hr : IRow w a m.R) (hc : IRow w b m.C) :
    Calls Try.prog 19 #[.agg #[.int .i64 m.W, .int .i64 m.H, .slice a m.R.length ca, .slice b m.C.length cb], .int .i64 i, .int .i64 j] w (LPost w (ltN m T i j) (ltB m T i j)) := by
  obtain ⟨hR, hC⟩ := lens g
  have n36 := g.n36
  have HB := Lib.hid (show Below w.heap.size w ((w.alloc (.cells #[.int .i64 m.W, .int .i64 m.H, .slice a m.R.length ca, .slice b m.C.length cb] 26)).alloc (.cells #[.int .i64 i, .int .i64 j] 3)) from ((Below.refl _ _).alloc (Nat.le_refl _) _).alloc (by simp) _)
  have HZ := Lib.hid (irow_two (w.alloc (.cells #[.int .i64 m.W, .int .i64 m.H, .slice a m.R.length ca, .slice b m.C.length cb] 26)) (i : Nat) (j : Nat) (w.heap.size + 1) (by simp))
  have HK := Lib.hid (show Blk ((w.alloc (.cells #[.int .i64 m.W, .int .i64 m.H, .slice a m.R.length ca, .slice b m.C.length cb] 26)).alloc (.cells #[.int .i64 i, .int .i64 j] 3)) w.heap.size 26 #[.int .i64 m.W, .int .i64 m.H, .slice a m.R.length ca, .slice b m.C.length cb] from (Blk.new w 26 #[.int .i64 m.W, .int .i64 m.H, .slice a m.R.length ca, .slice b m.C.length cb]).alloc _)
  have HG := Lib.hid g
  have HR := Lib.hid hr
  have HC := Lib.hid hc
  have HI := Lib.hid hi
  obtain ⟨F, hF⟩ := isD_ex g hi (wts_from g)
  have HD := Lib.hid hF
  have hFT : F j = T j i := hF.swap g (fun _ _ => rfl) hi hj (hT ww hh g j hj)
  have hbd := hF.bd g hi (wts_from g) j
  have hjl : j < 36 := by have := hj.1; omega
  obtain ⟨t, ht⟩ : ∃ t, F j = t := ⟨_, rfl⟩
  have HV := Lib.hid (show (t < 0 → ltB m T (i : Nat) (j : Nat) = false ∧ ltN m T (i : Nat) (j : Nat) = 0) ∧ (0 ≤ t → ltB m T (i : Nat) (j : Nat) = true ∧ ltN m T (i : Nat) (j : Nat) = t) from ⟨fun h => lt_far (by omega), fun h => by rw [← ht, hFT]; exact lt_yes ha (by omega)⟩)
  have hix := index_times (fun k => tmOf (F k)) j hjl
  rw [ht] at hbd
  have hix2 : ∀ W, (Instr.index 92 (.agg (timeCs fun k => tmOf (F k))) (.int .i64 j)).run Try.prog W = .ok (.int .i64 (tmOf t)) W := fun W => by rw [← ht]; exact hix W
  rw [← allO_two] at ha
  have HA := Lib.hid ha
  clear hr hc hi hj ha g hT ht hF hFT hix
  go_enter Try.func19, Try.ntmps19
  go_wp2_with fail
  refine (areopen_any m a b ca cb _ 2 [(i : Nat), (j : Nat)] _ hR hC (RowAt.below HR.out HB.out) (RowAt.below HC.out HB.out) HZ.out (by simp)).mono ?_
  rw [HA.out]
  rintro e w1 ⟨rfl, hb1⟩
  have HB1 := Lib.hid (HB.out.trans (hb1.mono HB.out.size))
  have HK1 := Lib.hid (HK.out.later hb1)
  clear hb1 HB HK HZ
  obtain ⟨p0, p1, p2, p3, -⟩ := HK1.out.four
  go_wp2_with fail
  refine (TmsI.from_any m ww hh HG.out a b ca cb i _ (RowAt.below HR.out HB1.out) (RowAt.below HC.out HB1.out) HI.out F HD.out).mono ?_
  rintro e w2 ⟨rfl, hb2⟩
  have HB2 := Lib.hid (HB1.out.trans (hb2.mono HB1.out.size))
  clear hb2 p0 p1 p2 p3 HB1 HK1
  by_cases hneg : t < 0
  · have HL := Lib.hid (HV.out.1 hneg)
    have e : tmOf t = 9223372036854775807 := if_pos hneg
    rw [e] at hix2
    clear HV e
    go_wp2_with fail
    go_ret2
    exact ⟨lret HL.out.2 HL.out.1, HB2.out⟩
  · have HL := Lib.hid (HV.out.2 (by omega))
    have e : tmOf t = t := if_neg hneg
    rw [e] at hix2
    have hne : (t == 9223372036854775807) = false := by rw [beq_eq_false_iff_ne]; omega
    clear HV e
    go_wp2_with fail
    go_ret2
    exact ⟨lret HL.out.2 HL.out.1, HB2.out⟩

/-- Both texts answer alike. -/
theorem both (m : Mp) (T : Nat → Nat → Int) (hT : TT m T) (p q : Int) :
    (∀ a b ca cb w, m.R.length ≤ maxLen → m.C.length ≤ maxLen → IRow w a m.R → IRow w b m.C → Calls Try.prog 20 #[.agg #[.int .i64 m.W, .int .i64 m.H, .slice a m.R.length ca, .slice b m.C.length cb], .int .i64 p, .int .i64 q] w (LPost w (ltN m T p q) (ltB m T p q))) ∧
    (∀ a b ca cb w, m.R.length ≤ maxLen → m.C.length ≤ maxLen → IRow w a m.R → IRow w b m.C → Calls Try.prog 19 #[.agg #[.int .i64 m.W, .int .i64 m.H, .slice a m.R.length ca, .slice b m.C.length cb], .int .i64 p, .int .i64 q] w (LPost w (ltN m T p q) (ltB m T p q))) := by
  cases ha : askB m p q with
  | false => exact ⟨fun a b ca cb w hR hC hr hc => spec_no m T p q ha a b ca cb w hR hC hr hc, fun a b ca cb w hR hC hr hc => impl_no m T p q ha a b ca cb w hR hC hr hc⟩
  | true =>
    obtain ⟨hok, h1, h2⟩ := askB_of ha
    obtain ⟨ww, hh, g⟩ := good_of hok
    obtain ⟨i, rfl, hi⟩ := opB_of g h1
    obtain ⟨j, rfl, hj⟩ := opB_of g h2
    exact ⟨fun a b ca cb w hR hC hr hc => spec_ask m T ww hh g hT i j hi hj ha a b ca cb w hr hc, fun a b ca cb w hR hC hr hc => impl_ask m T ww hh g hT i j hi hj ha a b ca cb w hr hc⟩
theorem both_v (m : Mp) (p q : Int) : ∃ (n : Int) (ok : Bool),
    (∀ a b ca cb w, m.R.length ≤ maxLen → m.C.length ≤ maxLen → IRow w a m.R → IRow w b m.C → Calls Try.prog 20 #[.agg #[.int .i64 m.W, .int .i64 m.H, .slice a m.R.length ca, .slice b m.C.length cb], .int .i64 p, .int .i64 q] w (LPost w n ok)) ∧
    (∀ a b ca cb w, m.R.length ≤ maxLen → m.C.length ≤ maxLen → IRow w a m.R → IRow w b m.C → Calls Try.prog 19 #[.agg #[.int .i64 m.W, .int .i64 m.H, .slice a m.R.length ca, .slice b m.C.length cb], .int .i64 p, .int .i64 q] w (LPost w n ok)) := by
  obtain ⟨T, hT⟩ := tt_ex m
  exact ⟨_, _, both m T hT p q⟩

end Go.Proofs.Ytnenaponiahalaa.LtI
