/- A feature's text: the program and the model. -/
import Derived.Test.YtpfjdlaaakkimaaDoorSpO
import Derived.Test.YtpfjdlaaakkimaaDoorTxt
import Derived.Test.YtpfjdlaaakkimaaDoorFtO
import Derived.Test.YtpfjdlaaakkimaaDoorNumW
import Derived.Deep.RegionHeld3
namespace Go.Proofs.YtpfjdlaaakkimaaDoor.TxF
open Go.RowKit Lb Bk FtS FtO Fmt
set_option linter.unusedSimpArgs false
set_option linter.unusedVariables false

/-- What stands: the box. -/
structure To (w0 W : World) (f : Ft) : Prop where
  K : Blk W w0.heap.size 25 #[.int .i64 f.c, .string f.wh, .string f.wt, .string f.lk, .string f.sd]
  B : Below w0.heap.size w0 W
theorem To.later {w0 W W' : World} {f : Ft} (h : To w0 W f) (hb : Below W.heap.size W W') : To w0 W' f := ⟨h.K.later hb, h.B.trans (hb.mono h.B.size)⟩
theorem To.drew {w0 W : World} {f : Ft} (h : To w0 W f) : To w0 W.drew f := ⟨h.K, h.B.drew⟩
theorem To.drewN {w0 W : World} {f : Ft} (h : To w0 W f) (n : Nat) : To w0 (W.drewN n) f := ⟨h.K, below_drewN h.B n⟩
theorem To.start (w : World) (f : Ft) : To w (w.alloc (.cells #[.int .i64 f.c, .string f.wh, .string f.wt, .string f.lk, .string f.sd] 25)) f := ⟨Blk.new w _ _, (Below.refl _ _).alloc (Nat.le_refl _) _⟩
theorem To.cells {w0 W : World} {f : Ft} (h : To w0 W f) : W.cell? ⟨w0.heap.size, 0, none⟩ = some (.int .i64 f.c) ∧ W.cell? ⟨w0.heap.size, 1, none⟩ = some (.string f.wh) ∧ W.cell? ⟨w0.heap.size, 2, none⟩ = some (.string f.wt) ∧ W.cell? ⟨w0.heap.size, 3, none⟩ = some (.string f.lk) ∧ W.cell? ⟨w0.heap.size, 4, none⟩ = some (.string f.sd) :=
  ⟨h.K.cell 0 rfl, h.K.cell 1 rfl, h.K.cell 2 rfl, h.K.cell 3 rfl, h.K.cell 4 rfl⟩

/-- The code's digits. -/
def cod (f : Ft) : ByteArray := dec f.c.toNat
/-- What is answered. -/
def tx (f : Ft) : ByteArray := if okF f = true then cod f ++ txF f else ⟨#[]⟩
theorem tx_yes {f : Ft} (h : okF f = true) : tx f = cod f ++ txF f := if_pos h
theorem tx_no {f : Ft} (h : okF f = false) : tx f = ⟨#[]⟩ := by unfold tx; rw [if_neg (by rw [h]; decide)]
theorem cod_size {f : Ft} (h : OkF f) : (cod f).size ≤ 7 := dec_size _ (by have := h.2.1; omega)
theorem tx_size {f : Ft} : (tx f).size ≤ 53 := by
  cases h : okF f with
  | true =>
    have hk : OkF f := of_decide_eq_true h
    rw [tx_yes h, ByteArray.size_append]
    have := cod_size hk
    have := txF_size hk.short
    omega
  | false => rw [tx_no h]; exact Nat.zero_le _

theorem itoa_any (f : Ft) (h : OkF f) (w : World) : Calls Tryd.prog 42 #[.int .i64 f.c] w fun e w' => e = .returned (.string (cod f)) ∧ w' = w := by
  obtain ⟨u, hu⟩ : ∃ u : Nat, f.c = (u : Int) := ⟨f.c.toNat, by have := h.2.1; omega⟩
  have hc : cod f = dec u := by unfold cod; rw [hu, Int.toNat_natCast]
  rw [hc, hu]
  exact Tryd.strconv_Itoa_small u (by have := h.2.1; omega) w
theorem num_f (f : Ft) (h : OkF f) (w : World) : Calls Tryd.prog 45 #[.int .i64 f.c] w fun e w' => e = .returned (.string (cod f)) ∧ Still w w' := by
  obtain ⟨u, hu⟩ : ∃ u : Nat, f.c = (u : Int) := ⟨f.c.toNat, by have := h.2.1; omega⟩
  have hc : cod f = dec u := by unfold cod; rw [hu, Int.toNat_natCast]
  rw [hc, hu, ← fmtB_nat]
  exact num_any u (by omega) (by have := h.2.1; omega) w

set_option maxHeartbeats 4000000 in
theorem impl_any (f : Ft) (w : World) : Calls Tryd.prog 10 #[.agg #[.int .i64 f.c, .string f.wh, .string f.wt, .string f.lk, .string f.sd]] w fun e w' => e = .returned (.tuple #[.string (tx f), .bool (okF f)]) ∧ Below w.heap.size w w' := by
  have HS0 := Lib.hid (To.start w f)
  go_enter Tryd.func10, Tryd.ntmps10
  go_wp2_with fail
  refine (IsF.impl_any f _).mono ?_
  rintro e w1 ⟨rfl, hb1⟩
  have HS := Lib.hid (HS0.out.later hb1)
  clear hb1 HS0
  by_cases h1 : okF f = true
  · have HF := Lib.hid (of_decide_eq_true (p := OkF f) h1)
    have HT := Lib.hid (tx_yes h1)
    have H1 := Lib.hid h1
    have hc := cod_size HF.out
    have ht := txF_size HF.out.short
    have hcat : (9223372036854775807 < (cod f).size + (txF f).size) = False := by simp only [eq_iff_iff, iff_false]; omega
    rw [h1]
    clear h1
    go_wp2
    go_region_held3 (fun W : World => W.cell? ⟨w.heap.size, 0, none⟩ = some (.int .i64 f.c) ∧ W.cell? ⟨w.heap.size, 1, none⟩ = some (.string f.wh) ∧ W.cell? ⟨w.heap.size, 2, none⟩ = some (.string f.wt) ∧ W.cell? ⟨w.heap.size, 3, none⟩ = some (.string f.lk) ∧ W.cell? ⟨w.heap.size, 4, none⟩ = some (.string f.sd)) (first | with_reducible exact HS.out.cells | with_reducible exact HS.out.drew.cells) (first
      | (go_at_call 42; refine (itoa_any f HF.out _).mono ?_; rintro e w3 ⟨rfl, rfl⟩)
      | (go_at_call 43; refine (Txt.impl_text f HF.out.short _).mono ?_; rintro e w3 ⟨rfl, hb3⟩; have HS3 := Lib.hid (show To w w3 f from by first | exact HS.out.later hb3 | exact HS.out.drew.later hb3); clear hb3; have HS := HS3))
    all_goals go_wp2
    all_goals go_ret2
    all_goals exact ⟨by rw [HT.out, H1.out]; rfl, by first | exact HS.out.B | exact HS.out.drew.B⟩
  · have h1' : okF f = false := by simpa using h1
    have HT := Lib.hid (tx_no h1')
    have H1 := Lib.hid h1'
    rw [h1']
    clear h1 h1'
    go_wp2
    go_ret2
    exact ⟨by rw [HT.out, H1.out]; rfl, HS.out.B⟩

set_option maxHeartbeats 4000000 in
theorem spec_any (f : Ft) (w : World) : Calls Tryd.prog 11 #[.agg #[.int .i64 f.c, .string f.wh, .string f.wt, .string f.lk, .string f.sd]] w fun e w' => e = .returned (.tuple #[.string (tx f), .bool (okF f)]) ∧ Below w.heap.size w w' := by
  have HS0 := Lib.hid (To.start w f)
  go_enter Tryd.func11, Tryd.ntmps11
  go_wp2_with fail
  refine (SpO.spec_any f _).mono ?_
  rintro e w1 ⟨rfl, hb1⟩
  have HS := Lib.hid (HS0.out.later hb1)
  clear hb1 HS0
  by_cases h1 : okF f = true
  · have HF := Lib.hid (of_decide_eq_true (p := OkF f) h1)
    have HT := Lib.hid (tx_yes h1)
    have H1 := Lib.hid h1
    have hc := cod_size HF.out
    have ht := txF_size HF.out.short
    have hcat : (9223372036854775807 < (cod f).size + (txF f).size) = False := by simp only [eq_iff_iff, iff_false]; omega
    rw [h1]
    clear h1
    go_wp2
    go_region_held3 (fun W : World => W.cell? ⟨w.heap.size, 0, none⟩ = some (.int .i64 f.c) ∧ W.cell? ⟨w.heap.size, 1, none⟩ = some (.string f.wh) ∧ W.cell? ⟨w.heap.size, 2, none⟩ = some (.string f.wt) ∧ W.cell? ⟨w.heap.size, 3, none⟩ = some (.string f.lk) ∧ W.cell? ⟨w.heap.size, 4, none⟩ = some (.string f.sd)) (first | with_reducible exact HS.out.cells | with_reducible exact HS.out.drew.cells) (first
      | (go_at_call 45; refine (num_f f HF.out _).mono ?_; rintro e w3 ⟨rfl, hst⟩; have HS3 := Lib.hid (show To w w3 f from by first | exact HS.out.later (hst.below _) | exact HS.out.drew.later (hst.below _)); clear hst; have HS := HS3)
      | (go_at_call 46; refine (Txt.spec_text f HF.out.short _).mono ?_; rintro e w3 ⟨rfl, hb3⟩; have HS3 := Lib.hid (show To w w3 f from by first | exact HS.out.later hb3 | exact HS.out.drew.later hb3); clear hb3; have HS := HS3))
    all_goals go_wp2
    all_goals go_ret2
    all_goals exact ⟨by rw [HT.out, H1.out]; rfl, by first | exact HS.out.B | exact HS.out.drew.B⟩
  · have h1' : okF f = false := by simpa using h1
    have HT := Lib.hid (tx_no h1')
    have H1 := Lib.hid h1'
    rw [h1']
    clear h1 h1'
    go_wp2
    go_ret2
    exact ⟨by rw [HT.out, H1.out]; rfl, HS.out.B⟩

set_option maxHeartbeats 1000000 in
/-- 'FnExactFeatureText' answers as its model, at every argument. -/
theorem law_any (W : World) (ht : Tab W) (f : Ft) (hf : IsFt f) :
    Calls Tryd.prog 5 #[.agg #[.int .i64 f.c, .string f.wh, .string f.wt, .string f.lk, .string f.sd]] W fun e w' => e = .returned (.bool true) ∧ Below W.heap.size W w' := by
  clear ht
  have HS := Lib.hid (LSt.start W f)
  by_cases hsz : szF f ≤ 1048576
  · have HZ := Lib.hid hsz
    have hneg : decide ((1048576 : Int) - szF f < 0) = false := decide_eq_false (by omega)
    clear hsz
    go_enter Tryd.func5, Tryd.ntmps5
    go_wp2_with (first
      | (go_at_call 35; refine (sz_yes f _ _ (by decide) HZ.out).mono ?_; rintro e w2 ⟨rfl, hb2⟩; have HS2 := Lib.hid (HS.out.later hb2); clear hb2; have HS := HS2; obtain ⟨p0, p1, p2, p3, p4, -⟩ := HS2.out.K.five)
      | (go_at_call 36; refine (to_any f _).mono ?_; rintro e w2 ⟨rfl, hb2⟩; have HS2 := Lib.hid (HS.out.later hb2); clear hb2; have HS := HS2; obtain ⟨p0, p1, p2, p3, p4, -⟩ := HS2.out.K.five)
      | (go_at_call 11; refine (spec_any f _).mono ?_; rintro e w2 ⟨rfl, hb2⟩; have HS2 := Lib.hid (HS.out.later hb2); clear hb2; have HS := HS2; obtain ⟨p0, p1, p2, p3, p4, -⟩ := HS2.out.K.five)
      | (go_at_call 10; refine (impl_any f _).mono ?_; rintro e w2 ⟨rfl, hb2⟩; have HS2 := Lib.hid (HS.out.later hb2); clear hb2; have HS := HS2; obtain ⟨p0, p1, p2, p3, p4, -⟩ := HS2.out.K.five))
    go_ret
    exact ⟨rfl, HS.out.B⟩
  · have HZ := Lib.hid (show (1048576 : Int) < szF f by omega)
    clear hsz
    go_enter Tryd.func5, Tryd.ntmps5
    go_wp2_with (go_at_call 35; refine (sz_no f hf _ _ (by decide) (by decide) HZ.out).mono ?_; rintro e w2 ⟨rfl, hb2⟩; have HS2 := Lib.hid (HS.out.later hb2))
    go_ret
    exact ⟨rfl, HS2.out.B⟩

end Go.Proofs.YtpfjdlaaakkimaaDoor.TxF
