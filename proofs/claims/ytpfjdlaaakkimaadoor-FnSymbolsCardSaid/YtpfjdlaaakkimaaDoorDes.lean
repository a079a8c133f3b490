/- Whether two features have the same words: the program and the model. -/
import Derived.Test.YtpfjdlaaakkimaaDoorSpO
import Derived.Test.YtpfjdlaaakkimaaDoorTxt
import Derived.Test.YtpfjdlaaakkimaaDoorFtO
import Derived.Deep.RegionHeld3
namespace Go.Proofs.YtpfjdlaaakkimaaDoor.Des
open Go.RowKit Lb Bk FtS FtO
set_option linter.unusedSimpArgs false
set_option linter.unusedVariables false

/-- What stands: the two boxes. -/
structure Tb (w0 W : World) (f g : Ft) : Prop where
  K : Blk W w0.heap.size 25 #[.int .i64 f.c, .string f.wh, .string f.wt, .string f.lk, .string f.sd]
  R : Blk W (w0.heap.size + 1) 25 #[.int .i64 g.c, .string g.wh, .string g.wt, .string g.lk, .string g.sd]
  B : Below w0.heap.size w0 W
theorem Tb.later {w0 W W' : World} {f g : Ft} (h : Tb w0 W f g) (hb : Below W.heap.size W W') : Tb w0 W' f g := ⟨h.K.later hb, h.R.later hb, h.B.trans (hb.mono h.B.size)⟩
theorem Tb.drew {w0 W : World} {f g : Ft} (h : Tb w0 W f g) : Tb w0 W.drew f g := ⟨h.K, h.R, h.B.drew⟩
theorem Tb.start (w : World) (f g : Ft) : Tb w ((w.alloc (.cells #[.int .i64 f.c, .string f.wh, .string f.wt, .string f.lk, .string f.sd] 25)).alloc (.cells #[.int .i64 g.c, .string g.wh, .string g.wt, .string g.lk, .string g.sd] 25)) f g :=
  ⟨(Blk.new w _ _).alloc _, Blk.at_ (by simp), ((Below.refl _ _).alloc (Nat.le_refl _) _).alloc (by simp) _⟩
theorem Tb.cells {w0 W : World} {f g : Ft} (h : Tb w0 W f g) : (W.cell? ⟨w0.heap.size, 0, none⟩ = some (.int .i64 f.c) ∧ W.cell? ⟨w0.heap.size, 1, none⟩ = some (.string f.wh) ∧ W.cell? ⟨w0.heap.size, 2, none⟩ = some (.string f.wt) ∧ W.cell? ⟨w0.heap.size, 3, none⟩ = some (.string f.lk) ∧ W.cell? ⟨w0.heap.size, 4, none⟩ = some (.string f.sd)) ∧ (W.cell? ⟨w0.heap.size + 1, 0, none⟩ = some (.int .i64 g.c) ∧ W.cell? ⟨w0.heap.size + 1, 1, none⟩ = some (.string g.wh) ∧ W.cell? ⟨w0.heap.size + 1, 2, none⟩ = some (.string g.wt) ∧ W.cell? ⟨w0.heap.size + 1, 3, none⟩ = some (.string g.lk) ∧ W.cell? ⟨w0.heap.size + 1, 4, none⟩ = some (.string g.sd)) :=
  ⟨⟨h.K.cell 0 rfl, h.K.cell 1 rfl, h.K.cell 2 rfl, h.K.cell 3 rfl, h.K.cell 4 rfl⟩, h.R.cell 0 rfl, h.R.cell 1 rfl, h.R.cell 2 rfl, h.R.cell 3 rfl, h.R.cell 4 rfl⟩

/-- What is answered. -/
def same (f g : Ft) : Bool := okF f && okF g && ((txF f).toList == (txF g).toList)
def known (f g : Ft) : Bool := okF f && okF g

set_option maxHeartbeats 4000000 in
theorem impl_any (f g : Ft) (w : World) : Calls Tryd.prog 20 #[.agg #[.int .i64 f.c, .string f.wh, .string f.wt, .string f.lk, .string f.sd], .agg #[.int .i64 g.c, .string g.wh, .string g.wt, .string g.lk, .string g.sd]] w fun e w' => e = .returned (.tuple #[.bool (same f g), .bool (known f g)]) ∧ Below w.heap.size w w' := by
  have HS0 := Lib.hid (Tb.start w f g)
  have HK := Lib.hid (show known f g = (okF f && okF g) from rfl)
  have HE := Lib.hid (show same f g = (okF f && okF g && ((txF f).toList == (txF g).toList)) from rfl)
  go_enter Tryd.func20, Tryd.ntmps20
  go_wp2_with fail
  refine (IsF.impl_any f _).mono ?_
  rintro e w1 ⟨rfl, hb1⟩
  have HS1 := Lib.hid (HS0.out.later hb1)
  clear hb1
  obtain ⟨⟨p0, p1, p2, p3, p4⟩, q0, q1, q2, q3, q4⟩ := HS1.out.cells
  by_cases h1 : okF f = true
  · have HF := Lib.hid (of_decide_eq_true (p := OkF f) h1)
    rw [h1] at HK HE ⊢
    clear h1
    go_wp2_with fail
    refine (IsF.impl_any g _).mono ?_
    rintro e w2 ⟨rfl, hb2⟩
    have HS2 := Lib.hid (HS1.out.later hb2)
    clear hb2 p0 p1 p2 p3 p4 q0 q1 q2 q3 q4
    obtain ⟨⟨p0, p1, p2, p3, p4⟩, q0, q1, q2, q3, q4⟩ := HS2.out.cells
    by_cases h2 : okF g = true
    · have HG := Lib.hid (of_decide_eq_true (p := OkF g) h2)
      rw [h2] at HK HE ⊢
      clear h2
      have HS := HS2
      go_wp2
      go_region_held3 (fun W : World => (W.cell? ⟨w.heap.size, 0, none⟩ = some (.int .i64 f.c) ∧ W.cell? ⟨w.heap.size, 1, none⟩ = some (.string f.wh) ∧ W.cell? ⟨w.heap.size, 2, none⟩ = some (.string f.wt) ∧ W.cell? ⟨w.heap.size, 3, none⟩ = some (.string f.lk) ∧ W.cell? ⟨w.heap.size, 4, none⟩ = some (.string f.sd)) ∧ (W.cell? ⟨w.heap.size + 1, 0, none⟩ = some (.int .i64 g.c) ∧ W.cell? ⟨w.heap.size + 1, 1, none⟩ = some (.string g.wh) ∧ W.cell? ⟨w.heap.size + 1, 2, none⟩ = some (.string g.wt) ∧ W.cell? ⟨w.heap.size + 1, 3, none⟩ = some (.string g.lk) ∧ W.cell? ⟨w.heap.size + 1, 4, none⟩ = some (.string g.sd))) (first | with_reducible exact HS.out.cells | with_reducible exact HS.out.drew.cells) (first
        | (go_at_call 43; have HD := Lib.hid HT.out; refine (Txt.impl_text g HG.out.short _).mono ?_; rintro e w3 ⟨rfl, hb3⟩; have HS3 := Lib.hid (show Tb w w3 f g from by first | exact HS.out.later hb3 | exact HS.out.drew.later hb3); clear hb3; have HS := HS3)
        | (go_at_call 43; refine (Txt.impl_text f HF.out.short _).mono ?_; rintro e w3 ⟨rfl, hb3⟩; have HS3 := Lib.hid (show Tb w w3 f g from by first | exact HS.out.later hb3 | exact HS.out.drew.later hb3); clear hb3; have HS := HS3; have HT := Lib.hid True.intro))
      all_goals go_wp2
      all_goals go_ret2
      all_goals exact ⟨by rw [HK.out, HE.out]; rfl, HS.out.B⟩
    · have h2' : okF g = false := by simpa using h2
      rw [h2'] at HK HE ⊢
      clear h2 h2'
      go_wp2
      go_ret2
      exact ⟨by rw [HK.out, HE.out]; rfl, HS2.out.B⟩
  · have h1' : okF f = false := by simpa using h1
    rw [h1'] at HK HE ⊢
    clear h1 h1'
    go_wp2
    go_ret2
    exact ⟨by rw [HK.out, HE.out]; rfl, HS1.out.B⟩

set_option maxHeartbeats 4000000 in
theorem spec_any (f g : Ft) (w : World) : Calls Tryd.prog 21 #[.agg #[.int .i64 f.c, .string f.wh, .string f.wt, .string f.lk, .string f.sd], .agg #[.int .i64 g.c, .string g.wh, .string g.wt, .string g.lk, .string g.sd]] w fun e w' => e = .returned (.tuple #[.bool (same f g), .bool (known f g)]) ∧ Below w.heap.size w w' := by
  have HS0 := Lib.hid (Tb.start w f g)
  have HK := Lib.hid (show known f g = (okF f && okF g) from rfl)
  have HE := Lib.hid (show same f g = (okF f && okF g && ((txF f).toList == (txF g).toList)) from rfl)
  go_enter Tryd.func21, Tryd.ntmps21
  go_wp2_with fail
  refine (SpO.spec_any f _).mono ?_
  rintro e w1 ⟨rfl, hb1⟩
  have HS1 := Lib.hid (HS0.out.later hb1)
  clear hb1
  obtain ⟨⟨p0, p1, p2, p3, p4⟩, q0, q1, q2, q3, q4⟩ := HS1.out.cells
  by_cases h1 : okF f = true
  · have HF := Lib.hid (of_decide_eq_true (p := OkF f) h1)
    rw [h1] at HK HE ⊢
    clear h1
    go_wp2_with fail
    refine (SpO.spec_any g _).mono ?_
    rintro e w2 ⟨rfl, hb2⟩
    have HS2 := Lib.hid (HS1.out.later hb2)
    clear hb2 p0 p1 p2 p3 p4 q0 q1 q2 q3 q4
    obtain ⟨⟨p0, p1, p2, p3, p4⟩, q0, q1, q2, q3, q4⟩ := HS2.out.cells
    by_cases h2 : okF g = true
    · have HG := Lib.hid (of_decide_eq_true (p := OkF g) h2)
      rw [h2] at HK HE ⊢
      clear h2
      have HS := HS2
      go_wp2
      go_region_held3 (fun W : World => (W.cell? ⟨w.heap.size, 0, none⟩ = some (.int .i64 f.c) ∧ W.cell? ⟨w.heap.size, 1, none⟩ = some (.string f.wh) ∧ W.cell? ⟨w.heap.size, 2, none⟩ = some (.string f.wt) ∧ W.cell? ⟨w.heap.size, 3, none⟩ = some (.string f.lk) ∧ W.cell? ⟨w.heap.size, 4, none⟩ = some (.string f.sd)) ∧ (W.cell? ⟨w.heap.size + 1, 0, none⟩ = some (.int .i64 g.c) ∧ W.cell? ⟨w.heap.size + 1, 1, none⟩ = some (.string g.wh) ∧ W.cell? ⟨w.heap.size + 1, 2, none⟩ = some (.string g.wt) ∧ W.cell? ⟨w.heap.size + 1, 3, none⟩ = some (.string g.lk) ∧ W.cell? ⟨w.heap.size + 1, 4, none⟩ = some (.string g.sd))) (first | with_reducible exact HS.out.cells | with_reducible exact HS.out.drew.cells) (first
        | (go_at_call 46; have HD := Lib.hid HT.out; refine (Txt.spec_text g HG.out.short _).mono ?_; rintro e w3 ⟨rfl, hb3⟩; have HS3 := Lib.hid (show Tb w w3 f g from by first | exact HS.out.later hb3 | exact HS.out.drew.later hb3); clear hb3; have HS := HS3)
        | (go_at_call 46; refine (Txt.spec_text f HF.out.short _).mono ?_; rintro e w3 ⟨rfl, hb3⟩; have HS3 := Lib.hid (show Tb w w3 f g from by first | exact HS.out.later hb3 | exact HS.out.drew.later hb3); clear hb3; have HS := HS3; have HT := Lib.hid True.intro))
      all_goals go_wp2
      all_goals go_ret2
      all_goals exact ⟨by rw [HK.out, HE.out]; rfl, HS.out.B⟩
    · have h2' : okF g = false := by simpa using h2
      rw [h2'] at HK HE ⊢
      clear h2 h2'
      go_wp2
      go_ret2
      exact ⟨by rw [HK.out, HE.out]; rfl, HS2.out.B⟩
  · have h1' : okF f = false := by simpa using h1
    rw [h1'] at HK HE ⊢
    clear h1 h1'
    go_wp2
    go_ret2
    exact ⟨by rw [HK.out, HE.out]; rfl, HS1.out.B⟩

end Go.Proofs.YtpfjdlaaakkimaaDoor.Des
