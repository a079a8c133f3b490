/- Whether a feature is valid: the model. -/
import Derived.Test.YtpfjdlaaakkimaaDoorSpF
import Derived.Test.YtpfjdlaaakkimaaDoorIsF
import Derived.Deep.CutRange
import Derived.Deep.RegionHeld3
namespace Go.Proofs.YtpfjdlaaakkimaaDoor.SpO
open Go.RowKit Lb Bk Word SpF
open IsF (ne_nil ne_emp ne_btw is_btw ok_fam ok_code ok_wh ok_lk ok_btw ok_all ok_none ok_some)
set_option linter.unusedSimpArgs false
set_option linter.unusedVariables false

theorem whiches_own (w : World) : Calls Tryd.prog 62 #[] w fun e w' => ∃ g, e = .returned (.slice (some ⟨g, 0, none⟩) whichs.length whichs.length) ∧ StrB w' g whichs ∧ Below w.heap.size w w' := by
  refine (whiches_any w).mono ?_
  rintro e w' ⟨rfl, rfl⟩
  exact ⟨_, rfl, Blk.new w _ _, (Below.refl _ _).alloc (Nat.le_refl _) _⟩
theorem looks_own (w : World) : Calls Tryd.prog 63 #[] w fun e w' => ∃ g, e = .returned (.slice (some ⟨g, 0, none⟩) looks.length looks.length) ∧ StrB w' g looks ∧ Below w.heap.size w w' := by
  refine (looks_any w).mono ?_
  rintro e w' ⟨rfl, rfl⟩
  exact ⟨_, rfl, Blk.new w _ _, (Below.refl _ _).alloc (Nat.le_refl _) _⟩

/-- What stands while a feature is looked at. -/
structure Sx (w0 W : World) (f : Ft) : Prop where
  K : Blk W w0.heap.size 25 #[.int .i64 f.c, .string f.wh, .string f.wt, .string f.lk, .string f.sd]
  B : Below w0.heap.size w0 W
theorem Sx.later {w0 W W' : World} {f : Ft} (h : Sx w0 W f) (hb : Below W.heap.size W W') : Sx w0 W' f := ⟨h.K.later hb, h.B.trans (hb.mono h.B.size)⟩
theorem Sx.drew {w0 W : World} {f : Ft} (h : Sx w0 W f) : Sx w0 W.drew f := ⟨h.K, h.B.drew⟩
theorem Sx.drewN {w0 W : World} {f : Ft} (h : Sx w0 W f) (n : Nat) : Sx w0 (W.drewN n) f := ⟨h.K, below_drewN h.B n⟩

theorem Sx.cells {w0 W : World} {f : Ft} (h : Sx w0 W f) : W.cell? ⟨w0.heap.size, 0, none⟩ = some (.int .i64 f.c) ∧ W.cell? ⟨w0.heap.size, 1, none⟩ = some (.string f.wh) ∧ W.cell? ⟨w0.heap.size, 2, none⟩ = some (.string f.wt) ∧ W.cell? ⟨w0.heap.size, 3, none⟩ = some (.string f.lk) ∧ W.cell? ⟨w0.heap.size, 4, none⟩ = some (.string f.sd) :=
  ⟨h.K.cell 0 rfl, h.K.cell 1 rfl, h.K.cell 2 rfl, h.K.cell 3 rfl, h.K.cell 4 rfl⟩

theorem in_q (x a b : Int) (v : Bool) (hv : decide (a ≤ x ∧ x ≤ b) = v) (w : World) (q : Nat) : Calls Tryd.prog 67 #[.int .i64 x, .int .i64 a, .int .i64 b] (w.drewN q) fun e w' => e = .returned (.bool v) ∧ ∃ j, w' = w.drewN j := by
  refine (in_any x a b _).mono ?_
  rw [hv]
  rintro e w' ⟨rfl, rfl⟩
  exact ⟨rfl, q, rfl⟩

theorem own_row {w : World} {base : Nat} {v : Value} {ss : List ByteArray} (h : w.ownsRow base 9 1 v ss.length (ss.map Value.string)) : ∃ a cap, v = .slice a ss.length cap ∧ StrRow w a ss := by
  rcases h.2 with ⟨rfl, h0⟩ | ⟨g, cap, cur, rfl, hb, _⟩
  · exact ⟨none, 0, by rw [h0], .inl h0⟩
  · exact ⟨some ⟨g, 0, none⟩, cap, rfl, (RowAt.of_owns h).congr fun k hk => by simp [sAt, hk]⟩

/-- What the first test tells. -/
def Fine (f : Ft) : Prop := (31 ≤ f.c ∧ f.c ≤ 99) ∧ fam f.wt < 5 ∧ (f.wh = ⟨#[]⟩ ∨ f.wh ∈ whichs) ∧ (f.lk = ⟨#[]⟩ ∨ f.lk ∈ looks)
instance (f : Ft) : Decidable (Fine f) := by unfold Fine; infer_instance
def badB (f : Ft) : Bool := decide (¬ Fine f)
theorem is_nil {x : ByteArray} (h : x = ⟨#[]⟩) : x.toList = [] := by rw [h, ByteArray.toList_eq]
theorem is_emp {x : ByteArray} (h : x = ⟨#[]⟩) : x.toList.isEmpty = true := by rw [is_nil h]; rfl
theorem bad_yes {f : Ft} (h : ¬ Fine f) : badB f = true := decide_eq_true h
theorem bad_no {f : Ft} (h : Fine f) : badB f = false := decide_eq_false (fun k => k h)
theorem bad_ok {f : Ft} (h : ¬ Fine f) : okF f = false := okF_no fun k => h ⟨k.2.1, k.1, k.2.2.1, k.2.2.2.1⟩
theorem bad_lk {f : Ft} (hc : 31 ≤ f.c ∧ f.c ≤ 99) (hf : fam f.wt < 5) (hw : f.wh = ⟨#[]⟩ ∨ f.wh ∈ whichs) (hl : ¬ f.lk = ⟨#[]⟩) : decide (idxZ looks f.lk < 0) = badB f := by
  unfold badB
  rw [Bool.eq_iff_iff, decide_eq_true_iff, decide_eq_true_iff]
  have h := idxZ_iff looks f.lk
  constructor
  · intro h1 h2
    rcases h2.2.2.2 with e | e
    · exact hl e
    · have := h.2 e; omega
  · intro h1
    by_cases e : f.lk ∈ looks
    · exact absurd ⟨hc, hf, hw, .inr e⟩ h1
    · rw [idxZ_none e]; omega

set_option maxHeartbeats 8000000 in
theorem spec_any (f : Ft) (w : World) : Calls Tryd.prog 44 #[.agg #[.int .i64 f.c, .string f.wh, .string f.wt, .string f.lk, .string f.sd]] w fun e w' => e = .returned (.bool (okF f)) ∧ Below w.heap.size w w' := by
  have HB := Lib.hid ((Below.refl w.heap.size w).alloc (Nat.le_refl _) (.cells #[.int .i64 f.c, .string f.wh, .string f.wt, .string f.lk, .string f.sd] 25))
  have HK := Lib.hid (Blk.new w 25 #[.int .i64 f.c, .string f.wh, .string f.wt, .string f.lk, .string f.sd])
  go_enter Tryd.func44, Tryd.ntmps44
  go_wp2_with fail
  refine (fam_any f.wt _).mono ?_
  rintro e w1 ⟨rfl, hb⟩
  have HS := Lib.hid (show Sx w w1 f from ⟨HK.out.later hb, HB.out.trans (hb.mono (by simp))⟩)
  clear hb HB HK
  have cin := Lib.hid (fun W => in_any f.c 31 99 W)
  go_upto_region 2 with (fail)
  go_cut [38] from 7 to 38 (fun t wx => t = .bool (badB f) ∧ Sx w wx f)
  case first =>
    by_cases hc : 31 ≤ f.c ∧ f.c ≤ 99
    · have hd := decide_eq_true hc
      have HC := Lib.hid hc
      clear hc
      by_cases hf : fam f.wt < 5
      · have HF := Lib.hid hf
        have hfn : decide (famZ f.wt < 0) = false := decide_eq_false (by rw [famZ_yes hf]; omega)
        clear hf
        by_cases hw : f.wh = ⟨#[]⟩
        · have hw1 := is_nil hw
          have hw2 := is_emp hw
          have HW := Lib.hid hw
          clear hw
          by_cases hl : f.lk = ⟨#[]⟩
          · have hl1 := is_nil hl
            have hl2 := is_emp hl
            have HL := Lib.hid hl
            clear hl
            have H := Lib.hid (bad_no ⟨HC.out, HF.out, .inl HW.out, .inl HL.out⟩)
            obtain ⟨p0, p1, p2, p3, p4, -⟩ := HS.out.K.five
            go_quiet ((go_at_call 67; exact in_q _ _ _ _ hd _ _))
            go_wp2
            go_meet
            exact ⟨by rw [H.out], by first | exact HS.out | exact HS.out.drew | exact HS.out.drewN _⟩
          · have hl1 := ne_nil hl
            have hl2 := ne_emp hl
            have H := Lib.hid (bad_lk HC.out HF.out (.inl HW.out) hl)
            obtain ⟨p0, p1, p2, p3, p4, -⟩ := HS.out.K.five
            first | go_region_with (first
              | (go_at_call 67; refine (cin.out _).mono ?_; rw [hd]; rintro e w2 ⟨rfl, rfl⟩)
              | (go_at_call 62; refine (whiches_own _).mono ?_; rintro e w2 ⟨g2, rfl, hs2, hb2⟩; have HS2 := Lib.hid (show Sx w w2 f from by first | exact HS.out.later hb2 | exact HS.out.drew.later hb2 | exact (HS.out.drewN _).later hb2); have HG2 := Lib.hid hs2; clear hb2 hs2; obtain ⟨p0, p1, p2, p3, p4, -⟩ := HS2.out.K.five; have HS := HS2)
              | (go_at_call 63; refine (looks_own _).mono ?_; rintro e w2 ⟨g3, rfl, hs2, hb2⟩; have HS2 := Lib.hid (show Sx w w2 f from by first | exact HS.out.later hb2 | exact HS.out.drew.later hb2 | exact (HS.out.drewN _).later hb2); have HG3 := Lib.hid hs2; clear hb2 hs2; obtain ⟨p0, p1, p2, p3, p4, -⟩ := HS2.out.K.five; have HS := HS2)
              | (go_at_call 61; refine (at_any _ _ looks f.lk _ HG3.out (by decide)).mono ?_; rintro e w2 ⟨rfl, rfl⟩)
              | (go_at_call 61; refine (at_any _ _ whichs f.wh _ HG2.out (by decide)).mono ?_; rintro e w2 ⟨rfl, rfl⟩)) | fail
            all_goals go_wp2
            all_goals go_meet
            all_goals exact ⟨by rw [H.out], by first | exact HS.out | exact HS.out.drew | exact HS.out.drewN _⟩
        · have hw1 := ne_nil hw
          have hw2 := ne_emp hw
          by_cases hwi : f.wh ∈ whichs
          · have hz1 : decide (idxZ whichs f.wh < 0) = false := decide_eq_false (by have := (idxZ_iff _ _).2 hwi; omega)
            by_cases hl : f.lk = ⟨#[]⟩
            · have hl1 := is_nil hl
              have hl2 := is_emp hl
              have HL := Lib.hid hl
              clear hl
              have H := Lib.hid (bad_no ⟨HC.out, HF.out, .inr hwi, .inl HL.out⟩)
              obtain ⟨p0, p1, p2, p3, p4, -⟩ := HS.out.K.five
              first | go_region_with (first
                | (go_at_call 67; refine (cin.out _).mono ?_; rw [hd]; rintro e w2 ⟨rfl, rfl⟩)
                | (go_at_call 62; refine (whiches_own _).mono ?_; rintro e w2 ⟨g2, rfl, hs2, hb2⟩; have HS2 := Lib.hid (show Sx w w2 f from by first | exact HS.out.later hb2 | exact HS.out.drew.later hb2 | exact (HS.out.drewN _).later hb2); have HG2 := Lib.hid hs2; clear hb2 hs2; obtain ⟨p0, p1, p2, p3, p4, -⟩ := HS2.out.K.five; have HS := HS2)
                | (go_at_call 63; refine (looks_own _).mono ?_; rintro e w2 ⟨g3, rfl, hs2, hb2⟩; have HS2 := Lib.hid (show Sx w w2 f from by first | exact HS.out.later hb2 | exact HS.out.drew.later hb2 | exact (HS.out.drewN _).later hb2); have HG3 := Lib.hid hs2; clear hb2 hs2; obtain ⟨p0, p1, p2, p3, p4, -⟩ := HS2.out.K.five; have HS := HS2)
                | (go_at_call 61; refine (at_any _ _ looks f.lk _ HG3.out (by decide)).mono ?_; rintro e w2 ⟨rfl, rfl⟩)
                | (go_at_call 61; refine (at_any _ _ whichs f.wh _ HG2.out (by decide)).mono ?_; rintro e w2 ⟨rfl, rfl⟩)) | fail
              all_goals go_wp2
              all_goals go_meet
              all_goals exact ⟨by rw [H.out], by first | exact HS.out | exact HS.out.drew | exact HS.out.drewN _⟩
            · have hl1 := ne_nil hl
              have hl2 := ne_emp hl
              have H := Lib.hid (bad_lk HC.out HF.out (.inr hwi) hl)
              first | go_region_held3 (fun W : World => W.cell? ⟨w.heap.size, 0, none⟩ = some (.int .i64 f.c) ∧ W.cell? ⟨w.heap.size, 1, none⟩ = some (.string f.wh) ∧ W.cell? ⟨w.heap.size, 2, none⟩ = some (.string f.wt) ∧ W.cell? ⟨w.heap.size, 3, none⟩ = some (.string f.lk) ∧ W.cell? ⟨w.heap.size, 4, none⟩ = some (.string f.sd)) (exact HS.out.cells) (first
                | (go_at_call 67; refine (cin.out _).mono ?_; rw [hd]; rintro e w2 ⟨rfl, rfl⟩)
                | (go_at_call 62; refine (whiches_own _).mono ?_; rintro e w2 ⟨g2, rfl, hs2, hb2⟩; have HS2 := Lib.hid (show Sx w w2 f from by first | exact HS.out.later hb2 | exact HS.out.drew.later hb2 | exact (HS.out.drewN _).later hb2); have HG2 := Lib.hid hs2; clear hb2 hs2; have HS := HS2)
                | (go_at_call 63; refine (looks_own _).mono ?_; rintro e w2 ⟨g3, rfl, hs2, hb2⟩; have HS2 := Lib.hid (show Sx w w2 f from by first | exact HS.out.later hb2 | exact HS.out.drew.later hb2 | exact (HS.out.drewN _).later hb2); have HG3 := Lib.hid hs2; clear hb2 hs2; have HS := HS2)
                | (go_at_call 61; refine (at_any _ _ looks f.lk _ HG3.out (by decide)).mono ?_; rintro e w2 ⟨rfl, rfl⟩)
                | (go_at_call 61; refine (at_any _ _ whichs f.wh _ HG2.out (by decide)).mono ?_; rintro e w2 ⟨rfl, rfl⟩)) | fail
              all_goals go_wp2
              all_goals go_meet
              all_goals exact ⟨by rw [H.out], by first | exact HS.out | exact HS.out.drew | exact HS.out.drewN _⟩
          · have hz1 : decide (idxZ whichs f.wh < 0) = true := decide_eq_true (by rw [idxZ_none hwi]; omega)
            have hu : undef = Value.tuple #[] := rfl
            have H := Lib.hid (bad_yes (f := f) fun k => by rcases k.2.2.1 with e | e; exact hw e; exact hwi e)
            obtain ⟨p0, p1, p2, p3, p4, -⟩ := HS.out.K.five
            first | go_region_with (first
              | (go_at_call 67; refine (cin.out _).mono ?_; rw [hd]; rintro e w2 ⟨rfl, rfl⟩)
              | (go_at_call 62; refine (whiches_own _).mono ?_; rintro e w2 ⟨g2, rfl, hs2, hb2⟩; have HS2 := Lib.hid (show Sx w w2 f from by first | exact HS.out.later hb2 | exact HS.out.drew.later hb2 | exact (HS.out.drewN _).later hb2); have HG2 := Lib.hid hs2; clear hb2 hs2; obtain ⟨p0, p1, p2, p3, p4, -⟩ := HS2.out.K.five; have HS := HS2)
              | (go_at_call 63; refine (looks_own _).mono ?_; rintro e w2 ⟨g3, rfl, hs2, hb2⟩; have HS2 := Lib.hid (show Sx w w2 f from by first | exact HS.out.later hb2 | exact HS.out.drew.later hb2 | exact (HS.out.drewN _).later hb2); have HG3 := Lib.hid hs2; clear hb2 hs2; obtain ⟨p0, p1, p2, p3, p4, -⟩ := HS2.out.K.five; have HS := HS2)
              | (go_at_call 61; refine (at_any _ _ looks f.lk _ HG3.out (by decide)).mono ?_; rintro e w2 ⟨rfl, rfl⟩)
              | (go_at_call 61; refine (at_any _ _ whichs f.wh _ HG2.out (by decide)).mono ?_; rintro e w2 ⟨rfl, rfl⟩)) | fail
            all_goals go_wp2
            all_goals go_meet
            all_goals exact ⟨by rw [H.out], by first | exact HS.out | exact HS.out.drew | exact HS.out.drewN _⟩
      · have hfn : decide (famZ f.wt < 0) = true := decide_eq_true (by rw [famZ_no hf]; omega)
        have H := Lib.hid (bad_yes (f := f) fun k => hf k.2.1)
        obtain ⟨p0, p1, p2, p3, p4, -⟩ := HS.out.K.five
        go_quiet ((go_at_call 67; exact in_q _ _ _ _ hd _ _))
        go_wp2
        go_meet
        exact ⟨by rw [H.out], by first | exact HS.out | exact HS.out.drew | exact HS.out.drewN _⟩
    · have hd := decide_eq_false hc
      have H := Lib.hid (bad_yes (f := f) fun k => hc k.1)
      obtain ⟨p0, p1, p2, p3, p4, -⟩ := HS.out.K.five
      go_quiet ((go_at_call 67; exact in_q _ _ _ _ hd _ _))
      go_wp2
      go_meet
      exact ⟨by rw [H.out], by first | exact HS.out | exact HS.out.drew | exact HS.out.drewN _⟩
  case rest =>
    obtain ⟨ht, hS⟩ := hcut
    have HS := Lib.hid hS
    clear hS
    by_cases hg : Fine f
    · rw [bad_no hg] at ht
      subst ht
      have HG := Lib.hid hg
      have hf5 := hg.2.1
      have hfz := famZ_yes hf5
      clear hg
      by_cases hs : f.sd = ⟨#[]⟩
      · obtain ⟨p0, p1, p2, p3, p4, -⟩ := HS.out.K.five
        have H := Lib.hid (ok_none HG.out.2.1 HG.out.1 HG.out.2.2.1 HG.out.2.2.2 hs)
        have hs1 := is_nil hs
        have hs2 := is_emp hs
        clear hs
        obtain ⟨p0, p1, p2, p3, p4, -⟩ := HS.out.K.five
        go_wp2
        go_quiet (fail)
        go_wp2
        go_ret
        exact ⟨ret_bool H.out.symm, (HS.out.drewN _).B⟩

      · have hs1 := ne_nil hs
        have hs2 := ne_emp hs
        by_cases hin : f.sd ∈ famS (fam f.wt)
        · have hz : decide (0 ≤ idxZ (famS (fam f.wt)) f.sd) = true := decide_eq_true ((idxZ_iff _ _).2 hin)
          by_cases hb : f.sd = between
          · have hb1 : f.sd.toList = [98, 101, 116, 119, 101, 101, 110] := is_btw hb
            by_cases hw : f.wh = ⟨#[]⟩
            · have H := Lib.hid (show okF f = true from by rw [ok_some HG.out.2.1 HG.out.1 HG.out.2.2.1 HG.out.2.2.2 (fun _ => hw) hs]; exact decide_eq_true hin)
              have hw1 := is_nil hw
              have hw2 := is_emp hw
              clear hb hin hw
              go_upto_region 4 with (fail)
              first | go_region_held3 (fun W : World => W.cell? ⟨w.heap.size, 0, none⟩ = some (.int .i64 f.c) ∧ W.cell? ⟨w.heap.size, 1, none⟩ = some (.string f.wh) ∧ W.cell? ⟨w.heap.size, 2, none⟩ = some (.string f.wt) ∧ W.cell? ⟨w.heap.size, 3, none⟩ = some (.string f.lk) ∧ W.cell? ⟨w.heap.size, 4, none⟩ = some (.string f.sd)) (exact HS.out.cells) (first
                | (go_at_call 74; (first | rw [hfz] | skip); refine (sides_any (fam f.wt) hf5 _).mono ?_; rintro e w2 ⟨v2, rfl, ho2, hb2⟩; have HS2 := Lib.hid (show Sx w w2 f from by first | exact HS.out.later hb2 | exact HS.out.drew.later hb2 | exact (HS.out.drewN _).later hb2); obtain ⟨a2, c2, rfl, hr2⟩ := own_row ho2; have HR2 := Lib.hid hr2; clear ho2 hb2 hr2; have HS := HS2)
                | (go_at_call 61; refine (at_row _ _ (famS (fam f.wt)) f.sd _ HR2.out (by have := famS_len (fam f.wt); omega)).mono ?_; rintro e w2 ⟨rfl, rfl⟩)) | fail
              all_goals go_wp2
              all_goals go_ret
              all_goals exact ⟨ret_bool H.out.symm, by first | exact HS.out.B | exact HS.out.drew.B | exact (HS.out.drewN _).B⟩
            · have H := Lib.hid (ok_btw hw hb)
              have hw1 := ne_nil hw
              have hw2 := ne_emp hw
              clear hb hin
              go_upto_region 4 with (fail)
              first | go_region_held3 (fun W : World => W.cell? ⟨w.heap.size, 0, none⟩ = some (.int .i64 f.c) ∧ W.cell? ⟨w.heap.size, 1, none⟩ = some (.string f.wh) ∧ W.cell? ⟨w.heap.size, 2, none⟩ = some (.string f.wt) ∧ W.cell? ⟨w.heap.size, 3, none⟩ = some (.string f.lk) ∧ W.cell? ⟨w.heap.size, 4, none⟩ = some (.string f.sd)) (exact HS.out.cells) (first
                | (go_at_call 74; (first | rw [hfz] | skip); refine (sides_any (fam f.wt) hf5 _).mono ?_; rintro e w2 ⟨v2, rfl, ho2, hb2⟩; have HS2 := Lib.hid (show Sx w w2 f from by first | exact HS.out.later hb2 | exact HS.out.drew.later hb2 | exact (HS.out.drewN _).later hb2); obtain ⟨a2, c2, rfl, hr2⟩ := own_row ho2; have HR2 := Lib.hid hr2; clear ho2 hb2 hr2; have HS := HS2)
                | (go_at_call 61; refine (at_row _ _ (famS (fam f.wt)) f.sd _ HR2.out (by have := famS_len (fam f.wt); omega)).mono ?_; rintro e w2 ⟨rfl, rfl⟩)) | fail
              all_goals go_wp2
              all_goals go_ret
              all_goals exact ⟨ret_bool H.out.symm, by first | exact HS.out.B | exact HS.out.drew.B | exact (HS.out.drewN _).B⟩
          · have hb1 : ¬ f.sd.toList = [98, 101, 116, 119, 101, 101, 110] := ne_btw hb
            have H := Lib.hid (show okF f = true from by rw [ok_some HG.out.2.1 HG.out.1 HG.out.2.2.1 HG.out.2.2.2 (fun e => absurd e hb) hs]; exact decide_eq_true hin)
            clear hb hin
            obtain ⟨p0, p1, p2, p3, p4, -⟩ := HS.out.K.five
            go_upto_region 4 with (fail)
            first | go_region_with (first
              | (go_at_call 74; (first | rw [hfz] | skip); refine (sides_any (fam f.wt) hf5 _).mono ?_; rintro e w2 ⟨v2, rfl, ho2, hb2⟩; have HS2 := Lib.hid (show Sx w w2 f from by first | exact HS.out.later hb2 | exact HS.out.drew.later hb2 | exact (HS.out.drewN _).later hb2); obtain ⟨a2, c2, rfl, hr2⟩ := own_row ho2; have HR2 := Lib.hid hr2; clear ho2 hb2 hr2; obtain ⟨p0, p1, p2, p3, p4, -⟩ := HS2.out.K.five; have HS := HS2)
              | (go_at_call 61; refine (at_row _ _ (famS (fam f.wt)) f.sd _ HR2.out (by have := famS_len (fam f.wt); omega)).mono ?_; rintro e w2 ⟨rfl, rfl⟩)) | fail
            all_goals go_wp2
            all_goals go_ret
            all_goals exact ⟨ret_bool H.out.symm, by first | exact HS.out.B | exact HS.out.drew.B | exact (HS.out.drewN _).B⟩
        · have hz : decide (0 ≤ idxZ (famS (fam f.wt)) f.sd) = false := decide_eq_false (fun h => hin ((idxZ_iff _ _).1 h))
          have H := Lib.hid (show okF f = false from okF_no fun k => by rcases k.2.2.2.2.2 with e | e; exact hs e; exact hin e)
          clear hin
          have hu : undef = Value.tuple #[] := rfl
          obtain ⟨p0, p1, p2, p3, p4, -⟩ := HS.out.K.five
          go_upto_region 4 with (fail)
          first | go_region_with (first
            | (go_at_call 74; (first | rw [hfz] | skip); refine (sides_any (fam f.wt) hf5 _).mono ?_; rintro e w2 ⟨v2, rfl, ho2, hb2⟩; have HS2 := Lib.hid (show Sx w w2 f from by first | exact HS.out.later hb2 | exact HS.out.drew.later hb2 | exact (HS.out.drewN _).later hb2); obtain ⟨a2, c2, rfl, hr2⟩ := own_row ho2; have HR2 := Lib.hid hr2; clear ho2 hb2 hr2; obtain ⟨p0, p1, p2, p3, p4, -⟩ := HS2.out.K.five; have HS := HS2)
            | (go_at_call 61; refine (at_row _ _ (famS (fam f.wt)) f.sd _ HR2.out (by have := famS_len (fam f.wt); omega)).mono ?_; rintro e w2 ⟨rfl, rfl⟩)) | fail
          all_goals go_wp2
          all_goals go_ret
          all_goals exact ⟨ret_bool H.out.symm, by first | exact HS.out.B | exact HS.out.drew.B | exact (HS.out.drewN _).B⟩
    · rw [bad_yes hg] at ht
      subst ht
      have H := Lib.hid (bad_ok hg)
      clear hg
      go_wp2
      go_ret
      exact ⟨ret_bool H.out.symm, HS.out.B⟩

end Go.Proofs.YtpfjdlaaakkimaaDoor.SpO
