/- Whether a feature is valid: the program. -/
import Derived.Test.YtpfjdlaaakkimaaDoorFnd
namespace Go.Proofs.YtpfjdlaaakkimaaDoor.IsF
open Go.RowKit Lb Bk Fam Word Fnd
set_option linter.unusedSimpArgs false
set_option linter.unusedVariables false

theorem ne_nil {x : ByteArray} (h : ¬ x = ⟨#[]⟩) : ¬ x.toList = [] := fun e => h (toList_inj (e.trans (by rw [ByteArray.toList_eq])))
theorem ne_emp {x : ByteArray} (h : ¬ x = ⟨#[]⟩) : x.toList.isEmpty = false := by
  have := ne_nil h
  cases hx : x.toList with
  | nil => exact absurd hx this
  | cons a r => rfl
theorem ne_btw {x : ByteArray} (h : ¬ x = between) : ¬ x.toList = [98, 101, 116, 119, 101, 101, 110] := fun e => h (toList_inj (e.trans (by rw [ByteArray.toList_eq]; rfl)))
theorem is_btw {x : ByteArray} (h : x = between) : x.toList = [98, 101, 116, 119, 101, 101, 110] := by rw [h, ByteArray.toList_eq]; rfl
theorem ok_fam {f : Ft} (h : ¬ fam f.wt < 5) : okF f = false := okF_no fun k => h k.1
theorem ok_code {f : Ft} (h : ¬ (31 ≤ f.c ∧ f.c ≤ 99)) : okF f = false := okF_no fun k => h k.2.1
theorem ok_wh {f : Ft} (h1 : ¬ f.wh = ⟨#[]⟩) (h2 : f.wh ∉ whichs) : okF f = false := okF_no fun k => by rcases k.2.2.1 with e | e; exact h1 e; exact h2 e
theorem ok_lk {f : Ft} (h1 : ¬ f.lk = ⟨#[]⟩) (h2 : f.lk ∉ looks) : okF f = false := okF_no fun k => by rcases k.2.2.2.1 with e | e; exact h1 e; exact h2 e
theorem ok_btw {f : Ft} (h1 : ¬ f.wh = ⟨#[]⟩) (h2 : f.sd = between) : okF f = false := okF_no fun k => h1 (k.2.2.2.2.1 h2)
theorem ok_all {f : Ft} (h0 : fam f.wt < 5) (h1 : 31 ≤ f.c ∧ f.c ≤ 99) (h2 : f.wh = ⟨#[]⟩ ∨ f.wh ∈ whichs) (h3 : f.lk = ⟨#[]⟩ ∨ f.lk ∈ looks) (h4 : f.sd = between → f.wh = ⟨#[]⟩) : okF f = decide (f.sd = ⟨#[]⟩ ∨ f.sd ∈ famS (fam f.wt)) := by
  unfold okF
  rw [Bool.eq_iff_iff, decide_eq_true_iff, decide_eq_true_iff]
  unfold OkF
  exact ⟨fun h => h.2.2.2.2.2, fun h => ⟨h0, h1, h2, h3, h4, h⟩⟩
theorem ok_none {f : Ft} (h0 : fam f.wt < 5) (h1 : 31 ≤ f.c ∧ f.c ≤ 99) (h2 : f.wh = ⟨#[]⟩ ∨ f.wh ∈ whichs) (h3 : f.lk = ⟨#[]⟩ ∨ f.lk ∈ looks) (h4 : f.sd = ⟨#[]⟩) : okF f = true := by
  rw [ok_all h0 h1 h2 h3 (by rw [h4]; intro e; cases e), decide_eq_true_iff]
  exact .inl h4
theorem ok_some {f : Ft} (h0 : fam f.wt < 5) (h1 : 31 ≤ f.c ∧ f.c ≤ 99) (h2 : f.wh = ⟨#[]⟩ ∨ f.wh ∈ whichs) (h3 : f.lk = ⟨#[]⟩ ∨ f.lk ∈ looks) (h4 : f.sd = between → f.wh = ⟨#[]⟩) (h5 : ¬ f.sd = ⟨#[]⟩) : okF f = decide (f.sd ∈ famS (fam f.wt)) := by
  rw [ok_all h0 h1 h2 h3 h4, Bool.eq_iff_iff, decide_eq_true_iff, decide_eq_true_iff]
  exact ⟨fun h => h.resolve_left h5, .inr⟩

/-- What stands while a feature is looked at. -/
structure St (w0 W : World) (r gs : Nat) (f : Ft) (row : Array Value) : Prop where
  K : Blk W w0.heap.size 25 #[.int .i64 f.c, .string f.wh, .string f.wt, .string f.lk, .string f.sd]
  R : Blk W r 67 row
  S : StrB W gs (famS (fam f.wt))
  B : Below w0.heap.size w0 W
theorem St.later {w0 W W' : World} {r gs : Nat} {f : Ft} {row : Array Value} (h : St w0 W r gs f row) (hb : Below W.heap.size W W') : St w0 W' r gs f row :=
  ⟨h.K.later hb, h.R.later hb, h.S.later hb, h.B.trans (hb.mono h.B.size)⟩

set_option maxHeartbeats 4000000 in
theorem impl_any (f : Ft) (w : World) : Calls Tryd.prog 12 #[.agg #[.int .i64 f.c, .string f.wh, .string f.wt, .string f.lk, .string f.sd]] w fun e w' => e = .returned (.bool (okF f)) ∧ Below w.heap.size w w' := by
  have HB := Lib.hid ((Below.refl w.heap.size w).alloc (Nat.le_refl _) (.cells #[.int .i64 f.c, .string f.wh, .string f.wt, .string f.lk, .string f.sd] 25))
  have HK := Lib.hid (Blk.new w 25 #[.int .i64 f.c, .string f.wh, .string f.wt, .string f.lk, .string f.sd])
  by_cases hf : fam f.wt < 5
  · go_enter Tryd.func12, Tryd.ntmps12
    go_wp2_with fail
    refine (find_all f.wt _).mono ?_
    rintro e w1 h
    obtain ⟨aw, nw, cw, az, ns, cs, kz, rfl, h1, h2, hb⟩ := h
    obtain ⟨-, gs, e, hs, hg⟩ := h1 hf
    cases e
    rw [decide_eq_true hf]
    have HS := Lib.hid (show St w (w1.alloc (.cells #[.string (famN (fam f.wt)), .slice aw nw cw, .slice (some ⟨gs, 0, none⟩) (famS (fam f.wt)).length (famS (fam f.wt)).length] 67)) w1.heap.size gs f _ from ⟨(HK.out.later hb).alloc _, Blk.new w1 67 #[.string (famN (fam f.wt)), .slice aw nw cw, .slice (some ⟨gs, 0, none⟩) (famS (fam f.wt)).length (famS (fam f.wt)).length], Blk.alloc (show Blk _ _ _ _ from hs) _, (HB.out.trans (hb.mono (by simp))).alloc (by have := HB.out.size; have := hb.size; omega) _⟩)
    have HF := Lib.hid hf
    have hlt := HS.out.K.lt
    clear h1 h2 hb hs hf HB HK
    obtain ⟨p0, p1, p2, p3, p4, -⟩ := HS.out.K.five
    obtain ⟨q0, q1, q2, -⟩ := HS.out.R.three
    have hsl : (famS (fam f.wt)).length ≤ maxLen := Nat.le_trans (famS_len _) (by decide)
    by_cases hc : 31 ≤ f.c ∧ f.c ≤ 99
    · have hd := decide_eq_true hc
      have HC := Lib.hid hc
      go_wp2_with fail
      refine (code_any f.c _).mono ?_
      rw [hd]
      rintro e w2 ⟨rfl, rfl⟩
      clear hc hd
      by_cases hw : f.wh = ⟨#[]⟩
      · rw [hw] at p1
        by_cases hl : f.lk = ⟨#[]⟩
        · rw [hl] at p3
          by_cases hs : f.sd = ⟨#[]⟩
          · rw [hs] at p4
            have H := Lib.hid (ok_none HF.out HC.out (.inl hw) (.inl hl) hs)
            go_wp2_with (first
              | (go_at_call 49; refine (which_any f.wh _).mono ?_; skip; rintro e w3 ⟨rfl, hb3⟩; have HS3 := Lib.hid (HS.out.later hb3); clear hb3; obtain ⟨p0, p1, p2, p3, p4, -⟩ := HS3.out.K.five; obtain ⟨q0, q1, q2, -⟩ := HS3.out.R.three; have HS := HS3)
              | (go_at_call 50; refine (look_any f.lk _).mono ?_; skip; rintro e w3 ⟨rfl, hb3⟩; have HS3 := Lib.hid (HS.out.later hb3); clear hb3; obtain ⟨p0, p1, p2, p3, p4, -⟩ := HS3.out.K.five; obtain ⟨q0, q1, q2, -⟩ := HS3.out.R.three; have HS := HS3)
              | (go_at_call 51; refine (cont_any gs _ (famS (fam f.wt)) f.sd _ HS.out.S hsl).mono ?_; rintro e w3 ⟨rfl, rfl⟩))
            go_ret
            exact ⟨ret_bool H.out.symm, HS.out.B⟩
          · have hs1 := ne_nil hs
            have hs2 := ne_emp hs
            by_cases hb : f.sd = between
            · have hb1 : f.sd.toList = [98, 101, 116, 119, 101, 101, 110] := is_btw hb
              have H := Lib.hid (ok_some HF.out HC.out (.inl hw) (.inl hl) (fun _ => hw) hs)
              clear hb
              go_wp2_with (first
                | (go_at_call 49; refine (which_any f.wh _).mono ?_; skip; rintro e w3 ⟨rfl, hb3⟩; have HS3 := Lib.hid (HS.out.later hb3); clear hb3; obtain ⟨p0, p1, p2, p3, p4, -⟩ := HS3.out.K.five; obtain ⟨q0, q1, q2, -⟩ := HS3.out.R.three; have HS := HS3)
                | (go_at_call 50; refine (look_any f.lk _).mono ?_; skip; rintro e w3 ⟨rfl, hb3⟩; have HS3 := Lib.hid (HS.out.later hb3); clear hb3; obtain ⟨p0, p1, p2, p3, p4, -⟩ := HS3.out.K.five; obtain ⟨q0, q1, q2, -⟩ := HS3.out.R.three; have HS := HS3)
                | (go_at_call 51; refine (cont_any gs _ (famS (fam f.wt)) f.sd _ HS.out.S hsl).mono ?_; rintro e w3 ⟨rfl, rfl⟩))
              go_ret
              exact ⟨ret_bool H.out.symm, HS.out.B⟩
            · have hb1 : ¬ f.sd.toList = [98, 101, 116, 119, 101, 101, 110] := ne_btw hb
              have H := Lib.hid (ok_some HF.out HC.out (.inl hw) (.inl hl) (fun e => absurd e hb) hs)
              go_wp2_with (first
                | (go_at_call 49; refine (which_any f.wh _).mono ?_; skip; rintro e w3 ⟨rfl, hb3⟩; have HS3 := Lib.hid (HS.out.later hb3); clear hb3; obtain ⟨p0, p1, p2, p3, p4, -⟩ := HS3.out.K.five; obtain ⟨q0, q1, q2, -⟩ := HS3.out.R.three; have HS := HS3)
                | (go_at_call 50; refine (look_any f.lk _).mono ?_; skip; rintro e w3 ⟨rfl, hb3⟩; have HS3 := Lib.hid (HS.out.later hb3); clear hb3; obtain ⟨p0, p1, p2, p3, p4, -⟩ := HS3.out.K.five; obtain ⟨q0, q1, q2, -⟩ := HS3.out.R.three; have HS := HS3)
                | (go_at_call 51; refine (cont_any gs _ (famS (fam f.wt)) f.sd _ HS.out.S hsl).mono ?_; rintro e w3 ⟨rfl, rfl⟩))
              go_ret
              exact ⟨ret_bool H.out.symm, HS.out.B⟩
        · have hl1 := ne_nil hl
          have hl2 := ne_emp hl
          by_cases hli : f.lk ∈ looks
          · skip
            by_cases hs : f.sd = ⟨#[]⟩
            · rw [hs] at p4
              have H := Lib.hid (ok_none HF.out HC.out (.inl hw) (.inr hli) hs)
              go_wp2_with (first
                | (go_at_call 49; refine (which_any f.wh _).mono ?_; skip; rintro e w3 ⟨rfl, hb3⟩; have HS3 := Lib.hid (HS.out.later hb3); clear hb3; obtain ⟨p0, p1, p2, p3, p4, -⟩ := HS3.out.K.five; obtain ⟨q0, q1, q2, -⟩ := HS3.out.R.three; have HS := HS3)
                | (go_at_call 50; refine (look_any f.lk _).mono ?_; rw [decide_eq_true hli]; rintro e w3 ⟨rfl, hb3⟩; have HS3 := Lib.hid (HS.out.later hb3); clear hb3; obtain ⟨p0, p1, p2, p3, p4, -⟩ := HS3.out.K.five; obtain ⟨q0, q1, q2, -⟩ := HS3.out.R.three; have HS := HS3)
                | (go_at_call 51; refine (cont_any gs _ (famS (fam f.wt)) f.sd _ HS.out.S hsl).mono ?_; rintro e w3 ⟨rfl, rfl⟩))
              go_ret
              exact ⟨ret_bool H.out.symm, HS.out.B⟩
            · have hs1 := ne_nil hs
              have hs2 := ne_emp hs
              by_cases hb : f.sd = between
              · have hb1 : f.sd.toList = [98, 101, 116, 119, 101, 101, 110] := is_btw hb
                have H := Lib.hid (ok_some HF.out HC.out (.inl hw) (.inr hli) (fun _ => hw) hs)
                clear hb
                go_wp2_with (first
                  | (go_at_call 49; refine (which_any f.wh _).mono ?_; skip; rintro e w3 ⟨rfl, hb3⟩; have HS3 := Lib.hid (HS.out.later hb3); clear hb3; obtain ⟨p0, p1, p2, p3, p4, -⟩ := HS3.out.K.five; obtain ⟨q0, q1, q2, -⟩ := HS3.out.R.three; have HS := HS3)
                  | (go_at_call 50; refine (look_any f.lk _).mono ?_; rw [decide_eq_true hli]; rintro e w3 ⟨rfl, hb3⟩; have HS3 := Lib.hid (HS.out.later hb3); clear hb3; obtain ⟨p0, p1, p2, p3, p4, -⟩ := HS3.out.K.five; obtain ⟨q0, q1, q2, -⟩ := HS3.out.R.three; have HS := HS3)
                  | (go_at_call 51; refine (cont_any gs _ (famS (fam f.wt)) f.sd _ HS.out.S hsl).mono ?_; rintro e w3 ⟨rfl, rfl⟩))
                go_ret
                exact ⟨ret_bool H.out.symm, HS.out.B⟩
              · have hb1 : ¬ f.sd.toList = [98, 101, 116, 119, 101, 101, 110] := ne_btw hb
                have H := Lib.hid (ok_some HF.out HC.out (.inl hw) (.inr hli) (fun e => absurd e hb) hs)
                go_wp2_with (first
                  | (go_at_call 49; refine (which_any f.wh _).mono ?_; skip; rintro e w3 ⟨rfl, hb3⟩; have HS3 := Lib.hid (HS.out.later hb3); clear hb3; obtain ⟨p0, p1, p2, p3, p4, -⟩ := HS3.out.K.five; obtain ⟨q0, q1, q2, -⟩ := HS3.out.R.three; have HS := HS3)
                  | (go_at_call 50; refine (look_any f.lk _).mono ?_; rw [decide_eq_true hli]; rintro e w3 ⟨rfl, hb3⟩; have HS3 := Lib.hid (HS.out.later hb3); clear hb3; obtain ⟨p0, p1, p2, p3, p4, -⟩ := HS3.out.K.five; obtain ⟨q0, q1, q2, -⟩ := HS3.out.R.three; have HS := HS3)
                  | (go_at_call 51; refine (cont_any gs _ (famS (fam f.wt)) f.sd _ HS.out.S hsl).mono ?_; rintro e w3 ⟨rfl, rfl⟩))
                go_ret
                exact ⟨ret_bool H.out.symm, HS.out.B⟩
          · skip
            have H := Lib.hid (ok_lk hl hli)
            go_wp2_with (first
              | (go_at_call 49; refine (which_any f.wh _).mono ?_; skip; rintro e w3 ⟨rfl, hb3⟩; have HS3 := Lib.hid (HS.out.later hb3); clear hb3; obtain ⟨p0, p1, p2, p3, p4, -⟩ := HS3.out.K.five; obtain ⟨q0, q1, q2, -⟩ := HS3.out.R.three; have HS := HS3)
              | (go_at_call 50; refine (look_any f.lk _).mono ?_; rw [decide_eq_false hli]; rintro e w3 ⟨rfl, hb3⟩; have HS3 := Lib.hid (HS.out.later hb3); clear hb3; obtain ⟨p0, p1, p2, p3, p4, -⟩ := HS3.out.K.five; obtain ⟨q0, q1, q2, -⟩ := HS3.out.R.three; have HS := HS3)
              | (go_at_call 51; refine (cont_any gs _ (famS (fam f.wt)) f.sd _ HS.out.S hsl).mono ?_; rintro e w3 ⟨rfl, rfl⟩))
            go_ret
            exact ⟨ret_bool H.out.symm, HS.out.B⟩
      · have hw1 := ne_nil hw
        have hw2 := ne_emp hw
        by_cases hwi : f.wh ∈ whichs
        · skip
          by_cases hl : f.lk = ⟨#[]⟩
          · rw [hl] at p3
            by_cases hs : f.sd = ⟨#[]⟩
            · rw [hs] at p4
              have H := Lib.hid (ok_none HF.out HC.out (.inr hwi) (.inl hl) hs)
              go_wp2_with (first
                | (go_at_call 49; refine (which_any f.wh _).mono ?_; rw [decide_eq_true hwi]; rintro e w3 ⟨rfl, hb3⟩; have HS3 := Lib.hid (HS.out.later hb3); clear hb3; obtain ⟨p0, p1, p2, p3, p4, -⟩ := HS3.out.K.five; obtain ⟨q0, q1, q2, -⟩ := HS3.out.R.three; have HS := HS3)
                | (go_at_call 50; refine (look_any f.lk _).mono ?_; skip; rintro e w3 ⟨rfl, hb3⟩; have HS3 := Lib.hid (HS.out.later hb3); clear hb3; obtain ⟨p0, p1, p2, p3, p4, -⟩ := HS3.out.K.five; obtain ⟨q0, q1, q2, -⟩ := HS3.out.R.three; have HS := HS3)
                | (go_at_call 51; refine (cont_any gs _ (famS (fam f.wt)) f.sd _ HS.out.S hsl).mono ?_; rintro e w3 ⟨rfl, rfl⟩))
              go_ret
              exact ⟨ret_bool H.out.symm, HS.out.B⟩
            · have hs1 := ne_nil hs
              have hs2 := ne_emp hs
              by_cases hb : f.sd = between
              · have hb1 : f.sd.toList = [98, 101, 116, 119, 101, 101, 110] := is_btw hb
                have H := Lib.hid (ok_btw hw hb)
                clear hb
                go_wp2_with (first
                  | (go_at_call 49; refine (which_any f.wh _).mono ?_; rw [decide_eq_true hwi]; rintro e w3 ⟨rfl, hb3⟩; have HS3 := Lib.hid (HS.out.later hb3); clear hb3; obtain ⟨p0, p1, p2, p3, p4, -⟩ := HS3.out.K.five; obtain ⟨q0, q1, q2, -⟩ := HS3.out.R.three; have HS := HS3)
                  | (go_at_call 50; refine (look_any f.lk _).mono ?_; skip; rintro e w3 ⟨rfl, hb3⟩; have HS3 := Lib.hid (HS.out.later hb3); clear hb3; obtain ⟨p0, p1, p2, p3, p4, -⟩ := HS3.out.K.five; obtain ⟨q0, q1, q2, -⟩ := HS3.out.R.three; have HS := HS3)
                  | (go_at_call 51; refine (cont_any gs _ (famS (fam f.wt)) f.sd _ HS.out.S hsl).mono ?_; rintro e w3 ⟨rfl, rfl⟩))
                go_ret
                exact ⟨ret_bool H.out.symm, HS.out.B⟩
              · have hb1 : ¬ f.sd.toList = [98, 101, 116, 119, 101, 101, 110] := ne_btw hb
                have H := Lib.hid (ok_some HF.out HC.out (.inr hwi) (.inl hl) (fun e => absurd e hb) hs)
                go_wp2_with (first
                  | (go_at_call 49; refine (which_any f.wh _).mono ?_; rw [decide_eq_true hwi]; rintro e w3 ⟨rfl, hb3⟩; have HS3 := Lib.hid (HS.out.later hb3); clear hb3; obtain ⟨p0, p1, p2, p3, p4, -⟩ := HS3.out.K.five; obtain ⟨q0, q1, q2, -⟩ := HS3.out.R.three; have HS := HS3)
                  | (go_at_call 50; refine (look_any f.lk _).mono ?_; skip; rintro e w3 ⟨rfl, hb3⟩; have HS3 := Lib.hid (HS.out.later hb3); clear hb3; obtain ⟨p0, p1, p2, p3, p4, -⟩ := HS3.out.K.five; obtain ⟨q0, q1, q2, -⟩ := HS3.out.R.three; have HS := HS3)
                  | (go_at_call 51; refine (cont_any gs _ (famS (fam f.wt)) f.sd _ HS.out.S hsl).mono ?_; rintro e w3 ⟨rfl, rfl⟩))
                go_ret
                exact ⟨ret_bool H.out.symm, HS.out.B⟩
          · have hl1 := ne_nil hl
            have hl2 := ne_emp hl
            by_cases hli : f.lk ∈ looks
            · skip
              by_cases hs : f.sd = ⟨#[]⟩
              · rw [hs] at p4
                have H := Lib.hid (ok_none HF.out HC.out (.inr hwi) (.inr hli) hs)
                go_wp2_with (first
                  | (go_at_call 49; refine (which_any f.wh _).mono ?_; rw [decide_eq_true hwi]; rintro e w3 ⟨rfl, hb3⟩; have HS3 := Lib.hid (HS.out.later hb3); clear hb3; obtain ⟨p0, p1, p2, p3, p4, -⟩ := HS3.out.K.five; obtain ⟨q0, q1, q2, -⟩ := HS3.out.R.three; have HS := HS3)
                  | (go_at_call 50; refine (look_any f.lk _).mono ?_; rw [decide_eq_true hli]; rintro e w3 ⟨rfl, hb3⟩; have HS3 := Lib.hid (HS.out.later hb3); clear hb3; obtain ⟨p0, p1, p2, p3, p4, -⟩ := HS3.out.K.five; obtain ⟨q0, q1, q2, -⟩ := HS3.out.R.three; have HS := HS3)
                  | (go_at_call 51; refine (cont_any gs _ (famS (fam f.wt)) f.sd _ HS.out.S hsl).mono ?_; rintro e w3 ⟨rfl, rfl⟩))
                go_ret
                exact ⟨ret_bool H.out.symm, HS.out.B⟩
              · have hs1 := ne_nil hs
                have hs2 := ne_emp hs
                by_cases hb : f.sd = between
                · have hb1 : f.sd.toList = [98, 101, 116, 119, 101, 101, 110] := is_btw hb
                  have H := Lib.hid (ok_btw hw hb)
                  clear hb
                  go_wp2_with (first
                    | (go_at_call 49; refine (which_any f.wh _).mono ?_; rw [decide_eq_true hwi]; rintro e w3 ⟨rfl, hb3⟩; have HS3 := Lib.hid (HS.out.later hb3); clear hb3; obtain ⟨p0, p1, p2, p3, p4, -⟩ := HS3.out.K.five; obtain ⟨q0, q1, q2, -⟩ := HS3.out.R.three; have HS := HS3)
                    | (go_at_call 50; refine (look_any f.lk _).mono ?_; rw [decide_eq_true hli]; rintro e w3 ⟨rfl, hb3⟩; have HS3 := Lib.hid (HS.out.later hb3); clear hb3; obtain ⟨p0, p1, p2, p3, p4, -⟩ := HS3.out.K.five; obtain ⟨q0, q1, q2, -⟩ := HS3.out.R.three; have HS := HS3)
                    | (go_at_call 51; refine (cont_any gs _ (famS (fam f.wt)) f.sd _ HS.out.S hsl).mono ?_; rintro e w3 ⟨rfl, rfl⟩))
                  go_ret
                  exact ⟨ret_bool H.out.symm, HS.out.B⟩
                · have hb1 : ¬ f.sd.toList = [98, 101, 116, 119, 101, 101, 110] := ne_btw hb
                  have H := Lib.hid (ok_some HF.out HC.out (.inr hwi) (.inr hli) (fun e => absurd e hb) hs)
                  go_wp2_with (first
                    | (go_at_call 49; refine (which_any f.wh _).mono ?_; rw [decide_eq_true hwi]; rintro e w3 ⟨rfl, hb3⟩; have HS3 := Lib.hid (HS.out.later hb3); clear hb3; obtain ⟨p0, p1, p2, p3, p4, -⟩ := HS3.out.K.five; obtain ⟨q0, q1, q2, -⟩ := HS3.out.R.three; have HS := HS3)
                    | (go_at_call 50; refine (look_any f.lk _).mono ?_; rw [decide_eq_true hli]; rintro e w3 ⟨rfl, hb3⟩; have HS3 := Lib.hid (HS.out.later hb3); clear hb3; obtain ⟨p0, p1, p2, p3, p4, -⟩ := HS3.out.K.five; obtain ⟨q0, q1, q2, -⟩ := HS3.out.R.three; have HS := HS3)
                    | (go_at_call 51; refine (cont_any gs _ (famS (fam f.wt)) f.sd _ HS.out.S hsl).mono ?_; rintro e w3 ⟨rfl, rfl⟩))
                  go_ret
                  exact ⟨ret_bool H.out.symm, HS.out.B⟩
            · skip
              have H := Lib.hid (ok_lk hl hli)
              go_wp2_with (first
                | (go_at_call 49; refine (which_any f.wh _).mono ?_; rw [decide_eq_true hwi]; rintro e w3 ⟨rfl, hb3⟩; have HS3 := Lib.hid (HS.out.later hb3); clear hb3; obtain ⟨p0, p1, p2, p3, p4, -⟩ := HS3.out.K.five; obtain ⟨q0, q1, q2, -⟩ := HS3.out.R.three; have HS := HS3)
                | (go_at_call 50; refine (look_any f.lk _).mono ?_; rw [decide_eq_false hli]; rintro e w3 ⟨rfl, hb3⟩; have HS3 := Lib.hid (HS.out.later hb3); clear hb3; obtain ⟨p0, p1, p2, p3, p4, -⟩ := HS3.out.K.five; obtain ⟨q0, q1, q2, -⟩ := HS3.out.R.three; have HS := HS3)
                | (go_at_call 51; refine (cont_any gs _ (famS (fam f.wt)) f.sd _ HS.out.S hsl).mono ?_; rintro e w3 ⟨rfl, rfl⟩))
              go_ret
              exact ⟨ret_bool H.out.symm, HS.out.B⟩
        · skip
          have H := Lib.hid (ok_wh hw hwi)
          go_wp2_with (first
            | (go_at_call 49; refine (which_any f.wh _).mono ?_; rw [decide_eq_false hwi]; rintro e w3 ⟨rfl, hb3⟩; have HS3 := Lib.hid (HS.out.later hb3); clear hb3; obtain ⟨p0, p1, p2, p3, p4, -⟩ := HS3.out.K.five; obtain ⟨q0, q1, q2, -⟩ := HS3.out.R.three; have HS := HS3)
            | (go_at_call 50; refine (look_any f.lk _).mono ?_; skip; rintro e w3 ⟨rfl, hb3⟩; have HS3 := Lib.hid (HS.out.later hb3); clear hb3; obtain ⟨p0, p1, p2, p3, p4, -⟩ := HS3.out.K.five; obtain ⟨q0, q1, q2, -⟩ := HS3.out.R.three; have HS := HS3)
            | (go_at_call 51; refine (cont_any gs _ (famS (fam f.wt)) f.sd _ HS.out.S hsl).mono ?_; rintro e w3 ⟨rfl, rfl⟩))
          go_ret
          exact ⟨ret_bool H.out.symm, HS.out.B⟩
    · have hd := decide_eq_false hc
      have H := Lib.hid (ok_code hc)
      clear hc
      go_wp2_with fail
      refine (code_any f.c _).mono ?_
      rw [hd]
      rintro e w2 ⟨rfl, rfl⟩
      go_wp2
      go_ret
      exact ⟨ret_bool H.out.symm, HS.out.B⟩
  · go_enter Tryd.func12, Tryd.ntmps12
    go_wp2_with fail
    refine (find_all f.wt _).mono ?_
    rintro e w1 h
    obtain ⟨aw, nw, cw, az, ns, cs, kz, rfl, h1, h2, hb⟩ := h
    rw [decide_eq_false hf]
    have H := Lib.hid (ok_fam hf)
    have HB1 := Lib.hid ((HB.out.trans (hb.mono (by simp))).alloc (by have := HB.out.size; have := hb.size; omega) (.cells #[.string (famN (fam f.wt)), .slice aw nw cw, .slice az ns cs] 67))
    clear h1 h2 hb hf
    go_wp2
    go_ret
    exact ⟨ret_bool H.out.symm, HB1.out⟩

end Go.Proofs.YtpfjdlaaakkimaaDoor.IsF
