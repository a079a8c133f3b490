/- ClassText: the model's text. -/
import Derived.Test.YtleoljnofdajfaaGreatDoorKlI
import Derived.Test.YtleoljnofdajfaaGreatDoorNumW
import Derived.Deep.QuietTactic
import Derived.BigQuiet
import Derived.Deep.CutRange
import Derived.Deep.DeepCutAuto
namespace Go.Proofs.YtleoljnofdajfaaGreatDoor.KtT
open Go.RowKit Lb Bk InA Wd KlK KlI Fmt
set_option linter.unusedSimpArgs false
set_option linter.unusedVariables false

/-- The text as far as the ages; the sexes' mark; the text. -/
def agK (r : Kl) : ByteArray := fmtB r.lo ++ ⟨#[45]⟩ ++ fmtB r.hi
def tK (r : Kl) : ByteArray := fmtB r.id ++ ⟨#[32]⟩ ++ r.nm ++ ⟨#[32]⟩ ++ fmtB r.lo ++ ⟨#[45]⟩ ++ fmtB r.hi
def sxK (r : Kl) : ByteArray := if r.wo then (if r.me then ⟨#[32, 119, 109]⟩ else ⟨#[32, 119]⟩) else ⟨#[32, 109]⟩
def txK (r : Kl) : ByteArray := tK r ++ sxK r ++ ⟨#[32, 99, 111, 117, 114, 115, 101, 32]⟩ ++ fmtB r.co ++ ⟨#[32, 109, 111, 115, 116, 32]⟩ ++ fmtB r.mo
/-- What ClassText answers. -/
def ktx (r : Kl) : ByteArray := if okK r then txK r else ⟨#[]⟩
theorem word_size {s : ByteArray} (h : wordB s = true) : s.size ≤ 10 := by have := (of_decide_eq_true h : WordP s).1; omega

theorem num_q (n : Int) (h0 : -999999 ≤ n) (h1 : n ≤ 999999) (w : World) (q : Nat) : Calls Tryz.prog 58 #[.int .i64 n] (w.drewN q) fun e w' => e = .returned (.string (fmtB n)) ∧ ∃ j, w' = w.drewN j := by
  refine (num_any n h0 h1 _).mono ?_
  rintro e w' ⟨rfl, hs⟩
  obtain ⟨j, hj⟩ := (show Still w (w.drewN q) from ⟨q, rfl⟩).trans hs
  exact ⟨rfl, j, hj⟩

set_option maxRecDepth 20000 in
set_option maxHeartbeats 8000000 in
theorem text_any (r : Kl) (h : okK r = true) (w : World) : Calls Tryz.prog 26 #[.agg #[.int .i64 r.id, .string r.nm, .int .i64 r.lo, .int .i64 r.hi, .bool r.wo, .bool r.me, .int .i64 r.co, .int .i64 r.mo]] w fun e w' => e = .returned (.string (txK r)) ∧ Below w.heap.size w w' := by
  obtain ⟨hid1, hid2⟩ := ok_id h
  obtain ⟨hlo, hlh, hhi⟩ := ok_ages h
  obtain ⟨hco1, hco2⟩ := ok_co h
  obtain ⟨hmo1, hmo2⟩ := ok_mo h
  have hn := word_size (ok_word h)
  have s1 := fmtB_size r.id (by omega) (by omega)
  have s2 := fmtB_size r.lo (by omega) (by omega)
  have s3 := fmtB_size r.hi (by omega) (by omega)
  have s4 := fmtB_size r.co (by omega) (by omega)
  have s5 := fmtB_size r.mo (by omega) (by omega)
  have HB := Lib.hid ((Below.refl w.heap.size w).alloc (Nat.le_refl _) (.cells #[.int .i64 r.id, .string r.nm, .int .i64 r.lo, .int .i64 r.hi, .bool r.wo, .bool r.me, .int .i64 r.co, .int .i64 r.mo] 25))
  have HK := Lib.hid (Blk.new w 25 #[.int .i64 r.id, .string r.nm, .int .i64 r.lo, .int .i64 r.hi, .bool r.wo, .bool r.me, .int .i64 r.co, .int .i64 r.mo])
  have hsx := ok_sex h
  obtain ⟨wo, hwo⟩ : ∃ d, r.wo = d := ⟨_, rfl⟩
  obtain ⟨me, hme⟩ : ∃ d, r.me = d := ⟨_, rfl⟩
  have HX := Lib.hid (show txK r = fmtB r.id ++ ⟨#[32]⟩ ++ r.nm ++ ⟨#[32]⟩ ++ fmtB r.lo ++ ⟨#[45]⟩ ++ fmtB r.hi ++ (if wo then (if me then ⟨#[32, 119, 109]⟩ else ⟨#[32, 119]⟩) else ⟨#[32, 109]⟩) ++ ⟨#[32, 99, 111, 117, 114, 115, 101, 32]⟩ ++ fmtB r.co ++ ⟨#[32, 109, 111, 115, 116, 32]⟩ ++ fmtB r.mo from by unfold txK tK sxK; rw [hwo, hme])
  rw [hwo, hme] at hsx
  have HW := Lib.hid hwo
  have HM := Lib.hid hme
  clear h hwo hme
  cases wo with
  | true =>
    cases me with
    | true =>
      go_enter Tryz.func26, Tryz.ntmps26
      go_upto_region 1 with (fail)
      obtain ⟨⟨p0, p1, p2, p3, p4, p5, p6, p7⟩, -⟩ := blk_cells HK.out
      generalize w.alloc (.cells #[.int .i64 r.id, .string r.nm, .int .i64 r.lo, .int .i64 r.hi, .bool r.wo, .bool r.me, .int .i64 r.co, .int .i64 r.mo] 25) = wz at *
      rw [HW.out] at p4
      rw [HM.out] at p5
      go_upto_region 6 with (fail)
      go_quiet ((go_at_call 58; exact num_q _ (by omega) (by omega) _ _))
      go_wp2
      go_ret
      exact ⟨by rw [HX.out]; rfl, by first | exact below_drewN HB.out _ | exact below_drewN (below_drewN HB.out _) _⟩
    | false =>
      go_enter Tryz.func26, Tryz.ntmps26
      go_upto_region 1 with (fail)
      obtain ⟨⟨p0, p1, p2, p3, p4, p5, p6, p7⟩, -⟩ := blk_cells HK.out
      generalize w.alloc (.cells #[.int .i64 r.id, .string r.nm, .int .i64 r.lo, .int .i64 r.hi, .bool r.wo, .bool r.me, .int .i64 r.co, .int .i64 r.mo] 25) = wz at *
      rw [HW.out] at p4
      rw [HM.out] at p5
      go_upto_region 6 with (fail)
      go_quiet ((go_at_call 58; exact num_q _ (by omega) (by omega) _ _))
      go_wp2
      go_ret
      exact ⟨by rw [HX.out]; rfl, by first | exact below_drewN HB.out _ | exact below_drewN (below_drewN HB.out _) _⟩
  | false =>
    cases me with
    | true =>
      go_enter Tryz.func26, Tryz.ntmps26
      go_upto_region 1 with (fail)
      obtain ⟨⟨p0, p1, p2, p3, p4, p5, p6, p7⟩, -⟩ := blk_cells HK.out
      generalize w.alloc (.cells #[.int .i64 r.id, .string r.nm, .int .i64 r.lo, .int .i64 r.hi, .bool r.wo, .bool r.me, .int .i64 r.co, .int .i64 r.mo] 25) = wz at *
      rw [HW.out] at p4
      rw [HM.out] at p5
      go_upto_region 6 with (fail)
      go_quiet ((go_at_call 58; exact num_q _ (by omega) (by omega) _ _))
      go_wp2
      go_ret
      exact ⟨by rw [HX.out]; rfl, by first | exact below_drewN HB.out _ | exact below_drewN (below_drewN HB.out _) _⟩
    | false => cases hsx

set_option maxRecDepth 20000 in
set_option maxHeartbeats 2000000 in
theorem spec_any (r : Kl) (hr : Is r) (w : World) : Calls Tryz.prog 7 #[.agg #[.int .i64 r.id, .string r.nm, .int .i64 r.lo, .int .i64 r.hi, .bool r.wo, .bool r.me, .int .i64 r.co, .int .i64 r.mo]] w fun e w' => e = .returned (.tuple #[.string (ktx r), .bool (okK r)]) ∧ Below w.heap.size w w' := by
  have HB := Lib.hid ((Below.refl w.heap.size w).alloc (Nat.le_refl _) (.cells #[.int .i64 r.id, .string r.nm, .int .i64 r.lo, .int .i64 r.hi, .bool r.wo, .bool r.me, .int .i64 r.co, .int .i64 r.mo] 25))
  have HK := Lib.hid (Blk.new w 25 #[.int .i64 r.id, .string r.nm, .int .i64 r.lo, .int .i64 r.hi, .bool r.wo, .bool r.me, .int .i64 r.co, .int .i64 r.mo])
  obtain ⟨ok, hok⟩ : ∃ ok, okK r = ok := ⟨_, rfl⟩
  have c1 := Lib.hid (fun w => hok ▸ KlI.spec_one r hr w)
  have HO := Lib.hid hok
  have HX := Lib.hid (show ktx r = if ok then txK r else ⟨#[]⟩ from by unfold ktx; rw [hok])
  rw [hok]
  clear hok hr
  go_enter Tryz.func7, Tryz.ntmps7
  go_wp2_with fail
  refine (c1.out _).mono ?_
  rintro e w1 ⟨rfl, hb⟩
  have HB1 := Lib.hid (HB.out.trans (hb.mono (by simp)))
  have HK1 := Lib.hid (HK.out.later hb)
  clear hb HB HK
  cases ok with
  | false =>
    go_wp2
    go_ret2
    exact ⟨by rw [HX.out]; rfl, HB1.out⟩
  | true =>
    obtain ⟨⟨p0, p1, p2, p3, p4, p5, p6, p7⟩, -⟩ := blk_cells HK1.out
    go_wp2_with fail
    refine (text_any r HO.out _).mono ?_
    rintro e w2 ⟨rfl, hb⟩
    have HB2 := Lib.hid (HB1.out.trans (hb.mono HB1.out.size))
    clear hb
    go_wp2
    go_ret2
    exact ⟨by rw [HX.out]; rfl, HB2.out⟩

end Go.Proofs.YtleoljnofdajfaaGreatDoor.KtT
