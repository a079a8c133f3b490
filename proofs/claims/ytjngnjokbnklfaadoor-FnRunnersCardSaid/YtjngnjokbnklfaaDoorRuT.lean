/- RunnerText: the model's text. -/
import Derived.Test.YtjngnjokbnklfaaDoorRuI
import Derived.Test.YtjngnjokbnklfaaDoorNumW
import Derived.Deep.QuietTactic
import Derived.BigQuiet
import Derived.Deep.CutRange
import Derived.Deep.DeepCutAuto
namespace Go.Proofs.YtjngnjokbnklfaaDoor.RuT
open Go.RowKit Lb Bk InA Wd RuK RuI Fmt
set_option linter.unusedSimpArgs false
set_option linter.unusedVariables false

/-- The text as far as the year. -/
def tA (r : Ru) : ByteArray := fmtB r.id ++ ⟨#[32]⟩ ++ r.nm ++ ⟨#[32, 111, 102, 32]⟩ ++ r.cl ++ ⟨#[32]⟩ ++ fmtB r.bo
def tB (r : Ru) : ByteArray := tA r ++ (if r.wo then ⟨#[32, 119]⟩ else ⟨#[32, 109]⟩)
def txR (r : Ru) : ByteArray := if r.ca = 0 then tB r else tB r ++ ⟨#[32, 99, 97, 114, 100, 32]⟩ ++ fmtB r.ca
/-- What RunnerText answers. -/
def rtx (r : Ru) : ByteArray := if okR r then txR r else ⟨#[]⟩

theorem ok_parts {r : Ru} (h : okR r = true) : (1 ≤ r.id ∧ r.id ≤ 999) ∧ wordB r.nm = true ∧ wordB r.cl = true ∧ (1920 ≤ r.bo ∧ r.bo ≤ 2020) ∧ (0 ≤ r.ca ∧ r.ca ≤ 9999) := by
  unfold okR at h
  simp at h
  exact ⟨h.1, h.2.1, h.2.2.1, h.2.2.2.1, h.2.2.2.2⟩
theorem word_size {s : ByteArray} (h : wordB s = true) : s.size ≤ 10 := by have := (of_decide_eq_true h : WordP s).1; omega

theorem num_q (n : Int) (h0 : -999999 ≤ n) (h1 : n ≤ 999999) (w : World) (q : Nat) : Calls Tryd.prog 55 #[.int .i64 n] (w.drewN q) fun e w' => e = .returned (.string (fmtB n)) ∧ ∃ j, w' = w.drewN j := by
  refine (num_any n h0 h1 _).mono ?_
  rintro e w' ⟨rfl, hs⟩
  obtain ⟨j, hj⟩ := (show Still w (w.drewN q) from ⟨q, rfl⟩).trans hs
  exact ⟨rfl, j, hj⟩

theorem cut_m (A : ByteArray) : (A ++ ⟨#[32, 109]⟩).extract 0 (A.size + 1) ++ ⟨#[119]⟩ = A ++ ⟨#[32, 119]⟩ := by
  have hs : A.size = A.data.toList.length := Array.length_toList.symm
  apply ByteArray.ext
  apply Array.ext'
  rw [ByteArray.data_append, ByteArray.data_extract, ByteArray.data_append, ByteArray.data_append, hs]
  simp only [Array.toList_append, Array.toList_extract, List.extract_eq_take_drop, List.drop_zero, Nat.sub_zero]
  rw [List.take_append]
  simp
  exact List.take_of_length_le (by rw [Array.length_toList]; exact Nat.le_succ _)

set_option maxRecDepth 20000 in
set_option maxHeartbeats 4000000 in
theorem text_any (r : Ru) (h : okR r = true) (w : World) : Calls Tryd.prog 29 #[.agg #[.int .i64 r.id, .string r.nm, .string r.cl, .int .i64 r.bo, .bool r.wo, .int .i64 r.ca]] w fun e w' => e = .returned (.string (txR r)) ∧ Below w.heap.size w w' := by
  obtain ⟨hid, hnm, hcl, hbo, hca⟩ := ok_parts h
  have hn := word_size hnm
  have hc := word_size hcl
  have s1 := fmtB_size r.id (by omega) (by omega)
  have s2 := fmtB_size r.bo (by omega) (by omega)
  have s3 := fmtB_size r.ca (by omega) (by omega)
  obtain ⟨hid1, hid2⟩ := hid
  obtain ⟨hbo1, hbo2⟩ := hbo
  obtain ⟨hca1, hca2⟩ := hca
  have HB := Lib.hid ((Below.refl w.heap.size w).alloc (Nat.le_refl _) (.cells #[.int .i64 r.id, .string r.nm, .string r.cl, .int .i64 r.bo, .bool r.wo, .int .i64 r.ca] 25))
  have HK := Lib.hid (Blk.new w 25 #[.int .i64 r.id, .string r.nm, .string r.cl, .int .i64 r.bo, .bool r.wo, .int .i64 r.ca])
  clear h hnm hcl
  go_enter Tryd.func29, Tryd.ntmps29
  go_upto_region 1 with (fail)
  obtain ⟨⟨p0, p1, p2, p3, p4, p5⟩, -⟩ := blk_cells HK.out
  generalize w.alloc (.cells #[.int .i64 r.id, .string r.nm, .string r.cl, .int .i64 r.bo, .bool r.wo, .int .i64 r.ca] 25) = wz at *
  go_quiet ((go_at_call 55; exact num_q _ (by omega) (by omega) _ _))
  have HB2 := Lib.hid (below_drewN HB.out 0)
  obtain ⟨A, hA⟩ : ∃ A, fmtB r.id ++ ⟨#[32]⟩ ++ r.nm ++ ⟨#[32, 111, 102, 32]⟩ ++ r.cl ++ ⟨#[32]⟩ ++ fmtB r.bo = A := ⟨_, rfl⟩
  have HA := Lib.hid (show tA r = A from hA)
  have hAs : A.size ≤ 60 := by rw [← hA]; simp only [ByteArray.size_append]; show _ + 1 + _ + 4 + _ + 1 + _ ≤ 60; omega
  rw [hA]
  clear hA
  have hm : (A ++ ⟨#[32, 109]⟩ : ByteArray).size = A.size + 2 := by rw [ByteArray.size_append]; rfl
  obtain ⟨wo, hwo⟩ : ∃ wo, r.wo = wo := ⟨_, rfl⟩
  have HW := Lib.hid hwo
  rw [hwo] at p4
  have HT := Lib.hid (show tB r = A ++ (if wo then ⟨#[32, 119]⟩ else ⟨#[32, 109]⟩) from by unfold tB; rw [HA.out, hwo])
  clear hwo
  cases wo with
  | true =>
    have hcut := cut_m A
    go_upto_region 4 with (fail)
    obtain ⟨T, hT⟩ : ∃ T, A ++ ⟨#[32, 119]⟩ = T := ⟨_, rfl⟩
    have hTs : T.size ≤ 62 := by rw [← hT, ByteArray.size_append]; show _ + 2 ≤ 62; omega
    have HTT := Lib.hid (show tB r = T from by rw [HT.out, ← hT]; rfl)
    rw [hT]
    clear hT
    by_cases h0 : r.ca = 0
    · have h0' : (r.ca == 0) = true := by simpa using h0
      have HX := Lib.hid (show txR r = T from by unfold txR; rw [if_pos h0, HTT.out])
      clear h0
      go_wp2
      go_ret
      exact ⟨by rw [HX.out]; rfl, below_drewN HB.out _⟩
    · have h0' : (r.ca == 0) = false := by simpa using h0
      have HX := Lib.hid (show txR r = T ++ ⟨#[32, 99, 97, 114, 100, 32]⟩ ++ fmtB r.ca from by unfold txR; rw [if_neg h0, HTT.out])
      clear h0
      go_wp2_with fail
      refine (num_any r.ca (by omega) (by omega) _).mono ?_
      rintro e w3 ⟨rfl, q3, rfl⟩
      go_wp2
      go_ret
      exact ⟨by rw [HX.out]; rfl, below_drewN HB.out _⟩
  | false =>
    go_upto_region 4 with (fail)
    obtain ⟨T, hT⟩ : ∃ T, A ++ ⟨#[32, 109]⟩ = T := ⟨_, rfl⟩
    have hTs : T.size ≤ 62 := by rw [← hT, ByteArray.size_append]; show _ + 2 ≤ 62; omega
    have HTT := Lib.hid (show tB r = T from by rw [HT.out, ← hT]; rfl)
    rw [hT]
    clear hT
    by_cases h0 : r.ca = 0
    · have h0' : (r.ca == 0) = true := by simpa using h0
      have HX := Lib.hid (show txR r = T from by unfold txR; rw [if_pos h0, HTT.out])
      clear h0
      go_wp2
      go_ret
      exact ⟨by rw [HX.out]; rfl, below_drewN HB.out _⟩
    · have h0' : (r.ca == 0) = false := by simpa using h0
      have HX := Lib.hid (show txR r = T ++ ⟨#[32, 99, 97, 114, 100, 32]⟩ ++ fmtB r.ca from by unfold txR; rw [if_neg h0, HTT.out])
      clear h0
      go_wp2_with fail
      refine (num_any r.ca (by omega) (by omega) _).mono ?_
      rintro e w3 ⟨rfl, q3, rfl⟩
      go_wp2
      go_ret
      exact ⟨by rw [HX.out]; rfl, below_drewN HB.out _⟩

set_option maxRecDepth 20000 in
set_option maxHeartbeats 2000000 in
theorem spec_any (r : Ru) (hr : Is r) (w : World) : Calls Tryd.prog 8 #[.agg #[.int .i64 r.id, .string r.nm, .string r.cl, .int .i64 r.bo, .bool r.wo, .int .i64 r.ca]] w fun e w' => e = .returned (.tuple #[.string (rtx r), .bool (okR r)]) ∧ Below w.heap.size w w' := by
  have HB := Lib.hid ((Below.refl w.heap.size w).alloc (Nat.le_refl _) (.cells #[.int .i64 r.id, .string r.nm, .string r.cl, .int .i64 r.bo, .bool r.wo, .int .i64 r.ca] 25))
  have HK := Lib.hid (Blk.new w 25 #[.int .i64 r.id, .string r.nm, .string r.cl, .int .i64 r.bo, .bool r.wo, .int .i64 r.ca])
  obtain ⟨ok, hok⟩ : ∃ ok, okR r = ok := ⟨_, rfl⟩
  have c1 := Lib.hid (fun w => hok ▸ spec_one r hr w)
  have HO := Lib.hid hok
  have HX := Lib.hid (show rtx r = if ok then txR r else ⟨#[]⟩ from by unfold rtx; rw [hok])
  rw [hok]
  clear hok hr
  go_enter Tryd.func8, Tryd.ntmps8
  go_wp2_with fail
  refine (c1.out _).mono ?_
  rintro e w1 ⟨rfl, hb⟩
  have HB1 := Lib.hid (HB.out.trans (hb.mono (by simp)))
  have HK1 := Lib.hid (HK.out.later hb)
  clear hb HB HK
  cases ok with
  | false =>
    go_wp2
    go_ret2
    exact ⟨by rw [HX.out]; rfl, HB1.out⟩
  | true =>
    obtain ⟨⟨p0, p1, p2, p3, p4, p5⟩, -⟩ := blk_cells HK1.out
    go_wp2_with fail
    refine (text_any r HO.out _).mono ?_
    rintro e w2 ⟨rfl, hb⟩
    have HB2 := Lib.hid (HB1.out.trans (hb.mono HB1.out.size))
    clear hb
    go_wp2
    go_ret2
    exact ⟨by rw [HX.out]; rfl, HB2.out⟩

end Go.Proofs.YtjngnjokbnklfaaDoor.RuT
