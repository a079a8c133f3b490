/- The drawing of a runner. -/
import Derived.Test.YtjngnjokbnklfaaDoorRuDr
import Derived.RegionTactic
import Derived.OwnWalk
import Derived.Deep.CutRange
import Derived.Deep.DeepCutAuto
namespace Go.Proofs.YtjngnjokbnklfaaDoor.RuDo
open Go.RowKit Lb Bk Cur RuK RuDr
set_option linter.unusedSimpArgs false
set_option linter.unusedVariables false

def Sm (f : Ru) : Prop := f.nm.size ≤ 16 ∧ f.cl.size ≤ 16
set_option maxRecDepth 20000 in
set_option maxHeartbeats 1000000 in
theorem runner_any (b m : Nat) (id : Int) (w : World) (hm : m ≤ 1152921504606840000) (hok : Ok w b m) :
    Calls Tryd.prog 34 #[.pointer (some ⟨b, 0, none⟩), .int .i64 id] w fun e w' => (∃ f : Ru, e = .returned (.agg #[.int .i64 f.id, .string f.nm, .string f.cl, .int .i64 f.bo, .bool f.wo, .int .i64 f.ca]) ∧ Sm f) ∧ Ok w' b (m + 40) ∧ w.grownBy w' (some b) := by
  have H0 := Lib.hid (Rd.start hok)
  clear hok
  go_enter Tryd.func34, Tryd.ntmps34
  go_wp2_with fail
  refine (of_new b _ 4 16 [⟨#[97, 110, 110]⟩, ⟨#[98, 111]⟩, ⟨#[99, 121]⟩, ⟨#[100, 105]⟩] _ (by first | rfl | simp) (by omega) rfl (by decide) (by decide) (by decide) H0.out.ok).mono ?_
  rintro e w1 ⟨⟨x1, rfl, hx1⟩, hok, hg⟩
  have H1 := Lib.hid (H0.out.step hok hg)
  clear hok hg H0
  go_wp2_with fail
  refine (of_new b _ 4 16 [⟨#[104, 105, 108, 108]⟩, ⟨#[104, 105, 108, 108]⟩, ⟨#[102, 101, 110]⟩, ⟨#[111, 97, 107]⟩] _ (by first | rfl | simp) (by omega) rfl (by decide) (by decide) (by decide) H1.out.ok).mono ?_
  rintro e w2 ⟨⟨x2, rfl, hx2⟩, hok, hg⟩
  have H2 := Lib.hid (H1.out.step hok hg)
  clear hok hg H1
  go_wp2_with fail
  refine (among_new b _ 5 [1920, 1960, 1990, 2008, 2020] _ (by first | rfl | simp) (by omega) rfl (by decide) (by decide) H2.out.ok).mono ?_
  rintro e w3 ⟨⟨x3, rfl, -⟩, hok, hg⟩
  have H3 := Lib.hid (H2.out.step hok hg)
  clear hok hg H2
  go_wp2_with fail
  refine (one_any b _ 2 _ (by omega) (by omega) (by omega) H3.out.ok).mono ?_
  rintro e w4 ⟨⟨x4, rfl⟩, hok, hg⟩
  have H4 := Lib.hid (H3.out.step hok hg)
  clear hok hg H3
  go_wp2_with fail
  refine (among_new b _ 8 [0, 0, 1, 7, 8, 9, 815, 9999] _ (by first | rfl | simp) (by omega) rfl (by decide) (by decide) H4.out.ok).mono ?_
  rintro e w5 ⟨⟨x5, rfl, -⟩, hok, hg⟩
  have H5 := Lib.hid (H4.out.step hok hg)
  clear hok hg H4
  have HE := Lib.hid (Re.start H5.out (⟨id, x1, x2, x3, x4, x5⟩ : Ru))
  clear H5
  go_wp2_with fail
  refine (pick_any b _ 70 _ (by omega) (by omega) (by omega) HE.out.ok).mono ?_
  rintro e w6 ⟨⟨x6, rfl, -, -⟩, hok, hg⟩
  have HS := Lib.hid (HE.out.step hok hg)
  clear hok hg HE
  have hq : x6 = 0 ∨ x6 = 1 ∨ x6 = 2 ∨ x6 = 3 ∨ x6 = 4 ∨ (x6 ≠ 0 ∧ x6 ≠ 1 ∧ x6 ≠ 2 ∧ x6 ≠ 3 ∧ x6 ≠ 4) := by omega
  rcases hq with rfl | rfl | rfl | rfl | rfl | hq
  · skip
    go_wp2_with fail
    refine (among_new b _ 3 [0, 999, 1000] _ (by first | rfl | simp) (by omega) rfl (by decide) (by decide) HS.out.ok).mono ?_
    rintro e w7 ⟨⟨x7, rfl, -⟩, hok, hg⟩
    have HT := Lib.hid (HS.out.step hok hg)
    clear hok hg HS
    obtain ⟨⟨c0, -, -, -, -, -⟩, d0, -, -, -, -, -⟩ := blk_cells HT.out.F
    go_upto_region 13 with (fail)
    have HU := Lib.hid (HT.out.put_id x7)
    clear c0 d0 HT
    generalize World.setCell _ _ _ = wu at *
    obtain ⟨f, hf⟩ : ∃ f : Ru, (⟨x7, x1, x2, x3, x4, x5⟩ : Ru) = f := ⟨_, rfl⟩
    have hs : Sm f := by rw [← hf]; exact ⟨by assumption, by assumption⟩
    have HF := Lib.hid (hf ▸ HU.out)
    clear hf HU
    obtain ⟨⟨p0, p1, p2, p3, p4, p5⟩, -⟩ := blk_cells HF.out.F
    obtain ⟨⟨r0, r1, r2, r3, r4, r5⟩, y0, y1, y2, y3, y4, y5⟩ := blk_cells HF.out.R
    have hlg := HF.out.lg
    go_wp2
    clear p0 r0 y0 p1 r1 y1 p2 r2 y2 p3 r3 y3 p4 r4 y4 p5 r5 y5
    have hz := HF.out.fin
    generalize (World.setCell (World.setCell (World.setCell _ _ _) _ _) _ _) = w9 at *
    obtain ⟨hz1, hz2, hz3⟩ := hz
    obtain ⟨⟨u0, u1, u2, u3, u4, u5⟩, -⟩ := blk_cells hz1
    exact bodyPost_ret (v := .agg #[.int .i64 f.id, .string f.nm, .string f.cl, .int .i64 f.bo, .bool f.wo, .int .i64 f.ca]) (by simp [results, Tryd.results34, go_sem, u0, u1, u2, u3, u4, u5]) rfl ⟨⟨f, rfl, hs⟩, hz2.mono (by omega), hz3⟩
  · skip
    go_wp2_with fail
    refine (of_new b _ 3 16 [⟨#[]⟩, ⟨#[65]⟩, ⟨#[97, 98, 99, 100, 101, 102, 103, 104, 105, 106, 107]⟩] _ (by first | rfl | simp) (by omega) rfl (by decide) (by decide) (by decide) HS.out.ok).mono ?_
    rintro e w8 ⟨⟨x8, rfl, hx8⟩, hok, hg⟩
    have HT := Lib.hid (HS.out.step hok hg)
    clear hok hg HS
    obtain ⟨⟨-, c1, -, -, -, -⟩, -, d1, -, -, -, -⟩ := blk_cells HT.out.F
    go_upto_region 13 with (fail)
    have HU := Lib.hid (HT.out.put_nm x8)
    clear c1 d1 HT
    generalize World.setCell _ _ _ = wu at *
    obtain ⟨f, hf⟩ : ∃ f : Ru, (⟨id, x8, x2, x3, x4, x5⟩ : Ru) = f := ⟨_, rfl⟩
    have hs : Sm f := by rw [← hf]; exact ⟨by assumption, by assumption⟩
    have HF := Lib.hid (hf ▸ HU.out)
    clear hf HU
    obtain ⟨⟨p0, p1, p2, p3, p4, p5⟩, -⟩ := blk_cells HF.out.F
    obtain ⟨⟨r0, r1, r2, r3, r4, r5⟩, y0, y1, y2, y3, y4, y5⟩ := blk_cells HF.out.R
    have hlg := HF.out.lg
    go_wp2
    clear p0 r0 y0 p1 r1 y1 p2 r2 y2 p3 r3 y3 p4 r4 y4 p5 r5 y5
    have hz := HF.out.fin
    generalize (World.setCell (World.setCell (World.setCell _ _ _) _ _) _ _) = w9 at *
    obtain ⟨hz1, hz2, hz3⟩ := hz
    obtain ⟨⟨u0, u1, u2, u3, u4, u5⟩, -⟩ := blk_cells hz1
    exact bodyPost_ret (v := .agg #[.int .i64 f.id, .string f.nm, .string f.cl, .int .i64 f.bo, .bool f.wo, .int .i64 f.ca]) (by simp [results, Tryd.results34, go_sem, u0, u1, u2, u3, u4, u5]) rfl ⟨⟨f, rfl, hs⟩, hz2.mono (by omega), hz3⟩
  · skip
    go_wp2_with fail
    refine (of_new b _ 3 16 [⟨#[]⟩, ⟨#[65]⟩, ⟨#[97, 98, 99, 100, 101, 102, 103, 104, 105, 106, 107]⟩] _ (by first | rfl | simp) (by omega) rfl (by decide) (by decide) (by decide) HS.out.ok).mono ?_
    rintro e w9 ⟨⟨x9, rfl, hx9⟩, hok, hg⟩
    have HT := Lib.hid (HS.out.step hok hg)
    clear hok hg HS
    obtain ⟨⟨-, -, c2, -, -, -⟩, -, -, d2, -, -, -⟩ := blk_cells HT.out.F
    go_upto_region 13 with (fail)
    have HU := Lib.hid (HT.out.put_cl x9)
    clear c2 d2 HT
    generalize World.setCell _ _ _ = wu at *
    obtain ⟨f, hf⟩ : ∃ f : Ru, (⟨id, x1, x9, x3, x4, x5⟩ : Ru) = f := ⟨_, rfl⟩
    have hs : Sm f := by rw [← hf]; exact ⟨by assumption, by assumption⟩
    have HF := Lib.hid (hf ▸ HU.out)
    clear hf HU
    obtain ⟨⟨p0, p1, p2, p3, p4, p5⟩, -⟩ := blk_cells HF.out.F
    obtain ⟨⟨r0, r1, r2, r3, r4, r5⟩, y0, y1, y2, y3, y4, y5⟩ := blk_cells HF.out.R
    have hlg := HF.out.lg
    go_wp2
    clear p0 r0 y0 p1 r1 y1 p2 r2 y2 p3 r3 y3 p4 r4 y4 p5 r5 y5
    have hz := HF.out.fin
    generalize (World.setCell (World.setCell (World.setCell _ _ _) _ _) _ _) = w9 at *
    obtain ⟨hz1, hz2, hz3⟩ := hz
    obtain ⟨⟨u0, u1, u2, u3, u4, u5⟩, -⟩ := blk_cells hz1
    exact bodyPost_ret (v := .agg #[.int .i64 f.id, .string f.nm, .string f.cl, .int .i64 f.bo, .bool f.wo, .int .i64 f.ca]) (by simp [results, Tryd.results34, go_sem, u0, u1, u2, u3, u4, u5]) rfl ⟨⟨f, rfl, hs⟩, hz2.mono (by omega), hz3⟩
  · skip
    go_wp2_with fail
    refine (among_new b _ 2 [1919, 2021] _ (by first | rfl | simp) (by omega) rfl (by decide) (by decide) HS.out.ok).mono ?_
    rintro e w10 ⟨⟨x10, rfl, -⟩, hok, hg⟩
    have HT := Lib.hid (HS.out.step hok hg)
    clear hok hg HS
    obtain ⟨⟨-, -, -, c3, -, -⟩, -, -, -, d3, -, -⟩ := blk_cells HT.out.F
    go_upto_region 13 with (fail)
    have HU := Lib.hid (HT.out.put_bo x10)
    clear c3 d3 HT
    generalize World.setCell _ _ _ = wu at *
    obtain ⟨f, hf⟩ : ∃ f : Ru, (⟨id, x1, x2, x10, x4, x5⟩ : Ru) = f := ⟨_, rfl⟩
    have hs : Sm f := by rw [← hf]; exact ⟨by assumption, by assumption⟩
    have HF := Lib.hid (hf ▸ HU.out)
    clear hf HU
    obtain ⟨⟨p0, p1, p2, p3, p4, p5⟩, -⟩ := blk_cells HF.out.F
    obtain ⟨⟨r0, r1, r2, r3, r4, r5⟩, y0, y1, y2, y3, y4, y5⟩ := blk_cells HF.out.R
    have hlg := HF.out.lg
    go_wp2
    clear p0 r0 y0 p1 r1 y1 p2 r2 y2 p3 r3 y3 p4 r4 y4 p5 r5 y5
    have hz := HF.out.fin
    generalize (World.setCell (World.setCell (World.setCell _ _ _) _ _) _ _) = w9 at *
    obtain ⟨hz1, hz2, hz3⟩ := hz
    obtain ⟨⟨u0, u1, u2, u3, u4, u5⟩, -⟩ := blk_cells hz1
    exact bodyPost_ret (v := .agg #[.int .i64 f.id, .string f.nm, .string f.cl, .int .i64 f.bo, .bool f.wo, .int .i64 f.ca]) (by simp [results, Tryd.results34, go_sem, u0, u1, u2, u3, u4, u5]) rfl ⟨⟨f, rfl, hs⟩, hz2.mono (by omega), hz3⟩
  · skip
    go_wp2_with fail
    refine (among_new b _ 2 [(-1), 10000] _ (by first | rfl | simp) (by omega) rfl (by decide) (by decide) HS.out.ok).mono ?_
    rintro e w11 ⟨⟨x11, rfl, -⟩, hok, hg⟩
    have HT := Lib.hid (HS.out.step hok hg)
    clear hok hg HS
    obtain ⟨⟨-, -, -, -, -, c5⟩, -, -, -, -, -, d5⟩ := blk_cells HT.out.F
    go_upto_region 13 with (fail)
    have HU := Lib.hid (HT.out.put_ca x11)
    clear c5 d5 HT
    generalize World.setCell _ _ _ = wu at *
    obtain ⟨f, hf⟩ : ∃ f : Ru, (⟨id, x1, x2, x3, x4, x11⟩ : Ru) = f := ⟨_, rfl⟩
    have hs : Sm f := by rw [← hf]; exact ⟨by assumption, by assumption⟩
    have HF := Lib.hid (hf ▸ HU.out)
    clear hf HU
    obtain ⟨⟨p0, p1, p2, p3, p4, p5⟩, -⟩ := blk_cells HF.out.F
    obtain ⟨⟨r0, r1, r2, r3, r4, r5⟩, y0, y1, y2, y3, y4, y5⟩ := blk_cells HF.out.R
    have hlg := HF.out.lg
    go_wp2
    clear p0 r0 y0 p1 r1 y1 p2 r2 y2 p3 r3 y3 p4 r4 y4 p5 r5 y5
    have hz := HF.out.fin
    generalize (World.setCell (World.setCell (World.setCell _ _ _) _ _) _ _) = w9 at *
    obtain ⟨hz1, hz2, hz3⟩ := hz
    obtain ⟨⟨u0, u1, u2, u3, u4, u5⟩, -⟩ := blk_cells hz1
    exact bodyPost_ret (v := .agg #[.int .i64 f.id, .string f.nm, .string f.cl, .int .i64 f.bo, .bool f.wo, .int .i64 f.ca]) (by simp [results, Tryd.results34, go_sem, u0, u1, u2, u3, u4, u5]) rfl ⟨⟨f, rfl, hs⟩, hz2.mono (by omega), hz3⟩
  · obtain ⟨q0, q1, q2, q3, q4⟩ := hq
    have e0 : ((x6 : Int) == 0) = false := by simp; omega
    have e1 : ((x6 : Int) == 1) = false := by simp; omega
    have e2 : ((x6 : Int) == 2) = false := by simp; omega
    have e3 : ((x6 : Int) == 3) = false := by simp; omega
    have e4 : ((x6 : Int) == 4) = false := by simp; omega
    clear q0 q1 q2 q3 q4
    obtain ⟨f, hf⟩ : ∃ f : Ru, (⟨id, x1, x2, x3, x4, x5⟩ : Ru) = f := ⟨_, rfl⟩
    have hs : Sm f := by rw [← hf]; exact ⟨by assumption, by assumption⟩
    have HF := Lib.hid (hf ▸ HS.out)
    clear hf HS
    obtain ⟨⟨p0, p1, p2, p3, p4, p5⟩, -⟩ := blk_cells HF.out.F
    obtain ⟨⟨r0, r1, r2, r3, r4, r5⟩, y0, y1, y2, y3, y4, y5⟩ := blk_cells HF.out.R
    have hlg := HF.out.lg
    go_wp2
    clear p0 r0 y0 p1 r1 y1 p2 r2 y2 p3 r3 y3 p4 r4 y4 p5 r5 y5
    have hz := HF.out.fin
    generalize (World.setCell (World.setCell (World.setCell _ _ _) _ _) _ _) = w9 at *
    obtain ⟨hz1, hz2, hz3⟩ := hz
    obtain ⟨⟨u0, u1, u2, u3, u4, u5⟩, -⟩ := blk_cells hz1
    exact bodyPost_ret (v := .agg #[.int .i64 f.id, .string f.nm, .string f.cl, .int .i64 f.bo, .bool f.wo, .int .i64 f.ca]) (by simp [results, Tryd.results34, go_sem, u0, u1, u2, u3, u4, u5]) rfl ⟨⟨f, rfl, hs⟩, hz2.mono (by omega), hz3⟩
end Go.Proofs.YtjngnjokbnklfaaDoor.RuDo
