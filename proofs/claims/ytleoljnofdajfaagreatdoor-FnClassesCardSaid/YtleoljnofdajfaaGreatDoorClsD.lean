/- The drawing of what FnClasses asks. -/
import Derived.Test.YtleoljnofdajfaaGreatDoorCurA
import Derived.RegionTactic
import Derived.Deep.CutRange
import Derived.Deep.DeepCutAuto
import Derived.Deep.LoopGhost
import Derived.Test.YtleoljnofdajfaaGreatDoorKlDl
import Derived.Test.YtleoljnofdajfaaGreatDoorKtT
import Derived.Test.YtleoljnofdajfaaGreatDoorKpM
namespace Go.Proofs.YtleoljnofdajfaaGreatDoor.DrG
open Go.RowKit Lb Bk Cur
set_option linter.unusedSimpArgs false
set_option linter.unusedVariables false

theorem nil_toList {x : ByteArray} (h : x = ⟨#[]⟩) : x.toList = [] := by rw [h, ByteArray.toList_eq]
theorem ne_toList {x : ByteArray} (h : ¬ x = ⟨#[]⟩) : ¬ x.toList = [] := by
  rw [ByteArray.toList_eq]
  intro e
  exact h (by cases x; simpa using e)
theorem ne_size {x : ByteArray} (h : ¬ x = ⟨#[]⟩) : 0 < x.size := by
  rcases Nat.eq_zero_or_pos x.size with e | e
  · exact absurd (by apply ByteArray.ext; exact Array.eq_empty_of_size_eq_zero e) h
  · exact e

set_option maxHeartbeats 2000000 in
theorem spoilt_any (b m : Nat) (t u : ByteArray) (w : World) (hm : m ≤ 1152921504606840000) (ht : t.size ≤ 4000) (hu : 0 < u.size) (hu2 : u.size ≤ 4000) (hok : Ok w b m) :
    Calls Tryz.prog 36 #[.pointer (some ⟨b, 0, none⟩), .string t, .string u] w fun e w' => (∃ s : ByteArray, e = .returned (.string s) ∧ s.size ≤ 8001) ∧ Ok w' b (m + 6) ∧ w.grownBy w' (some b) := by
  have HO := Lib.hid hok
  clear hok
  by_cases h0 : t = ⟨#[]⟩
  · have e1 := nil_toList h0
    have e2 : t.toList.isEmpty = true := by rw [e1]; rfl
    clear h0
    go_enter Tryz.func36, Tryz.ntmps36
    go_wp2
    go_ret
    exact ⟨⟨_, rfl, by rw [ByteArray.size_extract]; omega⟩, HO.out.mono (by omega), gbelow (Below.refl _ _) _⟩
  · have e1 := ne_toList h0
    have e2 : t.toList.isEmpty = false := by
      cases h : t.toList.isEmpty with
      | false => rfl
      | true => exact absurd (List.isEmpty_iff.1 h) e1
    have h1 := ne_size h0
    clear h0
    go_enter Tryz.func36, Tryz.ntmps36
    go_wp2_with fail
    refine (pick_any b m t.size _ (by omega) (by omega) (by omega) HO.out).mono ?_
    rintro e w1 ⟨⟨i, rfl, _, hi'⟩, hok, hg⟩
    have hi : i < t.size := by omega
    have H1 := Lib.hid hok
    have G1 := Lib.hid hg
    clear hok hg hi' HO
    go_wp2_with fail
    refine (pick_any b _ u.size _ (by omega) (by omega) (by omega) H1.out).mono ?_
    rintro e w2 ⟨⟨j, rfl, _, hj'⟩, hok, hg⟩
    have hj : j < u.size := by omega
    have H2 := Lib.hid hok
    have G2 := Lib.hid (gtrans G1.out hg)
    clear hok hg hj'
    obtain ⟨v, hv⟩ : ∃ v, u.extract j u.size = v := ⟨_, rfl⟩
    have hvs : v.size = u.size - j := by rw [← hv, ByteArray.size_extract]; omega
    have hv1 : 1 ≤ v.size := by omega
    go_wp2_with fail
    refine (pick_any b _ 3 _ (by omega) (by omega) (by omega) H2.out).mono ?_
    rintro e w3 ⟨⟨c, rfl, hc', _⟩, hok, hg⟩
    have H3 := Lib.hid hok
    have G3 := Lib.hid (gtrans G2.out hg)
    clear hok hg
    obtain ⟨x, hx⟩ : ∃ x, t.extract 0 i = x := ⟨_, rfl⟩
    obtain ⟨y, hy⟩ : ∃ y, v.extract 0 1 = y := ⟨_, rfl⟩
    obtain ⟨z0, hz0⟩ : ∃ z, t.extract i t.size = z := ⟨_, rfl⟩
    obtain ⟨z1, hz1⟩ : ∃ z, t.extract (i + 1) t.size = z := ⟨_, rfl⟩
    have hxs : x.size ≤ 4000 := by rw [← hx, ByteArray.size_extract]; omega
    have hys : y.size ≤ 1 := by rw [← hy, ByteArray.size_extract]; omega
    have hz0s : z0.size ≤ 4000 := by rw [← hz0, ByteArray.size_extract]; omega
    have hz1s : z1.size ≤ 4000 := by rw [← hz1, ByteArray.size_extract]; omega
    have k1 : (9223372036854775807 < x.size + y.size) = False := by simp only [eq_iff_iff, iff_false]; omega
    have k2 : (9223372036854775807 < x.size + y.size + z0.size) = False := by simp only [eq_iff_iff, iff_false]; omega
    have k3 : (9223372036854775807 < x.size + y.size + z1.size) = False := by simp only [eq_iff_iff, iff_false]; omega
    have k4 : (9223372036854775807 < x.size + z1.size) = False := by simp only [eq_iff_iff, iff_false]; omega
    have hwr : IntKind.i64.wrap ((i : Int) + 1) = (i : Int) + 1 := IntWalk.i64_in _ (by omega)
    rcases (show c = 0 ∨ c = 1 ∨ 1 < c by omega) with rfl | rfl | hc1
    · go_wp2
      go_quiet (fail)
      all_goals go_wp2
      all_goals go_ret
      all_goals exact ⟨⟨_, rfl, by simp only [ByteArray.size_append]; omega⟩, H3.out.below (below_drewN (Below.refl _ _) _), gtrans G3.out (gbelow (below_drewN (Below.refl _ _) _) _)⟩
    · go_wp2
      go_quiet (fail)
      all_goals go_wp2
      all_goals go_ret
      all_goals exact ⟨⟨_, rfl, by simp only [ByteArray.size_append]; omega⟩, H3.out.below (below_drewN (Below.refl _ _) _), gtrans G3.out (gbelow (below_drewN (Below.refl _ _) _) _)⟩
    · have n0 : ¬ (c : Int) = 0 := by omega
      have n1 : ¬ (c : Int) = 1 := by omega
      go_wp2
      go_quiet (fail)
      all_goals go_wp2
      all_goals go_ret
      all_goals exact ⟨⟨_, rfl, by simp only [ByteArray.size_append]; omega⟩, H3.out.below (below_drewN (Below.refl _ _) _), gtrans G3.out (gbelow (below_drewN (Below.refl _ _) _) _)⟩

def withU : ByteArray := ⟨#[48, 32, 101, 115, 112, 49]⟩
end Go.Proofs.YtleoljnofdajfaaGreatDoor.DrG

namespace Go.Proofs.YtleoljnofdajfaaGreatDoor.ClsD
open Go.RowKit Lb Bk Cur KlK KlI KlDr KlDl CodB Fmt KtT
set_option linter.unusedSimpArgs false
set_option linter.unusedVariables false

theorem set_grown (w : World) (a : Addr) (v : Value) : w.grownBy (w.setCell a v) (some a.block) := ⟨rfl, rfl, rfl, by simp [World.setCell], fun k _ hk => heap_setCell_other w a k v (fun e => hk (by simp [e]))⟩
theorem below_of {B : Nat} {w w1 W : World} {b : Nat} (hb : Below B w w1) (hg : w1.grownBy W (some b)) (h1 : B ≤ w1.heap.size) (h2 : B ≤ b) : Below B w W :=
  hb.trans ⟨hg.os, hg.tape, hg.output, hg.size, fun k hk => hg.block k (by omega) (fun e => by cases e; omega)⟩
theorem blk_keep {w w' : World} {r : Option Nat} {T : TypeId} {A : Nat} {cs : Array Value} (h : Blk w A T cs) (hg : w.grownBy w' r) (hne : r ≠ some A) : Blk w' A T cs := (hg.block A h.lt (fun e => hne e.symm)).trans h

set_option maxHeartbeats 1000000 in
theorem is_any (a : Option Addr) (n cap : Nat) (xs : Nat → Nat) (w : World) (hc : Bytes w a n xs) :
    Calls Tryz.prog 22 #[.slice a n cap] w fun e w' => (∃ f : Kl, e = .returned (.agg #[.int .i64 f.id, .string f.nm, .int .i64 f.lo, .int .i64 f.hi, .bool f.wo, .bool f.me, .int .i64 f.co, .int .i64 f.mo]) ∧ Is f) ∧ Below w.heap.size w w' := by
  have hb0 : Below w.heap.size w (w.alloc (.cells #[.int .i64 no.id, .string no.nm, .int .i64 no.lo, .int .i64 no.hi, .bool no.wo, .bool no.me, .int .i64 no.co, .int .i64 no.mo] 25)) := (Below.refl _ _).alloc (Nat.le_refl _) _
  have HK := Lib.hid ((Blk.new w 25 #[.int .i64 no.id, .string no.nm, .int .i64 no.lo, .int .i64 no.hi, .bool no.wo, .bool no.me, .int .i64 no.co, .int .i64 no.mo]).alloc (.cells #[.slice a n cap, .int .i64 0, .int .u64 0] 64))
  have hbg := begin_ (hc.below hb0) cap
  rw [World.size_alloc] at hbg
  have HR := Lib.hid hbg
  have HB := Lib.hid (hb0.alloc hb0.size (.cells #[.slice a n cap, .int .i64 0, .int .u64 0] 64))
  clear hc hb0 hbg
  go_enter Tryz.func22, Tryz.ntmps22
  go_wp2_with fail
  refine (among_new (w.heap.size + 1) 0 3 [1, 42, 99] _ (by first | rfl | simp) (by omega) rfl (by decide) (by decide) HR.out).mono ?_
  rintro e w1 ⟨⟨z, rfl, -⟩, hok, hg⟩
  have HO := Lib.hid hok
  have HB1 := Lib.hid (below_of HB.out hg HB.out.size (Nat.le_succ _))
  have HK1 := Lib.hid (blk_keep HK.out hg (fun e => by simp at e))
  clear hok hg HR HB HK
  go_wp2_with fail
  refine (KlDo.class_any (w.heap.size + 1) _ z _ (by omega) HO.out).mono ?_
  rintro e w2 ⟨⟨f, rfl, hf⟩, hok, hg⟩
  have HI := Lib.hid (KlLs.sm_is hf)
  have HB2 := Lib.hid (below_of HB1.out hg HB1.out.size (Nat.le_succ _))
  have HK2 := Lib.hid (blk_keep HK1.out hg (fun e => by simp at e))
  clear hok hg hf HB1 HK1 HO
  obtain ⟨⟨r0, r1, r2, r3, r4, r5, r6, r7⟩, y0, y1, y2, y3, y4, y5, y6, y7⟩ := blk_cells HK2.out
  go_wp2
  clear r0 r1 r2 r3 r4 r5 r6 r7 y0 y1 y2 y3 y4 y5 y6 y7
  have hz := blk_all HK2.out f
  have HB9 := Lib.hid (HB2.out.trans (hz.2 w.heap.size (Nat.le_refl _)))
  replace hz := hz.1
  generalize World.setCell (World.setCell (World.setCell (World.setCell (World.setCell (World.setCell (World.setCell (World.setCell _ _ _) _ _) _ _) _ _) _ _) _ _) _ _) _ _ = w9 at *
  obtain ⟨⟨u0, u1, u2, u3, u4, u5, u6, u7⟩, -⟩ := blk_cells hz
  exact bodyPost_ret (v := .agg #[.int .i64 f.id, .string f.nm, .int .i64 f.lo, .int .i64 f.hi, .bool f.wo, .bool f.me, .int .i64 f.co, .int .i64 f.mo]) (by simp [results, Tryz.results22, go_sem, u0, u1, u2, u3, u4, u5, u6, u7]) rfl ⟨⟨f, rfl, HI.out⟩, HB9.out⟩

set_option maxHeartbeats 1000000 in
theorem text_any (a : Option Addr) (n cap : Nat) (xs : Nat → Nat) (w : World) (hc : Bytes w a n xs) :
    Calls Tryz.prog 5 #[.slice a n cap] w fun e w' => (∃ f : Kl, e = .returned (.agg #[.int .i64 f.id, .string f.nm, .int .i64 f.lo, .int .i64 f.hi, .bool f.wo, .bool f.me, .int .i64 f.co, .int .i64 f.mo]) ∧ Is f) ∧ Below w.heap.size w w' := by
  have hb0 : Below w.heap.size w (w.alloc (.cells #[.int .i64 no.id, .string no.nm, .int .i64 no.lo, .int .i64 no.hi, .bool no.wo, .bool no.me, .int .i64 no.co, .int .i64 no.mo] 25)) := (Below.refl _ _).alloc (Nat.le_refl _) _
  have HK := Lib.hid (Blk.new w 25 #[.int .i64 no.id, .string no.nm, .int .i64 no.lo, .int .i64 no.hi, .bool no.wo, .bool no.me, .int .i64 no.co, .int .i64 no.mo])
  have HC := Lib.hid (hc.below hb0)
  have HB := Lib.hid hb0
  clear hc hb0
  go_enter Tryz.func5, Tryz.ntmps5
  go_wp2_with fail
  refine (is_any a n cap xs _ HC.out).mono ?_
  rintro e w1 ⟨⟨f, rfl, hf⟩, hb⟩
  have HI := Lib.hid hf
  have HB2 := Lib.hid (HB.out.trans (hb.mono HB.out.size))
  have HK2 := Lib.hid (HK.out.later hb)
  clear hb hf HB HK HC
  obtain ⟨⟨r0, r1, r2, r3, r4, r5, r6, r7⟩, y0, y1, y2, y3, y4, y5, y6, y7⟩ := blk_cells HK2.out
  go_wp2
  clear r0 r1 r2 r3 r4 r5 r6 r7 y0 y1 y2 y3 y4 y5 y6 y7
  have hz := blk_all HK2.out f
  have HB9 := Lib.hid (HB2.out.trans (hz.2 w.heap.size (Nat.le_refl _)))
  replace hz := hz.1
  generalize World.setCell (World.setCell (World.setCell (World.setCell (World.setCell (World.setCell (World.setCell (World.setCell _ _ _) _ _) _ _) _ _) _ _) _ _) _ _) _ _ = w9 at *
  obtain ⟨⟨u0, u1, u2, u3, u4, u5, u6, u7⟩, -⟩ := blk_cells hz
  exact bodyPost_ret (v := .agg #[.int .i64 f.id, .string f.nm, .int .i64 f.lo, .int .i64 f.hi, .bool f.wo, .bool f.me, .int .i64 f.co, .int .i64 f.mo]) (by simp [results, Tryz.results5, go_sem, u0, u1, u2, u3, u4, u5, u6, u7]) rfl ⟨⟨f, rfl, HI.out⟩, HB9.out⟩

set_option maxHeartbeats 1000000 in
theorem parse_any (a : Option Addr) (n cap : Nat) (xs : Nat → Nat) (w : World) (hc : Bytes w a n xs) :
    Calls Tryz.prog 10 #[.slice a n cap] w fun e w' => (∃ s : ByteArray, e = .returned (.string s) ∧ s.size ≤ 8001) ∧ Below w.heap.size w w' := by
  have HR := Lib.hid (begin_ hc cap)
  have HB := Lib.hid ((Below.refl w.heap.size w).alloc (Nat.le_refl _) (.cells #[.slice a n cap, .int .i64 0, .int .u64 0] 64))
  clear hc
  go_enter Tryz.func10, Tryz.ntmps10
  go_wp2_with fail
  refine (among_new w.heap.size 0 3 [1, 42, 99] _ (by first | rfl | simp) (by omega) rfl (by decide) (by decide) HR.out).mono ?_
  rintro e w1 ⟨⟨z, rfl, -⟩, hok, hg⟩
  have HO := Lib.hid hok
  have HB1 := Lib.hid (below_of HB.out hg HB.out.size (Nat.le_refl _))
  clear hok hg HR HB
  go_wp2_with fail
  refine (KlDo.class_any w.heap.size _ z _ (by omega) HO.out).mono ?_
  rintro e w2 ⟨⟨f, rfl, hf⟩, hok, hg⟩
  have HI := Lib.hid (KlLs.sm_is hf)
  have HO2 := Lib.hid hok
  have HB2 := Lib.hid (below_of HB1.out hg HB1.out.size (Nat.le_refl _))
  clear hok hg hf HB1 HO
  go_wp2_with fail
  refine (KtT.spec_any f HI.out _).mono ?_
  rintro e w3 ⟨rfl, hb⟩
  have hts : (ktx f).size ≤ 60 := by
    unfold ktx
    split
    · rename_i h; exact KpM.tx_small h
    · exact Nat.zero_le _
  have HO3 := Lib.hid (HO2.out.below hb)
  have HB3 := Lib.hid (HB2.out.trans (hb.mono HB2.out.size))
  obtain ⟨t, ht⟩ : ∃ t, ktx f = t := ⟨_, rfl⟩
  obtain ⟨o, ho⟩ : ∃ o, okK f = o := ⟨_, rfl⟩
  rw [ht] at hts
  rw [ht, ho]
  clear hb HO2 HB2 ht ho HI
  go_wp2_with fail
  refine (one_any w.heap.size _ 4 _ (by omega) (by omega) (by omega) HO3.out).mono ?_
  rintro e w4 ⟨⟨q, rfl⟩, hok, hg⟩
  have HO4 := Lib.hid hok
  have HB4 := Lib.hid (below_of HB3.out hg HB3.out.size (Nat.le_refl _))
  clear hok hg HO3 HB3
  cases q with
  | false =>
    go_wp2
    go_ret
    exact ⟨⟨t, rfl, by omega⟩, HB4.out⟩
  | true =>
    go_wp2_with fail
    refine (DrG.spoilt_any w.heap.size _ t ⟨#[48, 32, 45, 119, 109, 49]⟩ _ (by omega) (by omega) (by decide) (by decide) HO4.out).mono ?_
    rintro e w5 ⟨⟨s, rfl, hs⟩, hok, hg⟩
    have HB5 := Lib.hid (below_of HB4.out hg HB4.out.size (Nat.le_refl _))
    clear hok hg HO4 HB4
    go_wp2
    go_ret
    exact ⟨⟨s, rfl, hs⟩, HB5.out⟩

set_option maxHeartbeats 2000000 in
theorem for_any (a : Option Addr) (n cap : Nat) (xs : Nat → Nat) (w : World) (hc : Bytes w a n xs) :
    Calls Tryz.prog 39 #[.slice a n cap] w fun e w' => ∃ v fs f, e = .returned (.tuple #[v, .agg #[.int .i64 f.id, .string f.nm, .string f.cl, .int .i64 f.bo, .bool f.wo, .int .i64 f.ca]]) ∧ RuK.Is f ∧ Lst w w' v fs := by
  have hb0 : Below w.heap.size w (w.alloc (.cells #[.int .i64 (RuK.no).id, .string (RuK.no).nm, .string (RuK.no).cl, .int .i64 (RuK.no).bo, .bool (RuK.no).wo, .int .i64 (RuK.no).ca] 35)) := (Below.refl _ _).alloc (Nat.le_refl _) _
  have HK := Lib.hid ((Blk.new w 35 #[.int .i64 (RuK.no).id, .string (RuK.no).nm, .string (RuK.no).cl, .int .i64 (RuK.no).bo, .bool (RuK.no).wo, .int .i64 (RuK.no).ca]).alloc (.cells #[.slice a n cap, .int .i64 0, .int .u64 0] 64))
  have hbg := begin_ (hc.below hb0) cap
  rw [World.size_alloc] at hbg
  have HR := Lib.hid hbg
  have HB := Lib.hid (hb0.alloc hb0.size (.cells #[.slice a n cap, .int .i64 0, .int .u64 0] 64))
  clear hc hb0 hbg
  go_enter Tryz.func39, Tryz.ntmps39
  go_wp2_with fail
  refine (KlLs.classes_any (w.heap.size + 1) 0 _ (by omega) HR.out).mono ?_
  rintro e w1 ⟨v, fs, rfl, hle, his, hl⟩
  have HV := Lib.hid (show v.ownBlock ≠ some (w.heap.size + 1) ∧ v.ownBlock ≠ some w.heap.size from ⟨fun e => by
    have := (World.ownsRow.lt hl.L _ e).1
    have h2 := hl.lb
    omega, fun e => by
    have := (World.ownsRow.lt hl.L _ e).1
    have h2 := hl.lb
    omega⟩)
  have HO := Lib.hid hl.ok
  have HK1 := Lib.hid (blk_keep HK.out hl.G (fun e => by simp at e))
  have HL := Lib.hid (Lst.of hle his hl HB.out (Nat.le_succ _))
  clear hl his HR HK HB hle
  go_wp2_with fail
  refine (RuDo.runner_any (w.heap.size + 1) _ _ _ (by omega) HO.out).mono ?_
  rintro e wz ⟨⟨f, rfl, hf⟩, hok, hg⟩
  have HF := Lib.hid (RuLs.sm_is hf)
  have HLz := Lib.hid (HL.out.step hg (Nat.le_succ _) HV.out.1)
  have HKz := Lib.hid (blk_keep HK1.out hg (fun e => by simp at e))
  clear hok hg hf HL HK1 HO
  obtain ⟨⟨r0, r1, r2, r3, r4, r5⟩, y0, y1, y2, y3, y4, y5⟩ := RuK.blk_cells HKz.out
  go_wp2
  clear r0 r1 r2 r3 r4 r5 y0 y1 y2 y3 y4 y5
  have hz := RuK.blk_all HKz.out f
  have HL9 := Lib.hid (HLz.out.step (gtrans (gtrans (gtrans (gtrans (gtrans (set_grown wz ⟨w.heap.size, 0, none⟩ (.int .i64 f.id)) (set_grown _ ⟨w.heap.size, 1, none⟩ (.string f.nm))) (set_grown _ ⟨w.heap.size, 2, none⟩ (.string f.cl))) (set_grown _ ⟨w.heap.size, 3, none⟩ (.int .i64 f.bo))) (set_grown _ ⟨w.heap.size, 4, none⟩ (.bool f.wo))) (set_grown _ ⟨w.heap.size, 5, none⟩ (.int .i64 f.ca))) (Nat.le_refl _) HV.out.2)
  replace hz := hz.1
  generalize World.setCell (World.setCell (World.setCell (World.setCell (World.setCell (World.setCell _ _ _) _ _) _ _) _ _) _ _) _ _ = w9 at *
  obtain ⟨⟨u0, u1, u2, u3, u4, u5⟩, -⟩ := RuK.blk_cells hz
  exact bodyPost_ret (v := .tuple #[v, .agg #[.int .i64 f.id, .string f.nm, .string f.cl, .int .i64 f.bo, .bool f.wo, .int .i64 f.ca]]) (by simp [results, Tryz.results39, go_sem, u0, u1, u2, u3, u4, u5]) rfl ⟨v, fs, f, rfl, HF.out, HL9.out⟩

set_option maxHeartbeats 2000000 in
theorem best_any (a : Option Addr) (n cap : Nat) (xs : Nat → Nat) (w : World) (hc : Bytes w a n xs) :
    Calls Tryz.prog 12 #[.slice a n cap] w fun e w' => ∃ v fs f, e = .returned (.tuple #[v, .agg #[.int .i64 f.id, .string f.nm, .string f.cl, .int .i64 f.bo, .bool f.wo, .int .i64 f.ca]]) ∧ RuK.Is f ∧ Lst w w' v fs := by
  have hb0 : Below w.heap.size w (w.alloc (.cells #[.int .i64 (RuK.no).id, .string (RuK.no).nm, .string (RuK.no).cl, .int .i64 (RuK.no).bo, .bool (RuK.no).wo, .int .i64 (RuK.no).ca] 35)) := (Below.refl _ _).alloc (Nat.le_refl _) _
  have HK := Lib.hid (Blk.new w 35 #[.int .i64 (RuK.no).id, .string (RuK.no).nm, .string (RuK.no).cl, .int .i64 (RuK.no).bo, .bool (RuK.no).wo, .int .i64 (RuK.no).ca])
  have HC := Lib.hid (hc.below hb0)
  have HB := Lib.hid hb0
  clear hc hb0
  go_enter Tryz.func12, Tryz.ntmps12
  go_wp2_with fail
  refine (for_any a n cap xs _ HC.out).mono ?_
  rintro e wz ⟨v, fs, f, rfl, hf, hl⟩
  have HF := Lib.hid hf
  have HV := Lib.hid (show True ∧ v.ownBlock ≠ some w.heap.size from ⟨trivial, fun e => by
    have := (World.ownsRow.lt hl.own _ e).1
    rw [World.size_alloc] at this
    omega⟩)
  have HKz := Lib.hid (HK.out.later hl.B)
  have HLz := Lib.hid (show Lst w wz v fs from ⟨hl.le, hl.is, hl.own.rebase (by rw [World.size_alloc]; omega), HB.out.trans (hl.B.mono HB.out.size)⟩)
  clear hl hf HB HK HC
  obtain ⟨⟨r0, r1, r2, r3, r4, r5⟩, y0, y1, y2, y3, y4, y5⟩ := RuK.blk_cells HKz.out
  go_wp2
  clear r0 r1 r2 r3 r4 r5 y0 y1 y2 y3 y4 y5
  have hz := RuK.blk_all HKz.out f
  have HL9 := Lib.hid (HLz.out.step (gtrans (gtrans (gtrans (gtrans (gtrans (set_grown wz ⟨w.heap.size, 0, none⟩ (.int .i64 f.id)) (set_grown _ ⟨w.heap.size, 1, none⟩ (.string f.nm))) (set_grown _ ⟨w.heap.size, 2, none⟩ (.string f.cl))) (set_grown _ ⟨w.heap.size, 3, none⟩ (.int .i64 f.bo))) (set_grown _ ⟨w.heap.size, 4, none⟩ (.bool f.wo))) (set_grown _ ⟨w.heap.size, 5, none⟩ (.int .i64 f.ca))) (Nat.le_refl _) HV.out.2)
  replace hz := hz.1
  generalize World.setCell (World.setCell (World.setCell (World.setCell (World.setCell (World.setCell _ _ _) _ _) _ _) _ _) _ _) _ _ = w9 at *
  obtain ⟨⟨u0, u1, u2, u3, u4, u5⟩, -⟩ := RuK.blk_cells hz
  exact bodyPost_ret (v := .tuple #[v, .agg #[.int .i64 f.id, .string f.nm, .string f.cl, .int .i64 f.bo, .bool f.wo, .int .i64 f.ca]]) (by simp [results, Tryz.results12, go_sem, u0, u1, u2, u3, u4, u5]) rfl ⟨v, fs, f, rfl, HF.out, HL9.out⟩

theorem put8_ok {w : World} {g : Nat} {x : Kl} (h : Blk w g 25 #[.int .i64 x.id, .string x.nm, .int .i64 x.lo, .int .i64 x.hi, .bool x.wo, .bool x.me, .int .i64 x.co, .int .i64 x.mo]) (f : Kl) : Blk ((((((((w.setCell ⟨g, 0, none⟩ (.int .i64 f.id)).setCell ⟨g, 1, none⟩ (.string f.nm)).setCell ⟨g, 2, none⟩ (.int .i64 f.lo)).setCell ⟨g, 3, none⟩ (.int .i64 f.hi)).setCell ⟨g, 4, none⟩ (.bool f.wo)).setCell ⟨g, 5, none⟩ (.bool f.me)).setCell ⟨g, 6, none⟩ (.int .i64 f.co)).setCell ⟨g, 7, none⟩ (.int .i64 f.mo)) g 25 #[.int .i64 f.id, .string f.nm, .int .i64 f.lo, .int .i64 f.hi, .bool f.wo, .bool f.me, .int .i64 f.co, .int .i64 f.mo] ∧ w.grownBy ((((((((w.setCell ⟨g, 0, none⟩ (.int .i64 f.id)).setCell ⟨g, 1, none⟩ (.string f.nm)).setCell ⟨g, 2, none⟩ (.int .i64 f.lo)).setCell ⟨g, 3, none⟩ (.int .i64 f.hi)).setCell ⟨g, 4, none⟩ (.bool f.wo)).setCell ⟨g, 5, none⟩ (.bool f.me)).setCell ⟨g, 6, none⟩ (.int .i64 f.co)).setCell ⟨g, 7, none⟩ (.int .i64 f.mo)) (some g) ∧ ∀ B, B ≤ g → Below B w ((((((((w.setCell ⟨g, 0, none⟩ (.int .i64 f.id)).setCell ⟨g, 1, none⟩ (.string f.nm)).setCell ⟨g, 2, none⟩ (.int .i64 f.lo)).setCell ⟨g, 3, none⟩ (.int .i64 f.hi)).setCell ⟨g, 4, none⟩ (.bool f.wo)).setCell ⟨g, 5, none⟩ (.bool f.me)).setCell ⟨g, 6, none⟩ (.int .i64 f.co)).setCell ⟨g, 7, none⟩ (.int .i64 f.mo)) :=
  have hz := blk_all h f
  ⟨hz.1, (gtrans (gtrans (gtrans (gtrans (gtrans (gtrans (gtrans (set_grown w ⟨g, 0, none⟩ (.int .i64 f.id)) (set_grown _ ⟨g, 1, none⟩ (.string f.nm))) (set_grown _ ⟨g, 2, none⟩ (.int .i64 f.lo))) (set_grown _ ⟨g, 3, none⟩ (.int .i64 f.hi))) (set_grown _ ⟨g, 4, none⟩ (.bool f.wo))) (set_grown _ ⟨g, 5, none⟩ (.bool f.me))) (set_grown _ ⟨g, 6, none⟩ (.int .i64 f.co))) (set_grown _ ⟨g, 7, none⟩ (.int .i64 f.mo))), hz.2⟩
theorem put6_ok {w : World} {g : Nat} {x : Ru} (h : Blk w g 35 #[.int .i64 x.id, .string x.nm, .string x.cl, .int .i64 x.bo, .bool x.wo, .int .i64 x.ca]) (f : Ru) : Blk ((((((w.setCell ⟨g, 0, none⟩ (.int .i64 f.id)).setCell ⟨g, 1, none⟩ (.string f.nm)).setCell ⟨g, 2, none⟩ (.string f.cl)).setCell ⟨g, 3, none⟩ (.int .i64 f.bo)).setCell ⟨g, 4, none⟩ (.bool f.wo)).setCell ⟨g, 5, none⟩ (.int .i64 f.ca)) g 35 #[.int .i64 f.id, .string f.nm, .string f.cl, .int .i64 f.bo, .bool f.wo, .int .i64 f.ca] ∧ w.grownBy ((((((w.setCell ⟨g, 0, none⟩ (.int .i64 f.id)).setCell ⟨g, 1, none⟩ (.string f.nm)).setCell ⟨g, 2, none⟩ (.string f.cl)).setCell ⟨g, 3, none⟩ (.int .i64 f.bo)).setCell ⟨g, 4, none⟩ (.bool f.wo)).setCell ⟨g, 5, none⟩ (.int .i64 f.ca)) (some g) ∧ ∀ B, B ≤ g → Below B w ((((((w.setCell ⟨g, 0, none⟩ (.int .i64 f.id)).setCell ⟨g, 1, none⟩ (.string f.nm)).setCell ⟨g, 2, none⟩ (.string f.cl)).setCell ⟨g, 3, none⟩ (.int .i64 f.bo)).setCell ⟨g, 4, none⟩ (.bool f.wo)).setCell ⟨g, 5, none⟩ (.int .i64 f.ca)) :=
  have hz := RuK.blk_all h f
  ⟨hz.1, (gtrans (gtrans (gtrans (gtrans (gtrans (set_grown w ⟨g, 0, none⟩ (.int .i64 f.id)) (set_grown _ ⟨g, 1, none⟩ (.string f.nm))) (set_grown _ ⟨g, 2, none⟩ (.string f.cl))) (set_grown _ ⟨g, 3, none⟩ (.int .i64 f.bo))) (set_grown _ ⟨g, 4, none⟩ (.bool f.wo))) (set_grown _ ⟨g, 5, none⟩ (.int .i64 f.ca))), hz.2⟩

set_option maxHeartbeats 4000000 in
theorem does_any (a : Option Addr) (n cap : Nat) (xs : Nat → Nat) (w : World) (hc : Bytes w a n xs) :
    Calls Tryz.prog 20 #[.slice a n cap] w fun e w' => ∃ y z, e = .returned (.tuple #[.agg #[.int .i64 y.id, .string y.nm, .int .i64 y.lo, .int .i64 y.hi, .bool y.wo, .bool y.me, .int .i64 y.co, .int .i64 y.mo], .agg #[.int .i64 z.id, .string z.nm, .string z.cl, .int .i64 z.bo, .bool z.wo, .int .i64 z.ca]]) ∧ KlK.Is y ∧ RuK.Is z ∧ Below w.heap.size w w' := by
  have hb0 : Below w.heap.size w (w.alloc (.cells #[.int .i64 no.id, .string no.nm, .int .i64 no.lo, .int .i64 no.hi, .bool no.wo, .bool no.me, .int .i64 no.co, .int .i64 no.mo] 25)) := (Below.refl _ _).alloc (Nat.le_refl _) _
  have hb1 := hb0.alloc hb0.size (.cells #[.int .i64 (RuK.no).id, .string (RuK.no).nm, .string (RuK.no).cl, .int .i64 (RuK.no).bo, .bool (RuK.no).wo, .int .i64 (RuK.no).ca] 35)
  have HK := Lib.hid (((Blk.new w 25 #[.int .i64 no.id, .string no.nm, .int .i64 no.lo, .int .i64 no.hi, .bool no.wo, .bool no.me, .int .i64 no.co, .int .i64 no.mo]).alloc (.cells #[.int .i64 (RuK.no).id, .string (RuK.no).nm, .string (RuK.no).cl, .int .i64 (RuK.no).bo, .bool (RuK.no).wo, .int .i64 (RuK.no).ca] 35)).alloc (.cells #[.slice a n cap, .int .i64 0, .int .u64 0] 64))
  have hl0 := (Blk.new (w.alloc (.cells #[.int .i64 no.id, .string no.nm, .int .i64 no.lo, .int .i64 no.hi, .bool no.wo, .bool no.me, .int .i64 no.co, .int .i64 no.mo] 25)) 35 #[.int .i64 (RuK.no).id, .string (RuK.no).nm, .string (RuK.no).cl, .int .i64 (RuK.no).bo, .bool (RuK.no).wo, .int .i64 (RuK.no).ca]).alloc (.cells #[.slice a n cap, .int .i64 0, .int .u64 0] 64)
  rw [World.size_alloc] at hl0
  have HL := Lib.hid hl0
  have hbg := begin_ (hc.below hb1) cap
  rw [World.size_alloc, World.size_alloc] at hbg
  have HR := Lib.hid hbg
  have HB := Lib.hid (hb1.alloc hb1.size (.cells #[.slice a n cap, .int .i64 0, .int .u64 0] 64))
  clear hc hb0 hbg hb1 hl0
  go_enter Tryz.func20, Tryz.ntmps20
  go_wp2_with fail
  refine (KlDo.class_any (w.heap.size + 1 + 1) 0 3 _ (by omega) HR.out).mono ?_
  rintro e w1 ⟨⟨f, rfl, hf⟩, hok, hg⟩
  have HI := Lib.hid (KlLs.sm_is hf)
  have HO := Lib.hid hok
  have HB1 := Lib.hid (below_of HB.out hg HB.out.size (by omega))
  have HK1 := Lib.hid (blk_keep HK.out hg (fun e => by simp at e; omega))
  have HL1 := Lib.hid (blk_keep HL.out hg (fun e => by simp at e))
  clear hok hg hf HB HK HL HR
  have hb := (Below.refl w1.heap.size w1).alloc (Nat.le_refl _) (.cells #[.int .i64 f.id, .string f.nm, .int .i64 f.lo, .int .i64 f.hi, .bool f.wo, .bool f.me, .int .i64 f.co, .int .i64 f.mo] 25)
  have HX := Lib.hid (Blk.new w1 25 #[.int .i64 f.id, .string f.nm, .int .i64 f.lo, .int .i64 f.hi, .bool f.wo, .bool f.me, .int .i64 f.co, .int .i64 f.mo])
  have hsz := HK1.out.lt
  have hs2 := HL1.out.lt
  have hne : w1.heap.size ≠ w.heap.size + 1 + 1 := by
    have := HO.out.lt
    omega
  replace HB1 := Lib.hid (HB1.out.trans (hb.mono HB1.out.size))
  replace HK1 := Lib.hid (HK1.out.later hb)
  replace HL1 := Lib.hid (HL1.out.later hb)
  replace HO := Lib.hid (HO.out.below hb)
  clear hb
  go_upto_region 3 with (fail)
  generalize hw2 : w1.alloc (.cells #[.int .i64 f.id, .string f.nm, .int .i64 f.lo, .int .i64 f.hi, .bool f.wo, .bool f.me, .int .i64 f.co, .int .i64 f.mo] 25) = w2 at *
  clear hw2
  obtain ⟨xb, hxb⟩ : ∃ b, w1.heap.size = b := ⟨_, rfl⟩
  rw [hxb] at hsz hs2 hne HX ⊢
  clear hxb
  obtain ⟨⟨x0, x1, x2, x3, x4, x5, x6, x7⟩, -⟩ := blk_cells HX.out
  refine wp_region_noPanic ?_
  refine wp_region_held_drew (S := (fun Wx : World => Wx.cell? ⟨xb, 0, none⟩ = some (.int .i64 f.id) ∧ Wx.cell? ⟨xb, 1, none⟩ = some (.string f.nm) ∧ Wx.cell? ⟨xb, 2, none⟩ = some (.int .i64 f.lo) ∧ Wx.cell? ⟨xb, 3, none⟩ = some (.int .i64 f.hi) ∧ Wx.cell? ⟨xb, 4, none⟩ = some (.bool f.wo) ∧ Wx.cell? ⟨xb, 5, none⟩ = some (.bool f.me) ∧ Wx.cell? ⟨xb, 6, none⟩ = some (.int .i64 f.co) ∧ Wx.cell? ⟨xb, 7, none⟩ = some (.int .i64 f.mo))) (by kernel_rfl) ⟨x0, x1, x2, x3, x4, x5, x6, x7⟩ (fun hHeld => ?_)
  refine wpAnyH_take (i := 0) (oi := _) (v := ?_) rfl (by kernel_rfl) (by kernel_rfl) (by kernel_rfl) (fun _ _ _ h => h) (Or.inl ⟨by rfl, ?_⟩) (by assumption) ?_; rotate_left; focus (intro W hSw; (try dsimp only at hSw); go_simp; (first | done | with_reducible rfl))
  (try simp only [List.getElem_toArray, List.getElem_cons_succ, List.getElem_cons_zero, Act.put, List.setIfInBounds_toArray, List.set_cons_zero, List.set_cons_succ])
  refine wpAnyH_take (i := 1) (oi := _) (v := ?_) rfl (by kernel_rfl) (by kernel_rfl) (by kernel_rfl) (fun _ _ _ h => h) (Or.inl ⟨by rfl, ?_⟩) (by assumption) ?_; rotate_left; focus (intro W hSw; (try dsimp only at hSw); go_simp; (first | done | with_reducible rfl))
  (try simp only [List.getElem_toArray, List.getElem_cons_succ, List.getElem_cons_zero, Act.put, List.setIfInBounds_toArray, List.set_cons_zero, List.set_cons_succ])
  refine wpAnyH_ready (rs := [2]) (by kernel_rfl) (by simp) ?_
  refine AllReadyH.cons (o := _) rfl (fun K hK => ?_) AllReadyH.nil
  go_simp
  go_at_call 51
  refine (RuDo.runner_any (w.heap.size + 1 + 1) _ _ _ (by omega) (HO.out.below (Below.refl _ _).drew)).mono ?_
  rintro e wy ⟨⟨z, rfl, hf⟩, hok, hg⟩
  have HZ := Lib.hid (RuLs.sm_is hf)
  have hgd : w2.grownBy wy (some (w.heap.size + 1 + 1)) := gtrans (gbelow (Below.refl _ _).drew _) hg
  have HB2 := Lib.hid (below_of HB1.out hgd HB1.out.size (by omega))
  have HK2 := Lib.hid (blk_keep HK1.out hgd (fun e => by simp at e; omega))
  have HL2 := Lib.hid (blk_keep HL1.out hgd (fun e => by simp at e))
  have HX2 := Lib.hid (blk_keep HX.out hgd (fun e => by simp at e; omega))
  clear hok hg hgd hf HB1 HK1 HL1 HX HO x0 x1 x2 x3 x4 x5 x6 x7
  obtain ⟨⟨x0, x1, x2, x3, x4, x5, x6, x7⟩, -⟩ := blk_cells HX2.out
  go_wp2_with fail
  refine hK.out _ _ ⟨x0, x1, x2, x3, x4, x5, x6, x7⟩ (fun hsA => ?_)
  clear hK K hHeld x0 x1 x2 x3 x4 x5 x6 x7
  obtain ⟨⟨r0, r1, r2, r3, r4, r5, r6, r7⟩, y0, y1, y2, y3, y4, y5, y6, y7⟩ := blk_cells HK2.out
  refine wpAnyH_ready (rs := [3]) (by kernel_rfl) (by simp) ?_
  refine AllReadyH.cons (o := _) rfl (fun K hK => ?_) AllReadyH.nil
  go_simp
  clear r0 r1 r2 r3 r4 r5 r6 r7 y0 y1 y2 y3 y4 y5 y6 y7
  have hz := put8_ok HK2.out f
  generalize World.setCell (World.setCell (World.setCell (World.setCell (World.setCell (World.setCell (World.setCell (World.setCell _ _ _) _ _) _ _) _ _) _ _) _ _) _ _) _ _ = w5 at *
  have HK5 := Lib.hid hz.1
  have HL5 := Lib.hid (blk_keep HL2.out hz.2.1 (fun e => by simp at e))
  have HX5 := Lib.hid (blk_keep HX2.out hz.2.1 (fun e => by simp at e; omega))
  have HB5 := Lib.hid (HB2.out.trans (hz.2.2 w.heap.size (Nat.le_refl _)))
  clear hz HK2 HL2 HX2 HB2
  obtain ⟨⟨x0, x1, x2, x3, x4, x5, x6, x7⟩, -⟩ := blk_cells HX5.out
  refine hK.out _ _ ⟨x0, x1, x2, x3, x4, x5, x6, x7⟩ (fun hsB => ?_)
  clear hK K hsA x0 x1 x2 x3 x4 x5 x6 x7
  obtain ⟨⟨r0, r1, r2, r3, r4, r5⟩, y0, y1, y2, y3, y4, y5⟩ := RuK.blk_cells HL5.out
  refine wpAnyH_ready (rs := [4]) (by kernel_rfl) (by simp) ?_
  refine AllReadyH.cons (o := _) rfl (fun K hK => ?_) AllReadyH.nil
  go_simp
  clear r0 r1 r2 r3 r4 r5 y0 y1 y2 y3 y4 y5
  have hz := put6_ok HL5.out z
  generalize World.setCell (World.setCell (World.setCell (World.setCell (World.setCell (World.setCell _ _ _) _ _) _ _) _ _) _ _) _ _ = w6 at *
  have HL6 := Lib.hid hz.1
  have HK6 := Lib.hid (blk_keep HK5.out hz.2.1 (fun e => by simp at e))
  have HX6 := Lib.hid (blk_keep HX5.out hz.2.1 (fun e => by simp at e; omega))
  have HB6 := Lib.hid (HB5.out.trans (hz.2.2 w.heap.size (by omega)))
  clear hz HK5 HL5 HX5 HB5
  obtain ⟨⟨x0, x1, x2, x3, x4, x5, x6, x7⟩, -⟩ := blk_cells HX6.out
  refine hK.out _ _ ⟨x0, x1, x2, x3, x4, x5, x6, x7⟩ (fun hsC => ?_)
  clear hK K hsB x0 x1 x2 x3 x4 x5 x6 x7
  refine wpAnyH_done (by kernel_rfl) ?_ _
  refine NoPanic.normal ?_
  (try simp only [List.getElem_toArray, List.getElem_cons_succ, List.getElem_cons_zero, Act.put, List.setIfInBounds_toArray, List.set_cons_zero, List.set_cons_succ])
  obtain ⟨⟨u0, u1, u2, u3, u4, u5, u6, u7⟩, -⟩ := blk_cells HK6.out
  obtain ⟨⟨v0, v1, v2, v3, v4, v5⟩, -⟩ := RuK.blk_cells HL6.out
  clear hsC
  go_wp2
  exact bodyPost_ret (v := .tuple #[.agg #[.int .i64 f.id, .string f.nm, .int .i64 f.lo, .int .i64 f.hi, .bool f.wo, .bool f.me, .int .i64 f.co, .int .i64 f.mo], .agg #[.int .i64 z.id, .string z.nm, .string z.cl, .int .i64 z.bo, .bool z.wo, .int .i64 z.ca]]) (by simp [results, Tryz.results20, go_sem, u0, u1, u2, u3, u4, u5, u6, u7, v0, v1, v2, v3, v4, v5]) rfl ⟨f, z, rfl, HI.out, HZ.out, HB6.out⟩

end Go.Proofs.YtleoljnofdajfaaGreatDoor.ClsD
