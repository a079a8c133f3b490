/- The drawing of lists of classes and what goes with them. -/
import Derived.Test.YtleoljnofdajfaaGreatDoorRuM
import Derived.Test.YtleoljnofdajfaaGreatDoorCurA
import Derived.Deep.AppendLies
import Derived.RegionTactic
import Derived.OwnWalk
import Derived.Deep.CutRange
import Derived.Deep.DeepCutAuto
import Derived.Maps.AppendAt
import Derived.Test.YtleoljnofdajfaaGreatDoorBk
import Derived.Laws.CopyOwn
import Derived.Lib.AppendZerosOnto
import Derived.Lib.Overlaps
import Derived.Shelf.Spec.SlicesInsert
import Derived.Deep.RegionLaw
import Derived.Lib.Hide
import Derived.Test.YtleoljnofdajfaaGreatDoorRuP
import Derived.BigRegion
import Derived.Shelf.Abstract
import Derived.Lib.SliceRun
import Derived.Deep.RegionHeld3
import Derived.Deep.LoopGhost
import Derived.Test.YtleoljnofdajfaaGreatDoorKlM
import Derived.IntWalk
import Derived.Test.YtleoljnofdajfaaGreatDoorKlN
import Derived.Test.YtleoljnofdajfaaGreatDoorKaG
import Derived.Test.YtleoljnofdajfaaGreatDoorCodB
namespace Go.Proofs.YtleoljnofdajfaaGreatDoor.RuDr
open Go.RowKit Lb Bk Cur RuK
set_option linter.unusedSimpArgs false
set_option linter.unusedVariables false
variable {w W W' : World} {b m m' g : Nat} {f : Ru}

theorem blk_grown {t : TypeId} {cs : Array Value} {r : Option Nat} (h : Blk w g t cs) (hg : w.grownBy W r) (hr : r ≠ some g) : Blk W g t cs := (hg.block g h.lt (fun e => hr e.symm)).trans h
/-- The box of the answer, the reader. -/
structure Rd (w W : World) (b m : Nat) : Prop where
  R : Blk W w.heap.size 35 #[.int .i64 no.id, .string no.nm, .string no.cl, .int .i64 no.bo, .bool no.wo, .int .i64 no.ca]
  ok : Ok W b m
  G : w.grownBy W (some b)
  lt : b < w.heap.size
theorem Rd.start (h : Ok w b m) : Rd w (w.alloc (.cells #[.int .i64 no.id, .string no.nm, .string no.cl, .int .i64 no.bo, .bool no.wo, .int .i64 no.ca] 35)) b m :=
  ⟨Blk.new _ _ _, h.below ((Below.refl _ _).alloc (Nat.le_refl _) _), gbelow ((Below.refl _ _).alloc (Nat.le_refl _) _) _, h.lt⟩
theorem Rd.below (h : Rd w W b m) (hb : Below W.heap.size W W') : Rd w W' b m := ⟨h.R.later hb, h.ok.below hb, gtrans h.G (gbelow hb _), h.lt⟩
theorem Rd.step (h : Rd w W b m) (ho : Ok W' b m') (hg : W.grownBy W' (some b)) : Rd w W' b m' := ⟨blk_grown h.R hg (fun e => by have := h.lt; cases e; omega), ho, gtrans h.G hg, h.lt⟩
theorem Rd.mono (h : Rd w W b m) (hm : m ≤ m') : Rd w W b m' := ⟨h.R, h.ok.mono hm, h.G, h.lt⟩
theorem Rd.drew (h : Rd w W b m) : Rd w W.drew b m := h.below (Below.refl _ _).drew
/-- .. and the new one. -/
structure Re (w W : World) (b m g : Nat) (f : Ru) : Prop extends Rd w W b m where
  F : Blk W g 35 #[.int .i64 f.id, .string f.nm, .string f.cl, .int .i64 f.bo, .bool f.wo, .int .i64 f.ca]
  lg : w.heap.size < g
theorem Re.start (h : Rd w W b m) (f : Ru) : Re w (W.alloc (.cells #[.int .i64 f.id, .string f.nm, .string f.cl, .int .i64 f.bo, .bool f.wo, .int .i64 f.ca] 35)) b m W.heap.size f := ⟨h.below ((Below.refl _ _).alloc (Nat.le_refl _) _), Blk.new _ _ _, h.R.lt⟩
theorem Re.below (h : Re w W b m g f) (hb : Below W.heap.size W W') : Re w W' b m g f := ⟨h.toRd.below hb, h.F.later hb, h.lg⟩
theorem Re.drew (h : Re w W b m g f) : Re w W.drew b m g f := ⟨h.toRd.drew, h.F, h.lg⟩
theorem Re.mono (h : Re w W b m g f) (hm : m ≤ m') : Re w W b m' g f := ⟨h.toRd.mono hm, h.F, h.lg⟩
theorem Re.step (h : Re w W b m g f) (ho : Ok W' b m') (hg : W.grownBy W' (some b)) : Re w W' b m' g f :=
  ⟨h.toRd.step ho hg, blk_grown h.F hg (fun e => by have := h.lt; have := h.lg; cases e; omega), h.lg⟩
theorem Re.put_id (h : Re w W b m g f) (x : Int) : Re w (W.setCell ⟨g, 0, none⟩ (.int .i64 x)) b m g ⟨x, f.nm, f.cl, f.bo, f.wo, f.ca⟩ := by
  have hb : Below (w.heap.size + 1) W (W.setCell ⟨g, 0, none⟩ (.int .i64 x)) := (Below.refl _ _).setCell (p := ⟨g, 0, none⟩) h.lg _
  exact ⟨⟨h.R.below hb (Nat.lt_succ_self _), ok_belowB h.ok hb (Nat.lt_succ_of_lt h.lt), grown_B h.G hb (Nat.le_succ _), h.lt⟩, by simpa using Blk.set_ h.F 0 (.int .i64 x), h.lg⟩
theorem Re.put_nm (h : Re w W b m g f) (x : ByteArray) : Re w (W.setCell ⟨g, 1, none⟩ (.string x)) b m g ⟨f.id, x, f.cl, f.bo, f.wo, f.ca⟩ := by
  have hb : Below (w.heap.size + 1) W (W.setCell ⟨g, 1, none⟩ (.string x)) := (Below.refl _ _).setCell (p := ⟨g, 1, none⟩) h.lg _
  exact ⟨⟨h.R.below hb (Nat.lt_succ_self _), ok_belowB h.ok hb (Nat.lt_succ_of_lt h.lt), grown_B h.G hb (Nat.le_succ _), h.lt⟩, by simpa using Blk.set_ h.F 1 (.string x), h.lg⟩
theorem Re.put_cl (h : Re w W b m g f) (x : ByteArray) : Re w (W.setCell ⟨g, 2, none⟩ (.string x)) b m g ⟨f.id, f.nm, x, f.bo, f.wo, f.ca⟩ := by
  have hb : Below (w.heap.size + 1) W (W.setCell ⟨g, 2, none⟩ (.string x)) := (Below.refl _ _).setCell (p := ⟨g, 2, none⟩) h.lg _
  exact ⟨⟨h.R.below hb (Nat.lt_succ_self _), ok_belowB h.ok hb (Nat.lt_succ_of_lt h.lt), grown_B h.G hb (Nat.le_succ _), h.lt⟩, by simpa using Blk.set_ h.F 2 (.string x), h.lg⟩
theorem Re.put_bo (h : Re w W b m g f) (x : Int) : Re w (W.setCell ⟨g, 3, none⟩ (.int .i64 x)) b m g ⟨f.id, f.nm, f.cl, x, f.wo, f.ca⟩ := by
  have hb : Below (w.heap.size + 1) W (W.setCell ⟨g, 3, none⟩ (.int .i64 x)) := (Below.refl _ _).setCell (p := ⟨g, 3, none⟩) h.lg _
  exact ⟨⟨h.R.below hb (Nat.lt_succ_self _), ok_belowB h.ok hb (Nat.lt_succ_of_lt h.lt), grown_B h.G hb (Nat.le_succ _), h.lt⟩, by simpa using Blk.set_ h.F 3 (.int .i64 x), h.lg⟩
theorem Re.put_wo (h : Re w W b m g f) (x : Bool) : Re w (W.setCell ⟨g, 4, none⟩ (.bool x)) b m g ⟨f.id, f.nm, f.cl, f.bo, x, f.ca⟩ := by
  have hb : Below (w.heap.size + 1) W (W.setCell ⟨g, 4, none⟩ (.bool x)) := (Below.refl _ _).setCell (p := ⟨g, 4, none⟩) h.lg _
  exact ⟨⟨h.R.below hb (Nat.lt_succ_self _), ok_belowB h.ok hb (Nat.lt_succ_of_lt h.lt), grown_B h.G hb (Nat.le_succ _), h.lt⟩, by simpa using Blk.set_ h.F 4 (.bool x), h.lg⟩
theorem Re.put_ca (h : Re w W b m g f) (x : Int) : Re w (W.setCell ⟨g, 5, none⟩ (.int .i64 x)) b m g ⟨f.id, f.nm, f.cl, f.bo, f.wo, x⟩ := by
  have hb : Below (w.heap.size + 1) W (W.setCell ⟨g, 5, none⟩ (.int .i64 x)) := (Below.refl _ _).setCell (p := ⟨g, 5, none⟩) h.lg _
  exact ⟨⟨h.R.below hb (Nat.lt_succ_self _), ok_belowB h.ok hb (Nat.lt_succ_of_lt h.lt), grown_B h.G hb (Nat.le_succ _), h.lt⟩, by simpa using Blk.set_ h.F 5 (.int .i64 x), h.lg⟩
/-- The answer handed out. -/
theorem Re.fin (h : Re w W b m g f) : Blk (((((((W.setCell ⟨w.heap.size, 0, none⟩ (.int .i64 f.id)).setCell ⟨w.heap.size, 1, none⟩ (.string f.nm)).setCell ⟨w.heap.size, 2, none⟩ (.string f.cl)).setCell ⟨w.heap.size, 3, none⟩ (.int .i64 f.bo)).setCell ⟨w.heap.size, 4, none⟩ (.bool f.wo)).setCell ⟨w.heap.size, 5, none⟩ (.int .i64 f.ca))) w.heap.size 35 #[.int .i64 f.id, .string f.nm, .string f.cl, .int .i64 f.bo, .bool f.wo, .int .i64 f.ca] ∧ Ok ((((((W.setCell ⟨w.heap.size, 0, none⟩ (.int .i64 f.id)).setCell ⟨w.heap.size, 1, none⟩ (.string f.nm)).setCell ⟨w.heap.size, 2, none⟩ (.string f.cl)).setCell ⟨w.heap.size, 3, none⟩ (.int .i64 f.bo)).setCell ⟨w.heap.size, 4, none⟩ (.bool f.wo)).setCell ⟨w.heap.size, 5, none⟩ (.int .i64 f.ca)) b m ∧ w.grownBy ((((((W.setCell ⟨w.heap.size, 0, none⟩ (.int .i64 f.id)).setCell ⟨w.heap.size, 1, none⟩ (.string f.nm)).setCell ⟨w.heap.size, 2, none⟩ (.string f.cl)).setCell ⟨w.heap.size, 3, none⟩ (.int .i64 f.bo)).setCell ⟨w.heap.size, 4, none⟩ (.bool f.wo)).setCell ⟨w.heap.size, 5, none⟩ (.int .i64 f.ca)) (some b) := by
  have hz := blk_all h.R f
  exact ⟨hz.1, ok_belowB h.ok (hz.2 _ (Nat.le_refl _)) h.lt, grown_B h.G (hz.2 _ (Nat.le_refl _)) (Nat.le_refl _)⟩

/-- A list that grows beside the reader. -/
structure Rl (w W : World) (b m : Nat) (v : Value) (fs : List Ru) : Prop where
  ok : Ok W b m
  lb : b < w.heap.size
  G : w.grownBy W (some b)
  L : Own W w.heap.size v fs
theorem Rl.step {v : Value} {fs : List Ru} (h : Rl w W b m v fs) (ho : Ok W' b m') (hg : W.grownBy W' (some b)) : Rl w W' b m' v fs :=
  ⟨ho, h.lb, gtrans h.G hg, World.ownsRow.kept h.L hg (.inr (fun e => by have := (World.ownsRow.lt h.L b e).1; have := h.lb; omega))⟩
theorem Rl.mono {v : Value} {fs : List Ru} (h : Rl w W b m v fs) (hm : m ≤ m') : Rl w W b m' v fs := ⟨h.ok.mono hm, h.lb, h.G, h.L⟩
theorem Rl.below {v : Value} {fs : List Ru} (h : Rl w W b m v fs) (hb : Below W.heap.size W W') : Rl w W' b m v fs := ⟨h.ok.below hb, h.lb, gtrans h.G (gbelow hb _), h.L.below hb⟩
/-- Another list in its place. -/
theorem Rl.other {v v' : Value} {fs fs' : List Ru} (h : Rl w W b m v fs) (hb : Below W.heap.size W W') (ho : Own W' W.heap.size v' fs') : Rl w W' b m v' fs' := ⟨h.ok.below hb, h.lb, gtrans h.G (gbelow hb _), ho.rebase h.G.size⟩
theorem Rl.start (h : Ok w b m) : Rl w (w.alloc (.cells #[] 35)) b m (.slice (some ⟨w.heap.size, 0, none⟩) 0 0) [] :=
  ⟨h.below ((Below.refl _ _).alloc (Nat.le_refl _) _), h.lt, gbelow ((Below.refl _ _).alloc (Nat.le_refl _) _) _, World.ownsRow_made w #[] 0 (Nat.le_refl _) (Nat.zero_le _) rfl⟩
theorem Rl.new {v : Value} {fs : List Ru} (h : Rl w W b m v fs) : Rl w (W.alloc (.cells #[] 35)) b m (.slice (some ⟨W.heap.size, 0, none⟩) 0 0) [] :=
  h.other ((Below.refl _ _).alloc (Nat.le_refl _) _) (World.ownsRow_made W #[] 0 (Nat.le_refl _) (Nat.zero_le _) rfl)
theorem Rl.put {v v' : Value} {fs : List Ru} (h : Rl w W b m v fs) (x : Ru) (ho : W'.ownsRow w.heap.size 35 6 v' (fs.length + 1) (cells fs ++ cells [x])) (hg : W.grownBy W' v.ownBlock) : Rl w W' b m v' (fs ++ [x]) := by
  refine ⟨?_, h.lb, ?_, ?_⟩
  · have hB : Below w.heap.size W W' := ⟨hg.os, hg.tape, hg.output, hg.size, fun k hk => hg.block k (Nat.lt_of_lt_of_le hk h.G.size) (fun e => by have := (World.ownsRow.lt h.L k e.symm).1; omega)⟩
    exact ok_belowB h.ok hB h.lb
  · refine ⟨hg.os.trans h.G.os, hg.tape.trans h.G.tape, hg.output.trans h.G.output, Nat.le_trans h.G.size hg.size, fun k hk hr => (hg.block k (Nat.lt_of_lt_of_le hk h.G.size) (fun e => ?_)).trans (h.G.block k hk hr)⟩
    have := (World.ownsRow.lt h.L k e.symm).1
    omega
  · unfold Own
    rw [List.length_append, cells_cat]
    exact ho
end Go.Proofs.YtleoljnofdajfaaGreatDoor.RuDr

namespace Go.Proofs.YtleoljnofdajfaaGreatDoor.RuDo
open Go.RowKit Lb Bk Cur RuK RuDr
set_option linter.unusedSimpArgs false
set_option linter.unusedVariables false

def Sm (f : Ru) : Prop := f.nm.size ≤ 16 ∧ f.cl.size ≤ 16
set_option maxRecDepth 20000 in
set_option maxHeartbeats 1000000 in
theorem runner_any (b m : Nat) (id : Int) (w : World) (hm : m ≤ 1152921504606840000) (hok : Ok w b m) :
    Calls Tryz.prog 51 #[.pointer (some ⟨b, 0, none⟩), .int .i64 id] w fun e w' => (∃ f : Ru, e = .returned (.agg #[.int .i64 f.id, .string f.nm, .string f.cl, .int .i64 f.bo, .bool f.wo, .int .i64 f.ca]) ∧ Sm f) ∧ Ok w' b (m + 40) ∧ w.grownBy w' (some b) := by
  have H0 := Lib.hid (Rd.start hok)
  clear hok
  go_enter Tryz.func51, Tryz.ntmps51
  go_wp2_with fail
  refine (of_new b _ 4 16 [⟨#[97, 110, 110]⟩, ⟨#[98, 111]⟩, ⟨#[99, 121]⟩, ⟨#[100, 105]⟩] _ (by first | rfl | simp) (by omega) rfl (by decide) (by decide) (by decide) H0.out.ok).mono ?_
  rintro e w1 ⟨⟨x1, rfl, hx1⟩, hok, hg⟩
  have H1 := Lib.hid (H0.out.step hok hg)
  clear hok hg H0
  go_wp2_with fail
  refine (of_new b _ 4 16 [⟨#[104, 105, 108, 108]⟩, ⟨#[104, 105, 108, 108]⟩, ⟨#[102, 101, 110]⟩, ⟨#[111, 97, 107]⟩] _ (by first | rfl | simp) (by omega) rfl (by decide) (by decide) (by decide) H1.out.ok).mono ?_
  rintro e w2 ⟨⟨x2, rfl, hx2⟩, hok, hg⟩
  have H2 := Lib.hid (H1.out.step hok hg)
  clear hok hg H1
  go_wp2_with fail
  refine (among_new b _ 5 [1920, 1960, 1990, 2008, 2020] _ (by first | rfl | simp) (by omega) rfl (by decide) (by decide) H2.out.ok).mono ?_
  rintro e w3 ⟨⟨x3, rfl, -⟩, hok, hg⟩
  have H3 := Lib.hid (H2.out.step hok hg)
  clear hok hg H2
  go_wp2_with fail
  refine (one_any b _ 2 _ (by omega) (by omega) (by omega) H3.out.ok).mono ?_
  rintro e w4 ⟨⟨x4, rfl⟩, hok, hg⟩
  have H4 := Lib.hid (H3.out.step hok hg)
  clear hok hg H3
  go_wp2_with fail
  refine (among_new b _ 8 [0, 0, 1, 7, 8, 9, 815, 9999] _ (by first | rfl | simp) (by omega) rfl (by decide) (by decide) H4.out.ok).mono ?_
  rintro e w5 ⟨⟨x5, rfl, -⟩, hok, hg⟩
  have H5 := Lib.hid (H4.out.step hok hg)
  clear hok hg H4
  have HE := Lib.hid (Re.start H5.out (⟨id, x1, x2, x3, x4, x5⟩ : Ru))
  clear H5
  go_wp2_with fail
  refine (pick_any b _ 70 _ (by omega) (by omega) (by omega) HE.out.ok).mono ?_
  rintro e w6 ⟨⟨x6, rfl, -, -⟩, hok, hg⟩
  have HS := Lib.hid (HE.out.step hok hg)
  clear hok hg HE
  have hq : x6 = 0 ∨ x6 = 1 ∨ x6 = 2 ∨ x6 = 3 ∨ x6 = 4 ∨ (x6 ≠ 0 ∧ x6 ≠ 1 ∧ x6 ≠ 2 ∧ x6 ≠ 3 ∧ x6 ≠ 4) := by omega
  rcases hq with rfl | rfl | rfl | rfl | rfl | hq
  · skip
    go_wp2_with fail
    refine (among_new b _ 3 [0, 999, 1000] _ (by first | rfl | simp) (by omega) rfl (by decide) (by decide) HS.out.ok).mono ?_
    rintro e w7 ⟨⟨x7, rfl, -⟩, hok, hg⟩
    have HT := Lib.hid (HS.out.step hok hg)
    clear hok hg HS
    obtain ⟨⟨c0, -, -, -, -, -⟩, d0, -, -, -, -, -⟩ := blk_cells HT.out.F
    go_upto_region 13 with (fail)
    have HU := Lib.hid (HT.out.put_id x7)
    clear c0 d0 HT
    generalize World.setCell _ _ _ = wu at *
    obtain ⟨f, hf⟩ : ∃ f : Ru, (⟨x7, x1, x2, x3, x4, x5⟩ : Ru) = f := ⟨_, rfl⟩
    have hs : Sm f := by rw [← hf]; exact ⟨by assumption, by assumption⟩
    have HF := Lib.hid (hf ▸ HU.out)
    clear hf HU
    obtain ⟨⟨p0, p1, p2, p3, p4, p5⟩, -⟩ := blk_cells HF.out.F
    obtain ⟨⟨r0, r1, r2, r3, r4, r5⟩, y0, y1, y2, y3, y4, y5⟩ := blk_cells HF.out.R
    have hlg := HF.out.lg
    go_wp2
    clear p0 r0 y0 p1 r1 y1 p2 r2 y2 p3 r3 y3 p4 r4 y4 p5 r5 y5
    have hz := HF.out.fin
    generalize (World.setCell (World.setCell (World.setCell _ _ _) _ _) _ _) = w9 at *
    obtain ⟨hz1, hz2, hz3⟩ := hz
    obtain ⟨⟨u0, u1, u2, u3, u4, u5⟩, -⟩ := blk_cells hz1
    exact bodyPost_ret (v := .agg #[.int .i64 f.id, .string f.nm, .string f.cl, .int .i64 f.bo, .bool f.wo, .int .i64 f.ca]) (by simp [results, Tryz.results51, go_sem, u0, u1, u2, u3, u4, u5]) rfl ⟨⟨f, rfl, hs⟩, hz2.mono (by omega), hz3⟩
  · skip
    go_wp2_with fail
    refine (of_new b _ 3 16 [⟨#[]⟩, ⟨#[65]⟩, ⟨#[97, 98, 99, 100, 101, 102, 103, 104, 105, 106, 107]⟩] _ (by first | rfl | simp) (by omega) rfl (by decide) (by decide) (by decide) HS.out.ok).mono ?_
    rintro e w8 ⟨⟨x8, rfl, hx8⟩, hok, hg⟩
    have HT := Lib.hid (HS.out.step hok hg)
    clear hok hg HS
    obtain ⟨⟨-, c1, -, -, -, -⟩, -, d1, -, -, -, -⟩ := blk_cells HT.out.F
    go_upto_region 13 with (fail)
    have HU := Lib.hid (HT.out.put_nm x8)
    clear c1 d1 HT
    generalize World.setCell _ _ _ = wu at *
    obtain ⟨f, hf⟩ : ∃ f : Ru, (⟨id, x8, x2, x3, x4, x5⟩ : Ru) = f := ⟨_, rfl⟩
    have hs : Sm f := by rw [← hf]; exact ⟨by assumption, by assumption⟩
    have HF := Lib.hid (hf ▸ HU.out)
    clear hf HU
    obtain ⟨⟨p0, p1, p2, p3, p4, p5⟩, -⟩ := blk_cells HF.out.F
    obtain ⟨⟨r0, r1, r2, r3, r4, r5⟩, y0, y1, y2, y3, y4, y5⟩ := blk_cells HF.out.R
    have hlg := HF.out.lg
    go_wp2
    clear p0 r0 y0 p1 r1 y1 p2 r2 y2 p3 r3 y3 p4 r4 y4 p5 r5 y5
    have hz := HF.out.fin
    generalize (World.setCell (World.setCell (World.setCell _ _ _) _ _) _ _) = w9 at *
    obtain ⟨hz1, hz2, hz3⟩ := hz
    obtain ⟨⟨u0, u1, u2, u3, u4, u5⟩, -⟩ := blk_cells hz1
    exact bodyPost_ret (v := .agg #[.int .i64 f.id, .string f.nm, .string f.cl, .int .i64 f.bo, .bool f.wo, .int .i64 f.ca]) (by simp [results, Tryz.results51, go_sem, u0, u1, u2, u3, u4, u5]) rfl ⟨⟨f, rfl, hs⟩, hz2.mono (by omega), hz3⟩
  · skip
    go_wp2_with fail
    refine (of_new b _ 3 16 [⟨#[]⟩, ⟨#[65]⟩, ⟨#[97, 98, 99, 100, 101, 102, 103, 104, 105, 106, 107]⟩] _ (by first | rfl | simp) (by omega) rfl (by decide) (by decide) (by decide) HS.out.ok).mono ?_
    rintro e w9 ⟨⟨x9, rfl, hx9⟩, hok, hg⟩
    have HT := Lib.hid (HS.out.step hok hg)
    clear hok hg HS
    obtain ⟨⟨-, -, c2, -, -, -⟩, -, -, d2, -, -, -⟩ := blk_cells HT.out.F
    go_upto_region 13 with (fail)
    have HU := Lib.hid (HT.out.put_cl x9)
    clear c2 d2 HT
    generalize World.setCell _ _ _ = wu at *
    obtain ⟨f, hf⟩ : ∃ f : Ru, (⟨id, x1, x9, x3, x4, x5⟩ : Ru) = f := ⟨_, rfl⟩
    have hs : Sm f := by rw [← hf]; exact ⟨by assumption, by assumption⟩
    have HF := Lib.hid (hf ▸ HU.out)
    clear hf HU
    obtain ⟨⟨p0, p1, p2, p3, p4, p5⟩, -⟩ := blk_cells HF.out.F
    obtain ⟨⟨r0, r1, r2, r3, r4, r5⟩, y0, y1, y2, y3, y4, y5⟩ := blk_cells HF.out.R
    have hlg := HF.out.lg
    go_wp2
    clear p0 r0 y0 p1 r1 y1 p2 r2 y2 p3 r3 y3 p4 r4 y4 p5 r5 y5
    have hz := HF.out.fin
    generalize (World.setCell (World.setCell (World.setCell _ _ _) _ _) _ _) = w9 at *
    obtain ⟨hz1, hz2, hz3⟩ := hz
    obtain ⟨⟨u0, u1, u2, u3, u4, u5⟩, -⟩ := blk_cells hz1
    exact bodyPost_ret (v := .agg #[.int .i64 f.id, .string f.nm, .string f.cl, .int .i64 f.bo, .bool f.wo, .int .i64 f.ca]) (by simp [results, Tryz.results51, go_sem, u0, u1, u2, u3, u4, u5]) rfl ⟨⟨f, rfl, hs⟩, hz2.mono (by omega), hz3⟩
  · skip
    go_wp2_with fail
    refine (among_new b _ 2 [1919, 2021] _ (by first | rfl | simp) (by omega) rfl (by decide) (by decide) HS.out.ok).mono ?_
    rintro e w10 ⟨⟨x10, rfl, -⟩, hok, hg⟩
    have HT := Lib.hid (HS.out.step hok hg)
    clear hok hg HS
    obtain ⟨⟨-, -, -, c3, -, -⟩, -, -, -, d3, -, -⟩ := blk_cells HT.out.F
    go_upto_region 13 with (fail)
    have HU := Lib.hid (HT.out.put_bo x10)
    clear c3 d3 HT
    generalize World.setCell _ _ _ = wu at *
    obtain ⟨f, hf⟩ : ∃ f : Ru, (⟨id, x1, x2, x10, x4, x5⟩ : Ru) = f := ⟨_, rfl⟩
    have hs : Sm f := by rw [← hf]; exact ⟨by assumption, by assumption⟩
    have HF := Lib.hid (hf ▸ HU.out)
    clear hf HU
    obtain ⟨⟨p0, p1, p2, p3, p4, p5⟩, -⟩ := blk_cells HF.out.F
    obtain ⟨⟨r0, r1, r2, r3, r4, r5⟩, y0, y1, y2, y3, y4, y5⟩ := blk_cells HF.out.R
    have hlg := HF.out.lg
    go_wp2
    clear p0 r0 y0 p1 r1 y1 p2 r2 y2 p3 r3 y3 p4 r4 y4 p5 r5 y5
    have hz := HF.out.fin
    generalize (World.setCell (World.setCell (World.setCell _ _ _) _ _) _ _) = w9 at *
    obtain ⟨hz1, hz2, hz3⟩ := hz
    obtain ⟨⟨u0, u1, u2, u3, u4, u5⟩, -⟩ := blk_cells hz1
    exact bodyPost_ret (v := .agg #[.int .i64 f.id, .string f.nm, .string f.cl, .int .i64 f.bo, .bool f.wo, .int .i64 f.ca]) (by simp [results, Tryz.results51, go_sem, u0, u1, u2, u3, u4, u5]) rfl ⟨⟨f, rfl, hs⟩, hz2.mono (by omega), hz3⟩
  · skip
    go_wp2_with fail
    refine (among_new b _ 2 [(-1), 10000] _ (by first | rfl | simp) (by omega) rfl (by decide) (by decide) HS.out.ok).mono ?_
    rintro e w11 ⟨⟨x11, rfl, -⟩, hok, hg⟩
    have HT := Lib.hid (HS.out.step hok hg)
    clear hok hg HS
    obtain ⟨⟨-, -, -, -, -, c5⟩, -, -, -, -, -, d5⟩ := blk_cells HT.out.F
    go_upto_region 13 with (fail)
    have HU := Lib.hid (HT.out.put_ca x11)
    clear c5 d5 HT
    generalize World.setCell _ _ _ = wu at *
    obtain ⟨f, hf⟩ : ∃ f : Ru, (⟨id, x1, x2, x3, x4, x11⟩ : Ru) = f := ⟨_, rfl⟩
    have hs : Sm f := by rw [← hf]; exact ⟨by assumption, by assumption⟩
    have HF := Lib.hid (hf ▸ HU.out)
    clear hf HU
    obtain ⟨⟨p0, p1, p2, p3, p4, p5⟩, -⟩ := blk_cells HF.out.F
    obtain ⟨⟨r0, r1, r2, r3, r4, r5⟩, y0, y1, y2, y3, y4, y5⟩ := blk_cells HF.out.R
    have hlg := HF.out.lg
    go_wp2
    clear p0 r0 y0 p1 r1 y1 p2 r2 y2 p3 r3 y3 p4 r4 y4 p5 r5 y5
    have hz := HF.out.fin
    generalize (World.setCell (World.setCell (World.setCell _ _ _) _ _) _ _) = w9 at *
    obtain ⟨hz1, hz2, hz3⟩ := hz
    obtain ⟨⟨u0, u1, u2, u3, u4, u5⟩, -⟩ := blk_cells hz1
    exact bodyPost_ret (v := .agg #[.int .i64 f.id, .string f.nm, .string f.cl, .int .i64 f.bo, .bool f.wo, .int .i64 f.ca]) (by simp [results, Tryz.results51, go_sem, u0, u1, u2, u3, u4, u5]) rfl ⟨⟨f, rfl, hs⟩, hz2.mono (by omega), hz3⟩
  · obtain ⟨q0, q1, q2, q3, q4⟩ := hq
    have e0 : ((x6 : Int) == 0) = false := by simp; omega
    have e1 : ((x6 : Int) == 1) = false := by simp; omega
    have e2 : ((x6 : Int) == 2) = false := by simp; omega
    have e3 : ((x6 : Int) == 3) = false := by simp; omega
    have e4 : ((x6 : Int) == 4) = false := by simp; omega
    clear q0 q1 q2 q3 q4
    obtain ⟨f, hf⟩ : ∃ f : Ru, (⟨id, x1, x2, x3, x4, x5⟩ : Ru) = f := ⟨_, rfl⟩
    have hs : Sm f := by rw [← hf]; exact ⟨by assumption, by assumption⟩
    have HF := Lib.hid (hf ▸ HS.out)
    clear hf HS
    obtain ⟨⟨p0, p1, p2, p3, p4, p5⟩, -⟩ := blk_cells HF.out.F
    obtain ⟨⟨r0, r1, r2, r3, r4, r5⟩, y0, y1, y2, y3, y4, y5⟩ := blk_cells HF.out.R
    have hlg := HF.out.lg
    go_wp2
    clear p0 r0 y0 p1 r1 y1 p2 r2 y2 p3 r3 y3 p4 r4 y4 p5 r5 y5
    have hz := HF.out.fin
    generalize (World.setCell (World.setCell (World.setCell _ _ _) _ _) _ _) = w9 at *
    obtain ⟨hz1, hz2, hz3⟩ := hz
    obtain ⟨⟨u0, u1, u2, u3, u4, u5⟩, -⟩ := blk_cells hz1
    exact bodyPost_ret (v := .agg #[.int .i64 f.id, .string f.nm, .string f.cl, .int .i64 f.bo, .bool f.wo, .int .i64 f.ca]) (by simp [results, Tryz.results51, go_sem, u0, u1, u2, u3, u4, u5]) rfl ⟨⟨f, rfl, hs⟩, hz2.mono (by omega), hz3⟩
end Go.Proofs.YtleoljnofdajfaaGreatDoor.RuDo

namespace Go.Proofs.YtleoljnofdajfaaGreatDoor.RuK
open Go.RowKit Lb Bk
set_option linter.unusedSimpArgs false
set_option linter.unusedVariables false

theorem cells_one : ∀ (rs : List Ru) (u : Value), u ∈ cells rs → u.oneCell' = true
  | [], u, h => by simp [cells] at h
  | f :: r, u, h => by
    simp only [cells, List.mem_cons] at h
    rcases h with rfl | rfl | rfl | rfl | rfl | rfl | h
    · rfl
    · rfl
    · rfl
    · rfl
    · rfl
    · rfl
    · exact cells_one r u h
theorem add_none (b o j : Nat) : (⟨b, o, none⟩ : Addr).add j = ⟨b, o + j, none⟩ := by unfold Addr.add; split <;> simp_all
theorem Row.news {w : World} {ad : Addr} {rs : List Ru} (H : Row w (some ad) rs) : ∀ j u, (RuK.cells rs)[j]? = some u → w.cell? (ad.add j) = some u := by
  intro j u h
  have hj : j < rs.length * 6 := by
    have := (List.getElem?_eq_some_iff.1 h).1
    rwa [cells_len] at this
  rcases H with h0 | ⟨b, off, e, hc⟩
  · omega
  · cases e
    rw [add_none]
    have h1 := hc (j / 6) (by omega) (j % 6) (by omega)
    have h2 := cells_at rs (j / 6) (by omega) (j % 6) (by omega)
    rw [show j / 6 * 6 + j % 6 = j by omega] at h2
    rw [show off + j / 6 * 6 + j % 6 = off + j by omega] at h1
    rw [h1]
    rw [h2] at h
    exact h
theorem drop_at (rs : List Ru) (k i : Nat) : at_ (rs.drop k) i = at_ rs (k + i) := by
  unfold at_
  rw [List.getD_eq_getElem?_getD, List.getD_eq_getElem?_getD, List.getElem?_drop]
theorem Row.drop {w : World} {b off : Nat} {rs : List Ru} (H : Row w (some ⟨b, off, none⟩) rs) (k : Nat) : Row w (some ⟨b, off + k * 6, none⟩) (rs.drop k) := by
  rcases H with h0 | ⟨b', off', e, hc⟩
  · exact .inl (by rw [List.length_drop]; omega)
  · cases e
    refine .inr ⟨b, off + k * 6, rfl, fun i hi j hj => ?_⟩
    rw [List.length_drop] at hi
    rw [drop_at, show off + k * 6 + i * 6 + j = off + (k + i) * 6 + j by omega]
    exact hc (k + i) (by omega) j hj
theorem Own.cat {w : World} {base n m : Nat} {v : Value} {rs qs : List Ru} (hn : rs.length = n) (hm : qs.length = m) (h : w.ownsRow base 35 6 v (n + m) (cells rs ++ cells qs)) : Own w base v (rs ++ qs) := by
  unfold Own
  rw [List.length_append, hn, hm, cells_cat]
  exact h
theorem Own.empty (w : World) : Own (w.alloc (.cells #[] 35)) w.heap.size (.slice (some ⟨w.heap.size, 0, none⟩) 0 0) [] := World.ownsRow_made w #[] 0 (Nat.le_refl _) (Nat.zero_le _) rfl
end Go.Proofs.YtleoljnofdajfaaGreatDoor.RuK

namespace Go.Proofs.YtleoljnofdajfaaGreatDoor.InsG
open Go.RowKit Bk
set_option linter.unusedSimpArgs false
set_option linter.unusedVariables false

/-- copy into a block that is known whole, elements of any size. -/
theorem run_copy_rowN {P : Program} (w : World) (dT sT ty elem : TypeId) (size : Nat) (g o dLen dCap : Nat) (a : Addr) (sLen sCap : Nat) (cur : Array Value) (t : TypeId) (cs : List Value)
    (hu : P.underlying dT = some (.slice elem)) (hs : (P.info? elem).map (·.size) = some size)
    (hg : w.heap[g]? = some (.cells cur t (0, 0))) (hn : cs.length = Nat.min sLen dLen * size)
    (hsrc : ∀ j v, cs[j]? = some v → w.cell? (a.add j) = some v) (hfit : o + cs.length ≤ cur.size) (h1 : ∀ v ∈ cs, v.oneCell' = true) :
    (Builtin.copy_ #[dT, sT] ty #[.slice (some ⟨g, o, none⟩) dLen dCap, .slice (some a) sLen sCap]).run P w =
      .ok (goInt (Nat.min sLen dLen)) (w.setRow g (cur.toList.take o ++ cs ++ cur.toList.drop (o + cs.length)).toArray) := by
  have hl := run_loadCells_list (P := P) w a cs hsrc
  have hst := run_storeCells_at P g o t cs 0 cur w hg (by simpa using hfit) h1
  cases hq : P.info? elem with
  | none => simp [hq] at hs
  | some i =>
    have hi : i.size = size := by simpa [hq] using hs
    simp [Builtin.copy_, run_underlying hu, Builtin.lenOf, Builtin.firstCells, sizeOf, typeInfo, hq, hi, ← hn, hl, hst]

/-- The row behind the copies: first the tail moves up. -/
theorem shift_take {xs news cur : List Value} {K M N : Nat} (hx : xs.length = N) (hk : K ≤ N) (hm : news.length = M) (hc : N + M ≤ cur.length) (h0 : cur.take N = xs) :
    let c1 := cur.take (K + M) ++ xs.drop K ++ cur.drop (K + M + (xs.drop K).length)
    let c2 := c1.take K ++ news ++ c1.drop (K + news.length)
    c2.take (N + M) = xs.take K ++ news ++ xs.drop K ∧ c2.length = cur.length ∧ c1.length = cur.length := by
  intro c1 c2
  have hcK : cur.take K = xs.take K := by rw [← h0, List.take_take, Nat.min_eq_left hk]
  have hd : (xs.drop K).length = N - K := by rw [List.length_drop, hx]
  have hkm : (cur.take (K + M)).length = K + M := by rw [List.length_take]; omega
  have hc1 : c1.length = cur.length := by simp only [c1, List.length_append, hkm, hd, List.length_drop]; omega
  have e1 : c1.take K = xs.take K := by
    show (cur.take (K + M) ++ xs.drop K ++ cur.drop (K + M + (xs.drop K).length)).take K = _
    rw [List.append_assoc, List.take_append_of_le_length (by omega), List.take_take, Nat.min_eq_left (by omega), hcK]
  have e2 : c1.drop (K + news.length) = xs.drop K ++ cur.drop (K + M + (xs.drop K).length) := by
    show (cur.take (K + M) ++ xs.drop K ++ cur.drop (K + M + (xs.drop K).length)).drop (K + news.length) = _
    rw [List.append_assoc, hm]
    exact List.drop_left' hkm
  refine ⟨?_, ?_, hc1⟩
  · show (c1.take K ++ news ++ c1.drop (K + news.length)).take (N + M) = _
    rw [e1, e2, ← List.append_assoc]
    refine List.take_left' ?_
    simp only [List.length_append, List.length_take, hm, hd, hx]
    omega
  · show (c1.take K ++ news ++ c1.drop (K + news.length)).length = _
    simp only [List.length_append, List.length_take, List.length_drop, hm, hc1]
    omega

/-- The row behind the copies: into a new row, first the new elements. -/
theorem grow_take {xs news cur : List Value} {K M N : Nat} (hx : xs.length = N) (hk : K ≤ N) (hm : news.length = M) (hc : N + M ≤ cur.length) (h0 : cur.take K = xs.take K) :
    let c1 := cur.take K ++ news ++ cur.drop (K + news.length)
    let c2 := c1.take (K + M) ++ xs.drop K ++ c1.drop (K + M + (xs.drop K).length)
    c2.take (N + M) = xs.take K ++ news ++ xs.drop K ∧ c2.length = cur.length ∧ c1.length = cur.length := by
  intro c1 c2
  have hd : (xs.drop K).length = N - K := by rw [List.length_drop, hx]
  have hc1 : c1.length = cur.length := by simp only [c1, List.length_append, List.length_take, List.length_drop, hm]; omega
  have hl : (cur.take K ++ news).length = K + M := by rw [List.length_append, List.length_take, hm]; omega
  have e1 : c1.take (K + M) = xs.take K ++ news := by
    show (cur.take K ++ news ++ cur.drop (K + news.length)).take (K + M) = _
    rw [List.take_left' hl, h0]
  refine ⟨?_, ?_, hc1⟩
  · show (c1.take (K + M) ++ xs.drop K ++ c1.drop (K + M + (xs.drop K).length)).take (N + M) = _
    rw [e1]
    refine List.take_left' ?_
    simp only [List.length_append, List.length_take, hm, hd, hx]
    omega
  · show (c1.take (K + M) ++ xs.drop K ++ c1.drop (K + M + (xs.drop K).length)).length = _
    simp only [List.length_append, List.length_take, List.length_drop, hd, hc1]
    omega

theorem owns_of_block {w : World} {base g n cap size : Nat} {e : TypeId} {cur xs : List Value} (hb : base ≤ g) (hg : w.heap[g]? = some (.cells cur.toArray e (0, 0))) (hn : n ≤ cap) (hc : cap ≤ maxLen) (hs : cur.length = cap * size) (ht : cur.take (n * size) = xs) (hx : xs.length = n * size) :
    w.ownsRow base e size (.slice (some ⟨g, 0, none⟩) n cap) n xs :=
  ⟨hx, .inr ⟨g, cap, cur.toArray, rfl, hb, hg, hn, hc, by simpa using hs, by simpa using ht⟩⟩

theorem grown_setRow (w : World) (g : Nat) (cs : Array Value) : w.grownBy (w.setRow g cs) (some g) :=
  ⟨rfl, rfl, rfl, by simp [World.setRow], fun k hk he => setRow_other w g k cs (fun e => he (by rw [e]))⟩
theorem setRow_size (w : World) (g : Nat) (cs : Array Value) : (w.setRow g cs).heap.size = w.heap.size := by simp [World.setRow]
theorem grown_two (w : World) (g : Nat) (c1 c2 : Array Value) : w.grownBy ((w.drew.setRow g c1).setRow g c2) (some g) :=
  ⟨rfl, rfl, rfl, by rw [setRow_size, setRow_size]; exact Nat.le_refl _, fun k hk he => (setRow_other _ g k c2 (fun e => he (by rw [e]))).trans (setRow_other w.drew g k c1 (fun e => he (by rw [e])))⟩
theorem grown_new (w : World) (e : TypeId) (c0 c1 c2 : Array Value) (r : Option Nat) : w.grownBy (((w.drew.alloc (.cells c0 e)).setRow w.heap.size c1).drew.setRow w.heap.size c2) r :=
  ⟨rfl, rfl, rfl, by
    rw [setRow_size]
    show w.heap.size ≤ ((w.drew.alloc (.cells c0 e)).setRow w.heap.size c1).heap.size
    rw [setRow_size]
    exact ((Below.refl w.heap.size w).drew.alloc (Nat.le_refl _) _).size, fun k hk _ => (setRow_other _ w.heap.size k c2 (Nat.ne_of_lt hk)).trans ((setRow_other (w.drew.alloc (.cells c0 e)) w.heap.size k c1 (Nat.ne_of_lt hk)).trans (Below.heap_alloc w.drew _ k hk))⟩
end Go.Proofs.YtleoljnofdajfaaGreatDoor.InsG

namespace Go.Proofs.YtleoljnofdajfaaGreatDoor.RuV
open Go.RowKit Lb Bk InsG
set_option linter.unusedSimpArgs false
set_option linter.unusedVariables false

theorem info : (Tryz.prog.info? 35).map (fun i => (i.zero, i.size, i.bytes)) = some (some (Value.agg #[.int .i64 0, .string ⟨#[]⟩, .string ⟨#[]⟩, .int .i64 0, .bool false, .int .i64 0]), 6, 64) := by kernel_rfl
theorem add_none (b o j : Nat) : (⟨b, o, none⟩ : Addr).add j = ⟨b, o + j, none⟩ := by unfold Addr.add; split <;> simp_all
end Go.Proofs.YtleoljnofdajfaaGreatDoor.RuV

namespace Go.Proofs.YtleoljnofdajfaaGreatDoor.RuW
open Go.RowKit Lb Bk InA Wd RuK RuI RuU RuA RuG RuC RuP
set_option linter.unusedSimpArgs false
set_option linter.unusedVariables false

theorem cells_ca (z : Int) : ∀ (fs : List Ru) (k : Nat), k < fs.length → cells (fs.set k { at_ fs k with ca := z }) = (cells fs).set (k * 6 + 5) (.int .i64 z)
  | [], k, h => absurd h (Nat.not_lt_zero _)
  | f :: r, 0, _ => by simp [cells, at_]
  | f :: r, k + 1, h => by
    rw [List.set_cons_succ, show at_ (f :: r) (k + 1) = at_ r k from rfl, cells, cells_ca z r k (by simpa using h), cells, show (k + 1) * 6 + 5 = k * 6 + 5 + 6 by omega]
    simp only [List.set_cons_succ]
theorem own_some {w : World} {base : Nat} {v : Value} {rs : List Ru} (h : Own w base v rs) (hp : 0 < rs.length) : ∃ g cap, v = .slice (some ⟨g, 0, none⟩) rs.length cap ∧ base ≤ g := by
  rcases h.2 with ⟨_, h0⟩ | ⟨g, cap, cur, hv, hb, _⟩
  · omega
  · exact ⟨g, cap, hv, hb⟩
theorem own_ca {w : World} {base g n cap : Nat} {rs : List Ru} (h : Own w base (.slice (some ⟨g, 0, none⟩) n cap) rs) (hn : rs.length = n) {k : Nat} (hk : k < n) (z : Int) :
    Own (w.setCell ⟨g, k * 6 + 5, none⟩ (.int .i64 z)) base (.slice (some ⟨g, 0, none⟩) n cap) (rs.set k { at_ rs k with ca := z }) := by
  unfold Own at h ⊢
  rw [cells_ca z rs k (by omega), List.length_set, hn]
  rw [hn] at h
  exact (World.ownsRow.stored h (k * 6 + 5) (.int .i64 z)).1

/-- The cards exchanged. -/
def swL (rs : List Ru) (i k : Nat) : List Ru := (rs.set i { at_ rs i with ca := (at_ rs k).ca }).set k { at_ rs k with ca := (at_ rs i).ca }
theorem sw_len (rs : List Ru) (i k : Nat) : (swL rs i k).length = rs.length := by simp [swL]
theorem set_at {rs : List Ru} {i k : Nat} (x : Ru) (h : i ≠ k) : at_ (rs.set i x) k = at_ rs k := by
  unfold at_
  rw [List.getD_eq_getElem?_getD, List.getD_eq_getElem?_getD, List.getElem?_set_ne h]
def LPost (w : World) (ss : List Ru) (ok : Bool) (e : Ending) (w' : World) : Prop := ∃ v, e = .returned (.tuple #[v, .bool ok]) ∧ Own w' w.heap.size v ss ∧ Below w.heap.size w w'
theorem own_none (w : World) (b : Nat) (hb : b ≤ w.heap.size) : Own (w.alloc (.cells #[] 35)) b (.slice (some ⟨w.heap.size, 0, none⟩) 0 0) [] := World.ownsRow_made w #[] 0 hb (Nat.zero_le _) rfl

end Go.Proofs.YtleoljnofdajfaaGreatDoor.RuW

namespace Go.Proofs.YtleoljnofdajfaaGreatDoor.AdA
open Go.RowKit Lb Bk InA Wd RuK RuI RuU RuA RuG RuC RuP RuW
set_option linter.unusedSimpArgs false
set_option linter.unusedVariables false

/-- The place of an Id. -/
def pl (rs : List Ru) (id : Int) : Nat := rs.findIdx (fun r => decide (id ≤ r.id))
theorem pl_le (rs : List Ru) (id : Int) : pl rs id ≤ rs.length := List.findIdx_le_length
theorem plc_pl {rs : List Ru} (h : Asc rs) (id : Int) : Plc rs id (pl rs id) := by
  obtain ⟨k, hk⟩ := h.plc id
  have e : pl rs id = k := hk.unique (pl_le rs id) (fun t ht => by
    have hl : t < rs.length := Nat.lt_of_lt_of_le ht (pl_le rs id)
    have := List.not_of_lt_findIdx ht
    rw [at_lt hl]
    simp at this
    omega) (fun t h1 h2 => by
    have hkl : pl rs id < rs.length := by omega
    have h3 := List.findIdx_getElem (w := hkl)
    have h3' : id ≤ (at_ rs (pl rs id)).id := by rw [at_lt hkl]; exact of_decide_eq_true h3
    rcases Nat.lt_or_ge (pl rs id) t with h4 | h4
    · have := h.lt h4 h2; omega
    · have : t = pl rs id := by omega
      rw [this]; exact h3')
  rw [e]; exact hk
/-- The list with one more. -/
def insR (rs : List Ru) (x : Ru) : List Ru := rs.take (pl rs x.id) ++ [x] ++ rs.drop (pl rs x.id)
theorem ins_len (rs : List Ru) (x : Ru) : (insR rs x).length = rs.length + 1 := by
  have := pl_le rs x.id
  unfold insR
  simp only [List.length_append, List.length_take, List.length_drop, List.length_cons, List.length_nil]
  omega
theorem all_at {P : Ru → Prop} {rs : List Ru} : (∀ i, i < rs.length → P (at_ rs i)) ↔ ∀ r, r ∈ rs → P r := by
  constructor
  · intro h r hr
    obtain ⟨i, hi, rfl⟩ := List.mem_iff_getElem.1 hr
    rw [← at_lt hi]
    exact h i hi
  · intro h i hi
    rw [at_lt hi]
    exact h _ (List.getElem_mem hi)
theorem ins_all {P : Ru → Prop} {rs : List Ru} {x : Ru} (h : ∀ i, i < rs.length → P (at_ rs i)) (hx : P x) : ∀ i, i < (insR rs x).length → P (at_ (insR rs x) i) := by
  rw [all_at] at h ⊢
  intro r hr
  unfold insR at hr
  rcases List.mem_append.1 hr with h1 | h1
  · rcases List.mem_append.1 h1 with h2 | h2
    · exact h r (List.mem_of_mem_take h2)
    · obtain rfl : r = x := by simpa using h2
      exact hx
  · exact h r (List.mem_of_mem_drop h1)
/-- What AddRunner answers. -/
def adB (rs : List Ru) (x : Ru) : Bool := goodB rs && goodB (insR rs x)
def adL (rs : List Ru) (x : Ru) : List Ru := if adB rs x then insR rs x else []

end Go.Proofs.YtleoljnofdajfaaGreatDoor.AdA

namespace Go.Proofs.YtleoljnofdajfaaGreatDoor.AdI
open Go.RowKit Lb Bk InA Wd RuK RuI RuU RuA RuG RuC RuP RuW AdA
set_option linter.unusedSimpArgs false
set_option linter.unusedVariables false

theorem _root_.Go.Proofs.YtleoljnofdajfaaGreatDoor.RuK.Own.own_ge {w : World} {base b : Nat} {v : Value} {rs : List Ru} (h : Own w base v rs) (e : v.ownBlock = some b) : base ≤ b := (World.ownsRow.lt h b e).1
theorem _root_.Go.Proofs.YtleoljnofdajfaaGreatDoor.RuK.Own.own_lt {w : World} {base b : Nat} {v : Value} {rs : List Ru} (h : Own w base v rs) (e : v.ownBlock = some b) : b < w.heap.size := (World.ownsRow.lt h b e).2
theorem _root_.Go.Proofs.YtleoljnofdajfaaGreatDoor.Bk.Blk.grown {w w' : World} {g : Nat} {t : TypeId} {cs : Array Value} {r : Option Nat} (h : Blk w g t cs) (hg : w.grownBy w' r) (hr : r ≠ some g) : Blk w' g t cs := (hg.block g h.lt (fun e => hr e.symm)).trans h

end Go.Proofs.YtleoljnofdajfaaGreatDoor.AdI

namespace Go.Proofs.YtleoljnofdajfaaGreatDoor.A3
open Go.RowKit Bk
set_option linter.unusedSimpArgs false
set_option linter.unusedVariables false

/-- A row of the region's own; below it all is as it was. -/
structure G3 (W : World) (E : TypeId) (S : Nat) (wx : World) (v : Value) (n : Nat) (xs : List Value) : Prop where
  b : Below W.heap.size W wx
  own : wx.ownsRow W.heap.size E S v n xs
variable {W wx : World} {E : TypeId} {S : Nat} {v : Value} {n : Nat} {xs : List Value}
theorem G3.alloc (h : G3 W E S wx v n xs) (o : Obj) : G3 W E S (wx.alloc o) v n xs := ⟨h.b.alloc h.b.size o, h.own.alloc o⟩
theorem G3.drew (h : G3 W E S wx v n xs) : G3 W E S wx.drew v n xs := ⟨h.b.drew, Bk.owns_below h.own (Below.refl _ _).drew⟩
theorem G3.start (W : World) (E : TypeId) (S : Nat) : G3 W E S (W.drew.alloc (.cells #[] E)) (.slice (some ⟨W.heap.size, 0, none⟩) 0 0) 0 [] :=
  ⟨(Below.refl W.heap.size W).drew.alloc (Nat.le_refl _) _, World.ownsRow_made (e := E) (size := S) W.drew #[] 0 (Nat.le_refl _) (Nat.zero_le _) (by simp)⟩
theorem G3.after (hb : Below W.heap.size W wx) {g : Nat} (hg : g = wx.heap.size) : G3 W E S (wx.alloc (.cells #[] E)) (.slice (some ⟨g, 0, none⟩) 0 0) 0 [] := by
  subst hg
  exact ⟨hb.alloc hb.size _, World.ownsRow_made (e := E) (size := S) wx #[] 0 hb.size (Nat.zero_le _) (by simp)⟩
theorem G3.lt (h : G3 W E S wx v n xs) {k : Nat} (e : v.ownBlock = some k) : k < wx.heap.size := (h.own.lt k e).2
theorem G3.ge (h : G3 W E S wx v n xs) {k : Nat} (e : v.ownBlock = some k) : W.heap.size ≤ k := (h.own.lt k e).1
theorem blk_grown {w w' : World} {g : Nat} {t : TypeId} {cs : Array Value} {r : Option Nat} (h : Blk w g t cs) (hg : w.grownBy w' r) (hr : r ≠ some g) : Blk w' g t cs := (hg.block g h.lt (fun e => hr e.symm)).trans h
theorem blk_news {w : World} {g : Nat} {t : TypeId} {news : List Value} (h : Blk w g t news.toArray) : ∀ j u, news[j]? = some u → w.cell? ((⟨g, 0, none⟩ : Addr).add j) = some u := fun j u hj => by
  have e : (⟨g, 0, none⟩ : Addr).add j = ⟨g, j, none⟩ := by unfold Addr.add; split <;> simp_all
  rw [e]
  exact h.cell j (by simpa using hj)

theorem G3.wp {P : Program} {o : Oper} {a : Act} {K : Act → World → Prop} {Q : Exit → Act → World → Prop} (h : G3 W E S wx v n xs) (s x : Operand) (t : TypeId)
    (ho : o.op = .call { callee := .builtin .append, args := #[s, x], argTypes := #[t, t] }) (ht : P.underlying t = some (.slice E)) (i : TypeInfo) (hi : P.info? E = some i) (z : Value) (hz : i.zero = some z) (bytes : Nat)
    (hsize : i.size = S) (hby : i.bytes = bytes) (hzs : z.cells.size = S) (hsz : 0 < S) (hs : a.eval s = v)
    (ad : Addr) (m c : Nat) (news : List Value) (hx : a.eval x = .slice (some ad) m c) (hl : news.length = m * S) (hnews : ∀ j u, news[j]? = some u → wx.cell? (ad.add j) = some u) (h1 : ∀ u ∈ news, u.oneCell' = true)
    (h63 : n + m ≤ maxLen) (hbytes : (n + m) * bytes ≤ 140737488355328)
    (k : ∀ v' w', G3 W E S w' v' (n + m) (xs ++ news) → wx.grownBy w' v.ownBlock → K (a.put o.dst v') w') : o.wp P a wx K Q :=
  wp_append_own wx s x t ho W.heap.size E i z S bytes ht hi hz hsize hby hzs hsz v n xs hs h.own ad m c news hx hl hnews h1 h63 hbytes h.b.size fun v' w' h2 h3 _ =>
    k v' w' ⟨h.b.grown h3 h.b.size (fun q e => h.ge e), h2⟩ h3
theorem G3.wp_none {P : Program} {o : Oper} {a : Act} {K : Act → World → Prop} {Q : Exit → Act → World → Prop} (h : G3 W E S wx v n xs) (s x : Operand) (t : TypeId)
    (ho : o.op = .call { callee := .builtin .append, args := #[s, x], argTypes := #[t, t] }) (ht : P.underlying t = some (.slice E)) (i : TypeInfo) (hi : P.info? E = some i)
    (hsize : i.size = S) (hs : a.eval s = v) (c : Nat) (hx : a.eval x = .slice none 0 c) (k : K (a.put o.dst v) wx) : o.wp P a wx K Q := by
  have hr : (Builtin.append_ #[t, t] o.type #[v, .slice none 0 c]).run P wx = .ok v wx := by
    rcases h.own.2 with ⟨rfl, rfl⟩ | ⟨g, cap, cur, rfl, _, _, hnc, _⟩
    · simp [Builtin.append_, run_underlying ht, sizeOf, typeInfo, hi, Builtin.lenOf, Builtin.firstCells]
    · simp [Builtin.append_, run_underlying ht, sizeOf, typeInfo, hi, Builtin.lenOf, Builtin.firstCells, hnc, storeCells]
  unfold Oper.wp execOp
  simp only [ho, resolve, invoke, builtin, Sem.run_bind, Sem.run_pure, Result.andThen_ok, List.map_toArray, List.map_cons, List.map_nil, hs, hx, hr]
  exact k
end Go.Proofs.YtleoljnofdajfaaGreatDoor.A3

namespace Go.Proofs.YtleoljnofdajfaaGreatDoor.AdS
open Go.RowKit Lb Bk InA Wd RuK RuI RuU RuA RuG RuC RuP RuW AdA AdI
set_option linter.unusedSimpArgs false
set_option linter.unusedVariables false

theorem cell6 {w : World} {g : Nat} {x : Ru} (h : Blk w g 35 #[.int .i64 x.id, .string x.nm, .string x.cl, .int .i64 x.bo, .bool x.wo, .int .i64 x.ca]) : w.cell? ⟨g, 0, none⟩ = some (.int .i64 x.id) ∧ w.cell? ⟨g, 1, none⟩ = some (.string x.nm) ∧ w.cell? ⟨g, 2, none⟩ = some (.string x.cl) ∧ w.cell? ⟨g, 3, none⟩ = some (.int .i64 x.bo) ∧ w.cell? ⟨g, 4, none⟩ = some (.bool x.wo) ∧ w.cell? ⟨g, 5, none⟩ = some (.int .i64 x.ca) := (blk_cells h).1
theorem own_some {W wF : World} {v : Value} {rs : List Ru} {x : Ru} {base n k m : Nat} (h : A3.G3 W 35 6 wF v (0 + k + 1 + m) (([] ++ cells (rs.take k) ++ cells [x]) ++ cells (rs.drop k))) (hb : base ≤ W.heap.size) (hn : rs.length = n) (hk : k ≤ n) (hm : m = n - k) : Own wF base v (rs.take k ++ [x] ++ rs.drop k) := by
  have h1 := h.own
  have hl : (rs.take k ++ [x] ++ rs.drop k).length = 0 + k + 1 + m := by simp only [List.length_append, List.length_take, List.length_drop, List.length_cons, List.length_nil]; omega
  have h2 : Own wF W.heap.size v (rs.take k ++ [x] ++ rs.drop k) := by
    unfold Own
    rw [hl, cells_cat, cells_cat]
    rwa [List.nil_append] at h1
  exact h2.rebase hb
theorem own_nil {W wF : World} {v : Value} {rs : List Ru} {x : Ru} {base n k : Nat} (h : A3.G3 W 35 6 wF v (0 + 1) ([] ++ cells [x])) (hb : base ≤ W.heap.size) (hn : rs.length = n) (hk : k ≤ n) (h0 : n = 0 := by rfl) : Own wF base v (rs.take k ++ [x] ++ rs.drop k) := by
  subst h0
  obtain rfl : rs = [] := List.eq_nil_of_length_eq_zero hn
  have h2 : Own wF W.heap.size v [x] := h.own
  have h3 := h2.rebase hb
  simpa using h3

theorem ad_len (rs : List Ru) (x : Ru) : (adL rs x).length ≤ 10 := by
  unfold adL
  split
  · rename_i h
    unfold adB at h
    rw [Bool.and_eq_true] at h
    exact (of_decide_eq_true h.2 : GoodP (insR rs x)).1
  · exact Nat.zero_le _
end Go.Proofs.YtleoljnofdajfaaGreatDoor.AdS

namespace Go.Proofs.YtleoljnofdajfaaGreatDoor.RuLs
open Go.RowKit Lb Bk Cur RuK RuI RuG RuDr RuW AdA
set_option linter.unusedSimpArgs false
set_option linter.unusedVariables false

theorem sm_is {f : Ru} (h : RuDo.Sm f) : Is f := ⟨by have := h.1; unfold maxLen; omega, by have := h.2; unfold maxLen; omega⟩
theorem app_is {fs : List Ru} {x : Ru} (h : ∀ i, i < fs.length → Is (at_ fs i)) (hx : Is x) : ∀ i, i < (fs ++ [x]).length → Is (at_ (fs ++ [x]) i) := by
  rw [all_at] at h ⊢
  intro r hr
  rcases List.mem_append.1 hr with h1 | h1
  · exact h r h1
  · obtain rfl : r = x := by simpa using h1
    exact hx
theorem nil_is : ∀ i, i < ([] : List Ru).length → Is (at_ [] i) := fun i hi => absurd hi (Nat.not_lt_zero _)
theorem ad_is {fs : List Ru} {x : Ru} (h : ∀ i, i < fs.length → Is (at_ fs i)) (hx : Is x) : ∀ i, i < (adL fs x).length → Is (at_ (adL fs x) i) := by
  unfold adL
  split
  · exact ins_all h hx
  · exact nil_is

end Go.Proofs.YtleoljnofdajfaaGreatDoor.RuLs

namespace Go.Proofs.YtleoljnofdajfaaGreatDoor.KlDr
open Go.RowKit Lb Bk Cur KlK
set_option linter.unusedSimpArgs false
set_option linter.unusedVariables false
variable {w W W' : World} {b m m' g : Nat} {f : Kl}

theorem blk_grown {t : TypeId} {cs : Array Value} {r : Option Nat} (h : Blk w g t cs) (hg : w.grownBy W r) (hr : r ≠ some g) : Blk W g t cs := (hg.block g h.lt (fun e => hr e.symm)).trans h
/-- The box of the answer, the reader. -/
structure Rd (w W : World) (b m : Nat) : Prop where
  R : Blk W w.heap.size 25 #[.int .i64 no.id, .string no.nm, .int .i64 no.lo, .int .i64 no.hi, .bool no.wo, .bool no.me, .int .i64 no.co, .int .i64 no.mo]
  ok : Ok W b m
  G : w.grownBy W (some b)
  lt : b < w.heap.size
theorem Rd.start (h : Ok w b m) : Rd w (w.alloc (.cells #[.int .i64 no.id, .string no.nm, .int .i64 no.lo, .int .i64 no.hi, .bool no.wo, .bool no.me, .int .i64 no.co, .int .i64 no.mo] 25)) b m :=
  ⟨Blk.new _ _ _, h.below ((Below.refl _ _).alloc (Nat.le_refl _) _), gbelow ((Below.refl _ _).alloc (Nat.le_refl _) _) _, h.lt⟩
theorem Rd.below (h : Rd w W b m) (hb : Below W.heap.size W W') : Rd w W' b m := ⟨h.R.later hb, h.ok.below hb, gtrans h.G (gbelow hb _), h.lt⟩
theorem Rd.step (h : Rd w W b m) (ho : Ok W' b m') (hg : W.grownBy W' (some b)) : Rd w W' b m' := ⟨blk_grown h.R hg (fun e => by have := h.lt; cases e; omega), ho, gtrans h.G hg, h.lt⟩
theorem Rd.mono (h : Rd w W b m) (hm : m ≤ m') : Rd w W b m' := ⟨h.R, h.ok.mono hm, h.G, h.lt⟩
theorem Rd.drew (h : Rd w W b m) : Rd w W.drew b m := h.below (Below.refl _ _).drew
/-- .. and the new one. -/
structure Re (w W : World) (b m g : Nat) (f : Kl) : Prop extends Rd w W b m where
  F : Blk W g 25 #[.int .i64 f.id, .string f.nm, .int .i64 f.lo, .int .i64 f.hi, .bool f.wo, .bool f.me, .int .i64 f.co, .int .i64 f.mo]
  lg : w.heap.size < g
theorem Re.start (h : Rd w W b m) (f : Kl) : Re w (W.alloc (.cells #[.int .i64 f.id, .string f.nm, .int .i64 f.lo, .int .i64 f.hi, .bool f.wo, .bool f.me, .int .i64 f.co, .int .i64 f.mo] 25)) b m W.heap.size f := ⟨h.below ((Below.refl _ _).alloc (Nat.le_refl _) _), Blk.new _ _ _, h.R.lt⟩
theorem Re.below (h : Re w W b m g f) (hb : Below W.heap.size W W') : Re w W' b m g f := ⟨h.toRd.below hb, h.F.later hb, h.lg⟩
theorem Re.drew (h : Re w W b m g f) : Re w W.drew b m g f := ⟨h.toRd.drew, h.F, h.lg⟩
theorem Re.mono (h : Re w W b m g f) (hm : m ≤ m') : Re w W b m' g f := ⟨h.toRd.mono hm, h.F, h.lg⟩
theorem Re.step (h : Re w W b m g f) (ho : Ok W' b m') (hg : W.grownBy W' (some b)) : Re w W' b m' g f :=
  ⟨h.toRd.step ho hg, blk_grown h.F hg (fun e => by have := h.lt; have := h.lg; cases e; omega), h.lg⟩
theorem Re.put_id (h : Re w W b m g f) (x : Int) : Re w (W.setCell ⟨g, 0, none⟩ (.int .i64 x)) b m g ⟨x, f.nm, f.lo, f.hi, f.wo, f.me, f.co, f.mo⟩ := by
  have hb : Below (w.heap.size + 1) W (W.setCell ⟨g, 0, none⟩ (.int .i64 x)) := (Below.refl _ _).setCell (p := ⟨g, 0, none⟩) h.lg _
  exact ⟨⟨h.R.below hb (Nat.lt_succ_self _), ok_belowB h.ok hb (Nat.lt_succ_of_lt h.lt), grown_B h.G hb (Nat.le_succ _), h.lt⟩, by simpa using Blk.set_ h.F 0 (.int .i64 x), h.lg⟩
theorem Re.put_nm (h : Re w W b m g f) (x : ByteArray) : Re w (W.setCell ⟨g, 1, none⟩ (.string x)) b m g ⟨f.id, x, f.lo, f.hi, f.wo, f.me, f.co, f.mo⟩ := by
  have hb : Below (w.heap.size + 1) W (W.setCell ⟨g, 1, none⟩ (.string x)) := (Below.refl _ _).setCell (p := ⟨g, 1, none⟩) h.lg _
  exact ⟨⟨h.R.below hb (Nat.lt_succ_self _), ok_belowB h.ok hb (Nat.lt_succ_of_lt h.lt), grown_B h.G hb (Nat.le_succ _), h.lt⟩, by simpa using Blk.set_ h.F 1 (.string x), h.lg⟩
theorem Re.put_lo (h : Re w W b m g f) (x : Int) : Re w (W.setCell ⟨g, 2, none⟩ (.int .i64 x)) b m g ⟨f.id, f.nm, x, f.hi, f.wo, f.me, f.co, f.mo⟩ := by
  have hb : Below (w.heap.size + 1) W (W.setCell ⟨g, 2, none⟩ (.int .i64 x)) := (Below.refl _ _).setCell (p := ⟨g, 2, none⟩) h.lg _
  exact ⟨⟨h.R.below hb (Nat.lt_succ_self _), ok_belowB h.ok hb (Nat.lt_succ_of_lt h.lt), grown_B h.G hb (Nat.le_succ _), h.lt⟩, by simpa using Blk.set_ h.F 2 (.int .i64 x), h.lg⟩
theorem Re.put_hi (h : Re w W b m g f) (x : Int) : Re w (W.setCell ⟨g, 3, none⟩ (.int .i64 x)) b m g ⟨f.id, f.nm, f.lo, x, f.wo, f.me, f.co, f.mo⟩ := by
  have hb : Below (w.heap.size + 1) W (W.setCell ⟨g, 3, none⟩ (.int .i64 x)) := (Below.refl _ _).setCell (p := ⟨g, 3, none⟩) h.lg _
  exact ⟨⟨h.R.below hb (Nat.lt_succ_self _), ok_belowB h.ok hb (Nat.lt_succ_of_lt h.lt), grown_B h.G hb (Nat.le_succ _), h.lt⟩, by simpa using Blk.set_ h.F 3 (.int .i64 x), h.lg⟩
theorem Re.put_wo (h : Re w W b m g f) (x : Bool) : Re w (W.setCell ⟨g, 4, none⟩ (.bool x)) b m g ⟨f.id, f.nm, f.lo, f.hi, x, f.me, f.co, f.mo⟩ := by
  have hb : Below (w.heap.size + 1) W (W.setCell ⟨g, 4, none⟩ (.bool x)) := (Below.refl _ _).setCell (p := ⟨g, 4, none⟩) h.lg _
  exact ⟨⟨h.R.below hb (Nat.lt_succ_self _), ok_belowB h.ok hb (Nat.lt_succ_of_lt h.lt), grown_B h.G hb (Nat.le_succ _), h.lt⟩, by simpa using Blk.set_ h.F 4 (.bool x), h.lg⟩
theorem Re.put_me (h : Re w W b m g f) (x : Bool) : Re w (W.setCell ⟨g, 5, none⟩ (.bool x)) b m g ⟨f.id, f.nm, f.lo, f.hi, f.wo, x, f.co, f.mo⟩ := by
  have hb : Below (w.heap.size + 1) W (W.setCell ⟨g, 5, none⟩ (.bool x)) := (Below.refl _ _).setCell (p := ⟨g, 5, none⟩) h.lg _
  exact ⟨⟨h.R.below hb (Nat.lt_succ_self _), ok_belowB h.ok hb (Nat.lt_succ_of_lt h.lt), grown_B h.G hb (Nat.le_succ _), h.lt⟩, by simpa using Blk.set_ h.F 5 (.bool x), h.lg⟩
theorem Re.put_co (h : Re w W b m g f) (x : Int) : Re w (W.setCell ⟨g, 6, none⟩ (.int .i64 x)) b m g ⟨f.id, f.nm, f.lo, f.hi, f.wo, f.me, x, f.mo⟩ := by
  have hb : Below (w.heap.size + 1) W (W.setCell ⟨g, 6, none⟩ (.int .i64 x)) := (Below.refl _ _).setCell (p := ⟨g, 6, none⟩) h.lg _
  exact ⟨⟨h.R.below hb (Nat.lt_succ_self _), ok_belowB h.ok hb (Nat.lt_succ_of_lt h.lt), grown_B h.G hb (Nat.le_succ _), h.lt⟩, by simpa using Blk.set_ h.F 6 (.int .i64 x), h.lg⟩
theorem Re.put_mo (h : Re w W b m g f) (x : Int) : Re w (W.setCell ⟨g, 7, none⟩ (.int .i64 x)) b m g ⟨f.id, f.nm, f.lo, f.hi, f.wo, f.me, f.co, x⟩ := by
  have hb : Below (w.heap.size + 1) W (W.setCell ⟨g, 7, none⟩ (.int .i64 x)) := (Below.refl _ _).setCell (p := ⟨g, 7, none⟩) h.lg _
  exact ⟨⟨h.R.below hb (Nat.lt_succ_self _), ok_belowB h.ok hb (Nat.lt_succ_of_lt h.lt), grown_B h.G hb (Nat.le_succ _), h.lt⟩, by simpa using Blk.set_ h.F 7 (.int .i64 x), h.lg⟩
/-- The answer handed out. -/
theorem Re.fin (h : Re w W b m g f) : Blk (((((((((W.setCell ⟨w.heap.size, 0, none⟩ (.int .i64 f.id)).setCell ⟨w.heap.size, 1, none⟩ (.string f.nm)).setCell ⟨w.heap.size, 2, none⟩ (.int .i64 f.lo)).setCell ⟨w.heap.size, 3, none⟩ (.int .i64 f.hi)).setCell ⟨w.heap.size, 4, none⟩ (.bool f.wo)).setCell ⟨w.heap.size, 5, none⟩ (.bool f.me)).setCell ⟨w.heap.size, 6, none⟩ (.int .i64 f.co)).setCell ⟨w.heap.size, 7, none⟩ (.int .i64 f.mo))) w.heap.size 25 #[.int .i64 f.id, .string f.nm, .int .i64 f.lo, .int .i64 f.hi, .bool f.wo, .bool f.me, .int .i64 f.co, .int .i64 f.mo] ∧ Ok ((((((((W.setCell ⟨w.heap.size, 0, none⟩ (.int .i64 f.id)).setCell ⟨w.heap.size, 1, none⟩ (.string f.nm)).setCell ⟨w.heap.size, 2, none⟩ (.int .i64 f.lo)).setCell ⟨w.heap.size, 3, none⟩ (.int .i64 f.hi)).setCell ⟨w.heap.size, 4, none⟩ (.bool f.wo)).setCell ⟨w.heap.size, 5, none⟩ (.bool f.me)).setCell ⟨w.heap.size, 6, none⟩ (.int .i64 f.co)).setCell ⟨w.heap.size, 7, none⟩ (.int .i64 f.mo)) b m ∧ w.grownBy ((((((((W.setCell ⟨w.heap.size, 0, none⟩ (.int .i64 f.id)).setCell ⟨w.heap.size, 1, none⟩ (.string f.nm)).setCell ⟨w.heap.size, 2, none⟩ (.int .i64 f.lo)).setCell ⟨w.heap.size, 3, none⟩ (.int .i64 f.hi)).setCell ⟨w.heap.size, 4, none⟩ (.bool f.wo)).setCell ⟨w.heap.size, 5, none⟩ (.bool f.me)).setCell ⟨w.heap.size, 6, none⟩ (.int .i64 f.co)).setCell ⟨w.heap.size, 7, none⟩ (.int .i64 f.mo)) (some b) := by
  have hz := blk_all h.R f
  exact ⟨hz.1, ok_belowB h.ok (hz.2 _ (Nat.le_refl _)) h.lt, grown_B h.G (hz.2 _ (Nat.le_refl _)) (Nat.le_refl _)⟩

/-- A list that grows beside the reader. -/
structure Rl (w W : World) (b m : Nat) (v : Value) (fs : List Kl) : Prop where
  ok : Ok W b m
  lb : b < w.heap.size
  G : w.grownBy W (some b)
  L : Own W w.heap.size v fs
theorem Rl.step {v : Value} {fs : List Kl} (h : Rl w W b m v fs) (ho : Ok W' b m') (hg : W.grownBy W' (some b)) : Rl w W' b m' v fs :=
  ⟨ho, h.lb, gtrans h.G hg, World.ownsRow.kept h.L hg (.inr (fun e => by have := (World.ownsRow.lt h.L b e).1; have := h.lb; omega))⟩
theorem Rl.mono {v : Value} {fs : List Kl} (h : Rl w W b m v fs) (hm : m ≤ m') : Rl w W b m' v fs := ⟨h.ok.mono hm, h.lb, h.G, h.L⟩
theorem Rl.below {v : Value} {fs : List Kl} (h : Rl w W b m v fs) (hb : Below W.heap.size W W') : Rl w W' b m v fs := ⟨h.ok.below hb, h.lb, gtrans h.G (gbelow hb _), h.L.below hb⟩
/-- Another list in its place. -/
theorem Rl.other {v v' : Value} {fs fs' : List Kl} (h : Rl w W b m v fs) (hb : Below W.heap.size W W') (ho : Own W' W.heap.size v' fs') : Rl w W' b m v' fs' := ⟨h.ok.below hb, h.lb, gtrans h.G (gbelow hb _), ho.rebase h.G.size⟩
theorem Rl.start (h : Ok w b m) : Rl w (w.alloc (.cells #[] 25)) b m (.slice (some ⟨w.heap.size, 0, none⟩) 0 0) [] :=
  ⟨h.below ((Below.refl _ _).alloc (Nat.le_refl _) _), h.lt, gbelow ((Below.refl _ _).alloc (Nat.le_refl _) _) _, World.ownsRow_made w #[] 0 (Nat.le_refl _) (Nat.zero_le _) rfl⟩
theorem Rl.new {v : Value} {fs : List Kl} (h : Rl w W b m v fs) : Rl w (W.alloc (.cells #[] 25)) b m (.slice (some ⟨W.heap.size, 0, none⟩) 0 0) [] :=
  h.other ((Below.refl _ _).alloc (Nat.le_refl _) _) (World.ownsRow_made W #[] 0 (Nat.le_refl _) (Nat.zero_le _) rfl)
theorem Rl.put {v v' : Value} {fs : List Kl} (h : Rl w W b m v fs) (x : Kl) (ho : W'.ownsRow w.heap.size 25 8 v' (fs.length + 1) (cells fs ++ cells [x])) (hg : W.grownBy W' v.ownBlock) : Rl w W' b m v' (fs ++ [x]) := by
  refine ⟨?_, h.lb, ?_, ?_⟩
  · have hB : Below w.heap.size W W' := ⟨hg.os, hg.tape, hg.output, hg.size, fun k hk => hg.block k (Nat.lt_of_lt_of_le hk h.G.size) (fun e => by have := (World.ownsRow.lt h.L k e.symm).1; omega)⟩
    exact ok_belowB h.ok hB h.lb
  · refine ⟨hg.os.trans h.G.os, hg.tape.trans h.G.tape, hg.output.trans h.G.output, Nat.le_trans h.G.size hg.size, fun k hk hr => (hg.block k (Nat.lt_of_lt_of_le hk h.G.size) (fun e => ?_)).trans (h.G.block k hk hr)⟩
    have := (World.ownsRow.lt h.L k e.symm).1
    omega
  · unfold Own
    rw [List.length_append, cells_cat]
    exact ho
end Go.Proofs.YtleoljnofdajfaaGreatDoor.KlDr

namespace Go.Proofs.YtleoljnofdajfaaGreatDoor.KlDo
open Go.RowKit Lb Bk Cur KlK KlDr
set_option linter.unusedSimpArgs false
set_option linter.unusedVariables false

def mnZ (a b : Int) : Int := if a < b then a else b
theorem mn_le (a b : Int) (h0 : 0 ≤ a) (h1 : 0 ≤ b) : 0 ≤ mnZ a b ∧ mnZ a b ≤ a := by unfold mnZ; split <;> omega
theorem least_any (a b : Int) (w : World) : Calls Tryz.prog 65 #[.int .i64 a, .int .i64 b] w fun e w' => e = .returned (.int .i64 (mnZ a b)) ∧ w' = w := by
  by_cases h : a < b
  · have HE := Lib.hid (show mnZ a b = a from if_pos h)
    go_enter Tryz.func65, Tryz.ntmps65
    go_wp2
    go_ret
    exact ⟨by rw [HE.out]; rfl, rfl⟩
  · have HE := Lib.hid (show mnZ a b = b from if_neg h)
    go_enter Tryz.func65, Tryz.ntmps65
    go_wp2
    go_ret
    exact ⟨by rw [HE.out]; rfl, rfl⟩
def Sm (f : Kl) : Prop := f.nm.size ≤ 16
set_option maxRecDepth 20000 in
set_option maxHeartbeats 8000000 in
theorem class_any (b m : Nat) (id : Int) (w : World) (hm : m ≤ 1152921504606840000) (hok : Ok w b m) :
    Calls Tryz.prog 33 #[.pointer (some ⟨b, 0, none⟩), .int .i64 id] w fun e w' => (∃ f : Kl, e = .returned (.agg #[.int .i64 f.id, .string f.nm, .int .i64 f.lo, .int .i64 f.hi, .bool f.wo, .bool f.me, .int .i64 f.co, .int .i64 f.mo]) ∧ Sm f) ∧ Ok w' b (m + 40) ∧ w.grownBy w' (some b) := by
  have H0 := Lib.hid (Rd.start hok)
  clear hok
  go_enter Tryz.func33, Tryz.ntmps33
  go_wp2_with fail
  refine (of_new b _ 6 16 [⟨#[101, 108, 105, 116, 101]⟩, ⟨#[106, 117, 110, 105, 111, 114]⟩, ⟨#[115, 101, 110, 105, 111, 114]⟩, ⟨#[111, 112, 101, 110]⟩, ⟨#[115, 104, 111, 114, 116]⟩, ⟨#[108, 111, 110, 103]⟩] _ (by first | rfl | simp) (by omega) rfl (by decide) (by decide) (by decide) H0.out.ok).mono ?_
  rintro e w1 ⟨⟨x1, rfl, hx1⟩, hok, hg⟩
  have H1 := Lib.hid (H0.out.step hok hg)
  clear hok hg H0
  have HNm := Lib.hid hx1
  clear hx1
  go_wp2_with fail
  refine (among_new b _ 5 [0, 6, 18, 36, 60] _ (by first | rfl | simp) (by omega) rfl (by decide) (by decide) H1.out.ok).mono ?_
  rintro e w2 ⟨⟨x2, rfl, hz2⟩, hok, hg⟩
  have H2 := Lib.hid (H1.out.step hok hg)
  clear hok hg H1
  have HLo := Lib.hid (show 0 ≤ x2 ∧ x2 ≤ 60 from by simp at hz2; omega)
  clear hz2
  go_wp2_with fail
  refine (one_any b _ 2 _ (by omega) (by omega) (by omega) H2.out.ok).mono ?_
  rintro e w3 ⟨⟨x3, rfl⟩, hok, hg⟩
  have H3 := Lib.hid (H2.out.step hok hg)
  clear hok hg H2
  go_wp2_with fail
  refine (one_any b _ 2 _ (by omega) (by omega) (by omega) H3.out.ok).mono ?_
  rintro e w4 ⟨⟨x4, rfl⟩, hok, hg⟩
  have H4 := Lib.hid (H3.out.step hok hg)
  clear hok hg H3
  go_wp2_with fail
  refine (among_new b _ 4 [1, 2, 2, 20] _ (by first | rfl | simp) (by omega) rfl (by decide) (by decide) H4.out.ok).mono ?_
  rintro e w5 ⟨⟨x5, rfl, -⟩, hok, hg⟩
  have H5 := Lib.hid (H4.out.step hok hg)
  clear hok hg H4
  go_wp2_with fail
  refine (among_new b _ 4 [1, 1, 2, 500] _ (by first | rfl | simp) (by omega) rfl (by decide) (by decide) H5.out.ok).mono ?_
  rintro e w6 ⟨⟨x6, rfl, -⟩, hok, hg⟩
  have H6 := Lib.hid (H5.out.step hok hg)
  clear hok hg H5
  have HE := Lib.hid (Re.start H6.out (⟨id, x1, x2, 0, x3, x4, x5, x6⟩ : Kl))
  obtain ⟨g, hgq⟩ : ∃ g, w6.heap.size = g := ⟨_, rfl⟩
  rw [hgq] at HE
  clear H6
  go_upto_region 2 with (fail)
  generalize World.alloc _ _ = wa at *
  clear hgq
  replace HE := Lib.hid HE.out.drew
  obtain ⟨⟨-, -, c2, -, -, -, -, -⟩, -⟩ := blk_cells HE.out.F
  refine wp_region_noPanic ?_
  refine wp_region_held_drew (S := (fun Wx : World => Wx.cell? ⟨g, 2, none⟩ = some (.int .i64 x2))) (by kernel_rfl) c2 (fun hHeld => ?_)
  refine wpAnyH_take (i := 0) (oi := _) (v := ?_) rfl (by kernel_rfl) (by kernel_rfl) (by kernel_rfl) (fun _ _ _ h => h) (Or.inl ⟨by rfl, ?_⟩) (by assumption) ?_; rotate_left; focus (intro W hSw; (try dsimp only at hSw); go_simp; (first | done | with_reducible rfl))
  (try simp only [List.getElem_toArray, List.getElem_cons_succ, List.getElem_cons_zero, Act.put, List.setIfInBounds_toArray, List.set_cons_zero, List.set_cons_succ])
  refine wpAnyH_take (i := 1) (oi := _) (v := ?_) rfl (by kernel_rfl) (by kernel_rfl) (by kernel_rfl) (fun _ _ _ h => h) (Or.inl ⟨by rfl, ?_⟩) (by assumption) ?_; rotate_left; focus (intro W hSw; (try dsimp only at hSw); go_simp; (first | done | with_reducible rfl))
  (try simp only [List.getElem_toArray, List.getElem_cons_succ, List.getElem_cons_zero, Act.put, List.setIfInBounds_toArray, List.set_cons_zero, List.set_cons_succ])
  refine wpAnyH_take (i := 2) (oi := _) (v := ?_) rfl (by kernel_rfl) (by kernel_rfl) (by kernel_rfl) (fun _ _ _ h => h) (Or.inl ⟨by rfl, ?_⟩) (by assumption) ?_; rotate_left; focus (intro W hSw; (try dsimp only at hSw); go_simp; (first | done | with_reducible rfl))
  (try simp only [List.getElem_toArray, List.getElem_cons_succ, List.getElem_cons_zero, Act.put, List.setIfInBounds_toArray, List.set_cons_zero, List.set_cons_succ])
  refine wpAnyH_ready (rs := [3]) (by kernel_rfl) (by simp) ?_
  refine AllReadyH.cons (o := _) rfl (fun K hK => ?_) AllReadyH.nil
  go_simp
  refine hK.out _ _ (((Below.refl wa.heap.size wa).drew.alloc (Nat.le_refl _) (.cells #[.int .i64 0, .int .i64 14, .int .i64 60, .int .i64 120] 3)).cell (World.block_lt_of_cell? wa _ c2) |>.trans c2) (fun hsA => ?_)
  clear hK K hHeld
  refine wpAnyH_ready (rs := [4]) (by kernel_rfl) (by simp) ?_
  refine AllReadyH.cons (o := _) rfl (fun K hK => ?_) AllReadyH.nil
  go_simp
  go_at_call 34
  refine (among_new b _ 4 [0, 14, 60, 120] _ (by first | rfl | simp) (by omega) rfl (by decide) (by decide) HE.out.ok).mono ?_
  rintro e w7 ⟨⟨x7, rfl, hz7⟩, hok, hg⟩
  have HF := Lib.hid (HE.out.step hok hg)
  clear hok hg HE
  have hzb : 0 ≤ x7 ∧ x7 ≤ 120 := by simp at hz7; omega
  obtain ⟨⟨-, -, k2, k3, -, -, -, -⟩, -, -, -, y3, -, -, -, -⟩ := blk_cells HF.out.F
  go_wp2_with fail
  refine hK.out _ _ k2 (fun hsB => ?_)
  clear hK K hsA
  obtain ⟨hl0, hl1⟩ := HLo.out
  have hws : IntKind.i64.wrap (x2 + x7) = x2 + x7 := IntWalk.i64_in _ (by omega)
  have hmn := mn_le 120 (x2 + x7) (by omega) (by omega)
  refine wpAnyH_take (i := 5) (oi := _) (v := ?_) rfl (by kernel_rfl) (by kernel_rfl) (by kernel_rfl) (fun _ _ _ h => h) (Or.inl ⟨by rfl, ?_⟩) (by assumption) ?_; rotate_left; focus (intro W hSw; (try dsimp only at hSw); go_simp; (first | done | with_reducible rfl))
  (try simp only [List.getElem_toArray, List.getElem_cons_succ, List.getElem_cons_zero, Act.put, List.setIfInBounds_toArray, List.set_cons_zero, List.set_cons_succ])
  refine wpAnyH_ready (rs := [6]) (by kernel_rfl) (by simp) ?_
  refine AllReadyH.cons (o := _) rfl (fun K hK => ?_) AllReadyH.nil
  go_simp
  go_at_call 65
  refine (least_any 120 (x2 + x7) _).mono ?_
  rintro e wq ⟨rfl, hwq⟩
  obtain rfl := hwq.symm
  obtain ⟨hi, hhi⟩ : ∃ x, mnZ 120 (x2 + x7) = x := ⟨_, rfl⟩
  rw [hhi] at hmn ⊢
  go_wp2_with fail
  refine hK.out _ _ k2 (fun hsC => ?_)
  clear hK K hsB hws hhi
  refine wpAnyH_take (i := 7) (oi := _) (v := ?_) rfl (by kernel_rfl) (by kernel_rfl) (by kernel_rfl) (fun _ _ _ h => h) (Or.inl ⟨by rfl, ?_⟩) (by assumption) ?_; rotate_left; focus (intro W hSw; (try dsimp only at hSw); go_simp; (first | done | with_reducible rfl))
  (try simp only [List.getElem_toArray, List.getElem_cons_succ, List.getElem_cons_zero, Act.put, List.setIfInBounds_toArray, List.set_cons_zero, List.set_cons_succ])
  refine wpAnyH_ready (rs := [8]) (by kernel_rfl) (by simp) ?_
  refine AllReadyH.cons (o := _) rfl (fun K hK => ?_) AllReadyH.nil
  go_simp
  have HG := Lib.hid (HF.out.put_hi hi)
  refine hK.out _ _ (blk_cells HG.out.F).1.2.2.1 (fun hsD => ?_)
  clear hK K hsC
  refine wpAnyH_done (by kernel_rfl) ?_ _
  refine NoPanic.normal ?_
  (try simp only [List.getElem_toArray, List.getElem_cons_succ, List.getElem_cons_zero, Act.put, List.setIfInBounds_toArray, List.set_cons_zero, List.set_cons_succ])
  clear hsD k2 k3 y3 c2 HF
  generalize World.setCell _ _ _ = wu at *
  have HHIa := Lib.hid (show 0 ≤ hi ∧ hi ≤ 120 from hmn)
  clear hmn hl0 hl1 hzb hz7
  obtain ⟨⟨-, -, -, -, p4, p5, -, -⟩, -⟩ := blk_cells HG.out.F
  cases x3 with
  | true =>
    go_upto_region 5 with (fail)
    clear p4 p5
    obtain ⟨f, hf⟩ : ∃ f : Kl, (⟨id, x1, x2, hi, true, x4, x5, x6⟩ : Kl) = f := ⟨_, rfl⟩
    have HSM := Lib.hid (show Sm f from by rw [← hf]; exact HNm.out)
    have HHI := Lib.hid (show 0 ≤ f.hi ∧ f.hi ≤ 120 from by rw [← hf]; exact HHIa.out)
    have HX := Lib.hid (hf ▸ HG.out)
    clear hf HG HNm HHIa HLo
    go_wp2_with fail
    refine (pick_any b _ 70 _ (by omega) (by omega) (by omega) HX.out.ok).mono ?_
    rintro e w8 ⟨⟨x8, rfl, -, -⟩, hok, hg⟩
    have HS := Lib.hid (HX.out.step hok hg)
    clear hok hg HX
    have hq : x8 = 0 ∨ x8 = 1 ∨ x8 = 2 ∨ x8 = 3 ∨ x8 = 4 ∨ x8 = 5 ∨ (x8 ≠ 0 ∧ x8 ≠ 1 ∧ x8 ≠ 2 ∧ x8 ≠ 3 ∧ x8 ≠ 4 ∧ x8 ≠ 5) := by omega
    rcases hq with rfl | rfl | rfl | rfl | rfl | rfl | hq
    · skip
      go_wp2_with fail
      refine (among_new b _ 3 [0, 99, 100] _ (by first | rfl | simp) (by omega) rfl (by decide) (by decide) HS.out.ok).mono ?_
      rintro e w9 ⟨⟨x9, rfl, -⟩, hok, hg⟩
      have HT := Lib.hid (HS.out.step hok hg)
      clear hok hg HS
      obtain ⟨⟨c0, -, -, -, -, -, -, -⟩, d0, -, -, -, -, -, -, -⟩ := blk_cells HT.out.F
      go_upto_region 18 with (fail)
      have HU := Lib.hid (HT.out.put_id x9)
      clear c0 d0 HT
      generalize World.setCell _ _ _ = wu at *
      replace HSM := Lib.hid (show Sm (⟨x9, f.nm, f.lo, f.hi, f.wo, f.me, f.co, f.mo⟩ : Kl) from HSM.out)
      obtain ⟨⟨p0, p1, p2, p3, p4, p5, p6, p7⟩, -⟩ := blk_cells HU.out.F
      obtain ⟨⟨r0, r1, r2, r3, r4, r5, r6, r7⟩, y0, y1, y2, y3, y4, y5, y6, y7⟩ := blk_cells HU.out.R
      have hlg := HU.out.lg
      go_wp2
      clear p0 r0 y0 p1 r1 y1 p2 r2 y2 p3 r3 y3 p4 r4 y4 p5 r5 y5 p6 r6 y6 p7 r7 y7
      have hz := HU.out.fin
      generalize (World.setCell (World.setCell (World.setCell _ _ _) _ _) _ _) = w9 at *
      obtain ⟨hz1, hz2, hz3⟩ := hz
      obtain ⟨⟨u0, u1, u2, u3, u4, u5, u6, u7⟩, -⟩ := blk_cells hz1
      exact bodyPost_ret (by simp [results, Tryz.results33, go_sem, u0, u1, u2, u3, u4, u5, u6, u7]) rfl ⟨⟨_, rfl, HSM.out⟩, hz2.mono (by omega), hz3⟩
    · skip
      go_wp2_with fail
      refine (of_new b _ 3 16 [⟨#[]⟩, ⟨#[65]⟩, ⟨#[97, 98, 99, 100, 101, 102, 103, 104, 105, 106, 107]⟩] _ (by first | rfl | simp) (by omega) rfl (by decide) (by decide) (by decide) HS.out.ok).mono ?_
      rintro e w10 ⟨⟨x10, rfl, hx10⟩, hok, hg⟩
      have HT := Lib.hid (HS.out.step hok hg)
      clear hok hg HS
      obtain ⟨⟨-, c1, -, -, -, -, -, -⟩, -, d1, -, -, -, -, -, -⟩ := blk_cells HT.out.F
      go_upto_region 18 with (fail)
      have HU := Lib.hid (HT.out.put_nm x10)
      clear c1 d1 HT
      generalize World.setCell _ _ _ = wu at *
      replace HSM := Lib.hid (show Sm (⟨f.id, x10, f.lo, f.hi, f.wo, f.me, f.co, f.mo⟩ : Kl) from hx10)
      obtain ⟨⟨p0, p1, p2, p3, p4, p5, p6, p7⟩, -⟩ := blk_cells HU.out.F
      obtain ⟨⟨r0, r1, r2, r3, r4, r5, r6, r7⟩, y0, y1, y2, y3, y4, y5, y6, y7⟩ := blk_cells HU.out.R
      have hlg := HU.out.lg
      go_wp2
      clear p0 r0 y0 p1 r1 y1 p2 r2 y2 p3 r3 y3 p4 r4 y4 p5 r5 y5 p6 r6 y6 p7 r7 y7
      have hz := HU.out.fin
      generalize (World.setCell (World.setCell (World.setCell _ _ _) _ _) _ _) = w9 at *
      obtain ⟨hz1, hz2, hz3⟩ := hz
      obtain ⟨⟨u0, u1, u2, u3, u4, u5, u6, u7⟩, -⟩ := blk_cells hz1
      exact bodyPost_ret (by simp [results, Tryz.results33, go_sem, u0, u1, u2, u3, u4, u5, u6, u7]) rfl ⟨⟨_, rfl, HSM.out⟩, hz2.mono (by omega), hz3⟩
    · skip
      obtain ⟨⟨-, -, -, p3, -, -, -, -⟩, -⟩ := blk_cells HS.out.F
      have hwh : IntKind.i64.wrap (f.hi + 1) = f.hi + 1 := IntWalk.i64_in _ (by have := HHI.out; omega)
      go_wp2_with fail
      refine (among_new b _ 2 [-1, f.hi + 1] _ (by first | rfl | simp) (by omega) rfl (by decide) (by decide) HS.out.ok).mono ?_
      rintro e w11 ⟨⟨x11, rfl, -⟩, hok, hg⟩
      have HT := Lib.hid (HS.out.step hok hg)
      clear hok hg HS
      clear p3 hwh
      obtain ⟨⟨-, -, c2, -, -, -, -, -⟩, -, -, d2, -, -, -, -, -⟩ := blk_cells HT.out.F
      go_upto_region 18 with (fail)
      have HU := Lib.hid (HT.out.put_lo x11)
      clear c2 d2 HT
      generalize World.setCell _ _ _ = wu at *
      replace HSM := Lib.hid (show Sm (⟨f.id, f.nm, x11, f.hi, f.wo, f.me, f.co, f.mo⟩ : Kl) from HSM.out)
      obtain ⟨⟨p0, p1, p2, p3, p4, p5, p6, p7⟩, -⟩ := blk_cells HU.out.F
      obtain ⟨⟨r0, r1, r2, r3, r4, r5, r6, r7⟩, y0, y1, y2, y3, y4, y5, y6, y7⟩ := blk_cells HU.out.R
      have hlg := HU.out.lg
      go_wp2
      clear p0 r0 y0 p1 r1 y1 p2 r2 y2 p3 r3 y3 p4 r4 y4 p5 r5 y5 p6 r6 y6 p7 r7 y7
      have hz := HU.out.fin
      generalize (World.setCell (World.setCell (World.setCell _ _ _) _ _) _ _) = w9 at *
      obtain ⟨hz1, hz2, hz3⟩ := hz
      obtain ⟨⟨u0, u1, u2, u3, u4, u5, u6, u7⟩, -⟩ := blk_cells hz1
      exact bodyPost_ret (by simp [results, Tryz.results33, go_sem, u0, u1, u2, u3, u4, u5, u6, u7]) rfl ⟨⟨_, rfl, HSM.out⟩, hz2.mono (by omega), hz3⟩
    · skip
      have HT := HS
      clear HS
      obtain ⟨⟨-, -, -, c3, -, -, -, -⟩, -, -, -, d3, -, -, -, -⟩ := blk_cells HT.out.F
      go_upto_region 18 with (fail)
      have HU := Lib.hid (HT.out.put_hi 121)
      clear c3 d3 HT
      generalize World.setCell _ _ _ = wu at *
      replace HSM := Lib.hid (show Sm (⟨f.id, f.nm, f.lo, 121, f.wo, f.me, f.co, f.mo⟩ : Kl) from HSM.out)
      obtain ⟨⟨p0, p1, p2, p3, p4, p5, p6, p7⟩, -⟩ := blk_cells HU.out.F
      obtain ⟨⟨r0, r1, r2, r3, r4, r5, r6, r7⟩, y0, y1, y2, y3, y4, y5, y6, y7⟩ := blk_cells HU.out.R
      have hlg := HU.out.lg
      go_wp2
      clear p0 r0 y0 p1 r1 y1 p2 r2 y2 p3 r3 y3 p4 r4 y4 p5 r5 y5 p6 r6 y6 p7 r7 y7
      have hz := HU.out.fin
      generalize (World.setCell (World.setCell (World.setCell _ _ _) _ _) _ _) = w9 at *
      obtain ⟨hz1, hz2, hz3⟩ := hz
      obtain ⟨⟨u0, u1, u2, u3, u4, u5, u6, u7⟩, -⟩ := blk_cells hz1
      exact bodyPost_ret (by simp [results, Tryz.results33, go_sem, u0, u1, u2, u3, u4, u5, u6, u7]) rfl ⟨⟨_, rfl, HSM.out⟩, hz2.mono (by omega), hz3⟩
    · skip
      go_wp2_with fail
      refine (among_new b _ 2 [0, 21] _ (by first | rfl | simp) (by omega) rfl (by decide) (by decide) HS.out.ok).mono ?_
      rintro e w12 ⟨⟨x12, rfl, -⟩, hok, hg⟩
      have HT := Lib.hid (HS.out.step hok hg)
      clear hok hg HS
      obtain ⟨⟨-, -, -, -, -, -, c6, -⟩, -, -, -, -, -, -, d6, -⟩ := blk_cells HT.out.F
      go_upto_region 18 with (fail)
      have HU := Lib.hid (HT.out.put_co x12)
      clear c6 d6 HT
      generalize World.setCell _ _ _ = wu at *
      replace HSM := Lib.hid (show Sm (⟨f.id, f.nm, f.lo, f.hi, f.wo, f.me, x12, f.mo⟩ : Kl) from HSM.out)
      obtain ⟨⟨p0, p1, p2, p3, p4, p5, p6, p7⟩, -⟩ := blk_cells HU.out.F
      obtain ⟨⟨r0, r1, r2, r3, r4, r5, r6, r7⟩, y0, y1, y2, y3, y4, y5, y6, y7⟩ := blk_cells HU.out.R
      have hlg := HU.out.lg
      go_wp2
      clear p0 r0 y0 p1 r1 y1 p2 r2 y2 p3 r3 y3 p4 r4 y4 p5 r5 y5 p6 r6 y6 p7 r7 y7
      have hz := HU.out.fin
      generalize (World.setCell (World.setCell (World.setCell _ _ _) _ _) _ _) = w9 at *
      obtain ⟨hz1, hz2, hz3⟩ := hz
      obtain ⟨⟨u0, u1, u2, u3, u4, u5, u6, u7⟩, -⟩ := blk_cells hz1
      exact bodyPost_ret (by simp [results, Tryz.results33, go_sem, u0, u1, u2, u3, u4, u5, u6, u7]) rfl ⟨⟨_, rfl, HSM.out⟩, hz2.mono (by omega), hz3⟩
    · skip
      go_wp2_with fail
      refine (among_new b _ 2 [0, 501] _ (by first | rfl | simp) (by omega) rfl (by decide) (by decide) HS.out.ok).mono ?_
      rintro e w13 ⟨⟨x13, rfl, -⟩, hok, hg⟩
      have HT := Lib.hid (HS.out.step hok hg)
      clear hok hg HS
      obtain ⟨⟨-, -, -, -, -, -, -, c7⟩, -, -, -, -, -, -, -, d7⟩ := blk_cells HT.out.F
      go_upto_region 18 with (fail)
      have HU := Lib.hid (HT.out.put_mo x13)
      clear c7 d7 HT
      generalize World.setCell _ _ _ = wu at *
      replace HSM := Lib.hid (show Sm (⟨f.id, f.nm, f.lo, f.hi, f.wo, f.me, f.co, x13⟩ : Kl) from HSM.out)
      obtain ⟨⟨p0, p1, p2, p3, p4, p5, p6, p7⟩, -⟩ := blk_cells HU.out.F
      obtain ⟨⟨r0, r1, r2, r3, r4, r5, r6, r7⟩, y0, y1, y2, y3, y4, y5, y6, y7⟩ := blk_cells HU.out.R
      have hlg := HU.out.lg
      go_wp2
      clear p0 r0 y0 p1 r1 y1 p2 r2 y2 p3 r3 y3 p4 r4 y4 p5 r5 y5 p6 r6 y6 p7 r7 y7
      have hz := HU.out.fin
      generalize (World.setCell (World.setCell (World.setCell _ _ _) _ _) _ _) = w9 at *
      obtain ⟨hz1, hz2, hz3⟩ := hz
      obtain ⟨⟨u0, u1, u2, u3, u4, u5, u6, u7⟩, -⟩ := blk_cells hz1
      exact bodyPost_ret (by simp [results, Tryz.results33, go_sem, u0, u1, u2, u3, u4, u5, u6, u7]) rfl ⟨⟨_, rfl, HSM.out⟩, hz2.mono (by omega), hz3⟩
    · obtain ⟨q0, q1, q2, q3, q4, q5⟩ := hq
      have e0 : ((x8 : Int) == 0) = false := by simp; omega
      have e1 : ((x8 : Int) == 1) = false := by simp; omega
      have e2 : ((x8 : Int) == 2) = false := by simp; omega
      have e3 : ((x8 : Int) == 3) = false := by simp; omega
      have e4 : ((x8 : Int) == 4) = false := by simp; omega
      have e5 : ((x8 : Int) == 5) = false := by simp; omega
      clear q0 q1 q2 q3 q4 q5
      obtain ⟨⟨p0, p1, p2, p3, p4, p5, p6, p7⟩, -⟩ := blk_cells HS.out.F
      obtain ⟨⟨r0, r1, r2, r3, r4, r5, r6, r7⟩, y0, y1, y2, y3, y4, y5, y6, y7⟩ := blk_cells HS.out.R
      have hlg := HS.out.lg
      go_wp2
      clear p0 r0 y0 p1 r1 y1 p2 r2 y2 p3 r3 y3 p4 r4 y4 p5 r5 y5 p6 r6 y6 p7 r7 y7
      have hz := HS.out.fin
      generalize (World.setCell (World.setCell (World.setCell _ _ _) _ _) _ _) = w9 at *
      obtain ⟨hz1, hz2, hz3⟩ := hz
      obtain ⟨⟨u0, u1, u2, u3, u4, u5, u6, u7⟩, -⟩ := blk_cells hz1
      exact bodyPost_ret (by simp [results, Tryz.results33, go_sem, u0, u1, u2, u3, u4, u5, u6, u7]) rfl ⟨⟨_, rfl, HSM.out⟩, hz2.mono (by omega), hz3⟩
  | false =>
    cases x4 with
    | true =>
      go_upto_region 5 with (fail)
      clear p4 p5
      obtain ⟨f, hf⟩ : ∃ f : Kl, (⟨id, x1, x2, hi, false, true, x5, x6⟩ : Kl) = f := ⟨_, rfl⟩
      have HSM := Lib.hid (show Sm f from by rw [← hf]; exact HNm.out)
      have HHI := Lib.hid (show 0 ≤ f.hi ∧ f.hi ≤ 120 from by rw [← hf]; exact HHIa.out)
      have HX := Lib.hid (hf ▸ HG.out)
      clear hf HG HNm HHIa HLo
      go_wp2_with fail
      refine (pick_any b _ 70 _ (by omega) (by omega) (by omega) HX.out.ok).mono ?_
      rintro e w14 ⟨⟨x14, rfl, -, -⟩, hok, hg⟩
      have HS := Lib.hid (HX.out.step hok hg)
      clear hok hg HX
      have hq : x14 = 0 ∨ x14 = 1 ∨ x14 = 2 ∨ x14 = 3 ∨ x14 = 4 ∨ x14 = 5 ∨ (x14 ≠ 0 ∧ x14 ≠ 1 ∧ x14 ≠ 2 ∧ x14 ≠ 3 ∧ x14 ≠ 4 ∧ x14 ≠ 5) := by omega
      rcases hq with rfl | rfl | rfl | rfl | rfl | rfl | hq
      · skip
        go_wp2_with fail
        refine (among_new b _ 3 [0, 99, 100] _ (by first | rfl | simp) (by omega) rfl (by decide) (by decide) HS.out.ok).mono ?_
        rintro e w15 ⟨⟨x15, rfl, -⟩, hok, hg⟩
        have HT := Lib.hid (HS.out.step hok hg)
        clear hok hg HS
        obtain ⟨⟨c0, -, -, -, -, -, -, -⟩, d0, -, -, -, -, -, -, -⟩ := blk_cells HT.out.F
        go_upto_region 18 with (fail)
        have HU := Lib.hid (HT.out.put_id x15)
        clear c0 d0 HT
        generalize World.setCell _ _ _ = wu at *
        replace HSM := Lib.hid (show Sm (⟨x15, f.nm, f.lo, f.hi, f.wo, f.me, f.co, f.mo⟩ : Kl) from HSM.out)
        obtain ⟨⟨p0, p1, p2, p3, p4, p5, p6, p7⟩, -⟩ := blk_cells HU.out.F
        obtain ⟨⟨r0, r1, r2, r3, r4, r5, r6, r7⟩, y0, y1, y2, y3, y4, y5, y6, y7⟩ := blk_cells HU.out.R
        have hlg := HU.out.lg
        go_wp2
        clear p0 r0 y0 p1 r1 y1 p2 r2 y2 p3 r3 y3 p4 r4 y4 p5 r5 y5 p6 r6 y6 p7 r7 y7
        have hz := HU.out.fin
        generalize (World.setCell (World.setCell (World.setCell _ _ _) _ _) _ _) = w9 at *
        obtain ⟨hz1, hz2, hz3⟩ := hz
        obtain ⟨⟨u0, u1, u2, u3, u4, u5, u6, u7⟩, -⟩ := blk_cells hz1
        exact bodyPost_ret (by simp [results, Tryz.results33, go_sem, u0, u1, u2, u3, u4, u5, u6, u7]) rfl ⟨⟨_, rfl, HSM.out⟩, hz2.mono (by omega), hz3⟩
      · skip
        go_wp2_with fail
        refine (of_new b _ 3 16 [⟨#[]⟩, ⟨#[65]⟩, ⟨#[97, 98, 99, 100, 101, 102, 103, 104, 105, 106, 107]⟩] _ (by first | rfl | simp) (by omega) rfl (by decide) (by decide) (by decide) HS.out.ok).mono ?_
        rintro e w16 ⟨⟨x16, rfl, hx16⟩, hok, hg⟩
        have HT := Lib.hid (HS.out.step hok hg)
        clear hok hg HS
        obtain ⟨⟨-, c1, -, -, -, -, -, -⟩, -, d1, -, -, -, -, -, -⟩ := blk_cells HT.out.F
        go_upto_region 18 with (fail)
        have HU := Lib.hid (HT.out.put_nm x16)
        clear c1 d1 HT
        generalize World.setCell _ _ _ = wu at *
        replace HSM := Lib.hid (show Sm (⟨f.id, x16, f.lo, f.hi, f.wo, f.me, f.co, f.mo⟩ : Kl) from hx16)
        obtain ⟨⟨p0, p1, p2, p3, p4, p5, p6, p7⟩, -⟩ := blk_cells HU.out.F
        obtain ⟨⟨r0, r1, r2, r3, r4, r5, r6, r7⟩, y0, y1, y2, y3, y4, y5, y6, y7⟩ := blk_cells HU.out.R
        have hlg := HU.out.lg
        go_wp2
        clear p0 r0 y0 p1 r1 y1 p2 r2 y2 p3 r3 y3 p4 r4 y4 p5 r5 y5 p6 r6 y6 p7 r7 y7
        have hz := HU.out.fin
        generalize (World.setCell (World.setCell (World.setCell _ _ _) _ _) _ _) = w9 at *
        obtain ⟨hz1, hz2, hz3⟩ := hz
        obtain ⟨⟨u0, u1, u2, u3, u4, u5, u6, u7⟩, -⟩ := blk_cells hz1
        exact bodyPost_ret (by simp [results, Tryz.results33, go_sem, u0, u1, u2, u3, u4, u5, u6, u7]) rfl ⟨⟨_, rfl, HSM.out⟩, hz2.mono (by omega), hz3⟩
      · skip
        obtain ⟨⟨-, -, -, p3, -, -, -, -⟩, -⟩ := blk_cells HS.out.F
        have hwh : IntKind.i64.wrap (f.hi + 1) = f.hi + 1 := IntWalk.i64_in _ (by have := HHI.out; omega)
        go_wp2_with fail
        refine (among_new b _ 2 [-1, f.hi + 1] _ (by first | rfl | simp) (by omega) rfl (by decide) (by decide) HS.out.ok).mono ?_
        rintro e w17 ⟨⟨x17, rfl, -⟩, hok, hg⟩
        have HT := Lib.hid (HS.out.step hok hg)
        clear hok hg HS
        clear p3 hwh
        obtain ⟨⟨-, -, c2, -, -, -, -, -⟩, -, -, d2, -, -, -, -, -⟩ := blk_cells HT.out.F
        go_upto_region 18 with (fail)
        have HU := Lib.hid (HT.out.put_lo x17)
        clear c2 d2 HT
        generalize World.setCell _ _ _ = wu at *
        replace HSM := Lib.hid (show Sm (⟨f.id, f.nm, x17, f.hi, f.wo, f.me, f.co, f.mo⟩ : Kl) from HSM.out)
        obtain ⟨⟨p0, p1, p2, p3, p4, p5, p6, p7⟩, -⟩ := blk_cells HU.out.F
        obtain ⟨⟨r0, r1, r2, r3, r4, r5, r6, r7⟩, y0, y1, y2, y3, y4, y5, y6, y7⟩ := blk_cells HU.out.R
        have hlg := HU.out.lg
        go_wp2
        clear p0 r0 y0 p1 r1 y1 p2 r2 y2 p3 r3 y3 p4 r4 y4 p5 r5 y5 p6 r6 y6 p7 r7 y7
        have hz := HU.out.fin
        generalize (World.setCell (World.setCell (World.setCell _ _ _) _ _) _ _) = w9 at *
        obtain ⟨hz1, hz2, hz3⟩ := hz
        obtain ⟨⟨u0, u1, u2, u3, u4, u5, u6, u7⟩, -⟩ := blk_cells hz1
        exact bodyPost_ret (by simp [results, Tryz.results33, go_sem, u0, u1, u2, u3, u4, u5, u6, u7]) rfl ⟨⟨_, rfl, HSM.out⟩, hz2.mono (by omega), hz3⟩
      · skip
        have HT := HS
        clear HS
        obtain ⟨⟨-, -, -, c3, -, -, -, -⟩, -, -, -, d3, -, -, -, -⟩ := blk_cells HT.out.F
        go_upto_region 18 with (fail)
        have HU := Lib.hid (HT.out.put_hi 121)
        clear c3 d3 HT
        generalize World.setCell _ _ _ = wu at *
        replace HSM := Lib.hid (show Sm (⟨f.id, f.nm, f.lo, 121, f.wo, f.me, f.co, f.mo⟩ : Kl) from HSM.out)
        obtain ⟨⟨p0, p1, p2, p3, p4, p5, p6, p7⟩, -⟩ := blk_cells HU.out.F
        obtain ⟨⟨r0, r1, r2, r3, r4, r5, r6, r7⟩, y0, y1, y2, y3, y4, y5, y6, y7⟩ := blk_cells HU.out.R
        have hlg := HU.out.lg
        go_wp2
        clear p0 r0 y0 p1 r1 y1 p2 r2 y2 p3 r3 y3 p4 r4 y4 p5 r5 y5 p6 r6 y6 p7 r7 y7
        have hz := HU.out.fin
        generalize (World.setCell (World.setCell (World.setCell _ _ _) _ _) _ _) = w9 at *
        obtain ⟨hz1, hz2, hz3⟩ := hz
        obtain ⟨⟨u0, u1, u2, u3, u4, u5, u6, u7⟩, -⟩ := blk_cells hz1
        exact bodyPost_ret (by simp [results, Tryz.results33, go_sem, u0, u1, u2, u3, u4, u5, u6, u7]) rfl ⟨⟨_, rfl, HSM.out⟩, hz2.mono (by omega), hz3⟩
      · skip
        go_wp2_with fail
        refine (among_new b _ 2 [0, 21] _ (by first | rfl | simp) (by omega) rfl (by decide) (by decide) HS.out.ok).mono ?_
        rintro e w18 ⟨⟨x18, rfl, -⟩, hok, hg⟩
        have HT := Lib.hid (HS.out.step hok hg)
        clear hok hg HS
        obtain ⟨⟨-, -, -, -, -, -, c6, -⟩, -, -, -, -, -, -, d6, -⟩ := blk_cells HT.out.F
        go_upto_region 18 with (fail)
        have HU := Lib.hid (HT.out.put_co x18)
        clear c6 d6 HT
        generalize World.setCell _ _ _ = wu at *
        replace HSM := Lib.hid (show Sm (⟨f.id, f.nm, f.lo, f.hi, f.wo, f.me, x18, f.mo⟩ : Kl) from HSM.out)
        obtain ⟨⟨p0, p1, p2, p3, p4, p5, p6, p7⟩, -⟩ := blk_cells HU.out.F
        obtain ⟨⟨r0, r1, r2, r3, r4, r5, r6, r7⟩, y0, y1, y2, y3, y4, y5, y6, y7⟩ := blk_cells HU.out.R
        have hlg := HU.out.lg
        go_wp2
        clear p0 r0 y0 p1 r1 y1 p2 r2 y2 p3 r3 y3 p4 r4 y4 p5 r5 y5 p6 r6 y6 p7 r7 y7
        have hz := HU.out.fin
        generalize (World.setCell (World.setCell (World.setCell _ _ _) _ _) _ _) = w9 at *
        obtain ⟨hz1, hz2, hz3⟩ := hz
        obtain ⟨⟨u0, u1, u2, u3, u4, u5, u6, u7⟩, -⟩ := blk_cells hz1
        exact bodyPost_ret (by simp [results, Tryz.results33, go_sem, u0, u1, u2, u3, u4, u5, u6, u7]) rfl ⟨⟨_, rfl, HSM.out⟩, hz2.mono (by omega), hz3⟩
      · skip
        go_wp2_with fail
        refine (among_new b _ 2 [0, 501] _ (by first | rfl | simp) (by omega) rfl (by decide) (by decide) HS.out.ok).mono ?_
        rintro e w19 ⟨⟨x19, rfl, -⟩, hok, hg⟩
        have HT := Lib.hid (HS.out.step hok hg)
        clear hok hg HS
        obtain ⟨⟨-, -, -, -, -, -, -, c7⟩, -, -, -, -, -, -, -, d7⟩ := blk_cells HT.out.F
        go_upto_region 18 with (fail)
        have HU := Lib.hid (HT.out.put_mo x19)
        clear c7 d7 HT
        generalize World.setCell _ _ _ = wu at *
        replace HSM := Lib.hid (show Sm (⟨f.id, f.nm, f.lo, f.hi, f.wo, f.me, f.co, x19⟩ : Kl) from HSM.out)
        obtain ⟨⟨p0, p1, p2, p3, p4, p5, p6, p7⟩, -⟩ := blk_cells HU.out.F
        obtain ⟨⟨r0, r1, r2, r3, r4, r5, r6, r7⟩, y0, y1, y2, y3, y4, y5, y6, y7⟩ := blk_cells HU.out.R
        have hlg := HU.out.lg
        go_wp2
        clear p0 r0 y0 p1 r1 y1 p2 r2 y2 p3 r3 y3 p4 r4 y4 p5 r5 y5 p6 r6 y6 p7 r7 y7
        have hz := HU.out.fin
        generalize (World.setCell (World.setCell (World.setCell _ _ _) _ _) _ _) = w9 at *
        obtain ⟨hz1, hz2, hz3⟩ := hz
        obtain ⟨⟨u0, u1, u2, u3, u4, u5, u6, u7⟩, -⟩ := blk_cells hz1
        exact bodyPost_ret (by simp [results, Tryz.results33, go_sem, u0, u1, u2, u3, u4, u5, u6, u7]) rfl ⟨⟨_, rfl, HSM.out⟩, hz2.mono (by omega), hz3⟩
      · obtain ⟨q0, q1, q2, q3, q4, q5⟩ := hq
        have e0 : ((x14 : Int) == 0) = false := by simp; omega
        have e1 : ((x14 : Int) == 1) = false := by simp; omega
        have e2 : ((x14 : Int) == 2) = false := by simp; omega
        have e3 : ((x14 : Int) == 3) = false := by simp; omega
        have e4 : ((x14 : Int) == 4) = false := by simp; omega
        have e5 : ((x14 : Int) == 5) = false := by simp; omega
        clear q0 q1 q2 q3 q4 q5
        obtain ⟨⟨p0, p1, p2, p3, p4, p5, p6, p7⟩, -⟩ := blk_cells HS.out.F
        obtain ⟨⟨r0, r1, r2, r3, r4, r5, r6, r7⟩, y0, y1, y2, y3, y4, y5, y6, y7⟩ := blk_cells HS.out.R
        have hlg := HS.out.lg
        go_wp2
        clear p0 r0 y0 p1 r1 y1 p2 r2 y2 p3 r3 y3 p4 r4 y4 p5 r5 y5 p6 r6 y6 p7 r7 y7
        have hz := HS.out.fin
        generalize (World.setCell (World.setCell (World.setCell _ _ _) _ _) _ _) = w9 at *
        obtain ⟨hz1, hz2, hz3⟩ := hz
        obtain ⟨⟨u0, u1, u2, u3, u4, u5, u6, u7⟩, -⟩ := blk_cells hz1
        exact bodyPost_ret (by simp [results, Tryz.results33, go_sem, u0, u1, u2, u3, u4, u5, u6, u7]) rfl ⟨⟨_, rfl, HSM.out⟩, hz2.mono (by omega), hz3⟩
    | false =>
      go_wp2_with fail
      clear p4 p5
      refine (one_any b _ 20 _ (by omega) (by omega) (by omega) HG.out.ok).mono ?_
      rintro e w20 ⟨⟨x20, rfl⟩, hok, hg⟩
      have HH := Lib.hid (HG.out.step hok hg)
      clear hok hg HG
      cases x20 with
      | true =>
        go_upto_region 5 with (fail)
        obtain ⟨f, hf⟩ : ∃ f : Kl, (⟨id, x1, x2, hi, false, false, x5, x6⟩ : Kl) = f := ⟨_, rfl⟩
        have HSM := Lib.hid (show Sm f from by rw [← hf]; exact HNm.out)
        have HHI := Lib.hid (show 0 ≤ f.hi ∧ f.hi ≤ 120 from by rw [← hf]; exact HHIa.out)
        have HX := Lib.hid (hf ▸ HH.out)
        clear hf HH HNm HHIa HLo
        go_wp2_with fail
        refine (pick_any b _ 70 _ (by omega) (by omega) (by omega) HX.out.ok).mono ?_
        rintro e w21 ⟨⟨x21, rfl, -, -⟩, hok, hg⟩
        have HS := Lib.hid (HX.out.step hok hg)
        clear hok hg HX
        have hq : x21 = 0 ∨ x21 = 1 ∨ x21 = 2 ∨ x21 = 3 ∨ x21 = 4 ∨ x21 = 5 ∨ (x21 ≠ 0 ∧ x21 ≠ 1 ∧ x21 ≠ 2 ∧ x21 ≠ 3 ∧ x21 ≠ 4 ∧ x21 ≠ 5) := by omega
        rcases hq with rfl | rfl | rfl | rfl | rfl | rfl | hq
        · skip
          go_wp2_with fail
          refine (among_new b _ 3 [0, 99, 100] _ (by first | rfl | simp) (by omega) rfl (by decide) (by decide) HS.out.ok).mono ?_
          rintro e w22 ⟨⟨x22, rfl, -⟩, hok, hg⟩
          have HT := Lib.hid (HS.out.step hok hg)
          clear hok hg HS
          obtain ⟨⟨c0, -, -, -, -, -, -, -⟩, d0, -, -, -, -, -, -, -⟩ := blk_cells HT.out.F
          go_upto_region 18 with (fail)
          have HU := Lib.hid (HT.out.put_id x22)
          clear c0 d0 HT
          generalize World.setCell _ _ _ = wu at *
          replace HSM := Lib.hid (show Sm (⟨x22, f.nm, f.lo, f.hi, f.wo, f.me, f.co, f.mo⟩ : Kl) from HSM.out)
          obtain ⟨⟨p0, p1, p2, p3, p4, p5, p6, p7⟩, -⟩ := blk_cells HU.out.F
          obtain ⟨⟨r0, r1, r2, r3, r4, r5, r6, r7⟩, y0, y1, y2, y3, y4, y5, y6, y7⟩ := blk_cells HU.out.R
          have hlg := HU.out.lg
          go_wp2
          clear p0 r0 y0 p1 r1 y1 p2 r2 y2 p3 r3 y3 p4 r4 y4 p5 r5 y5 p6 r6 y6 p7 r7 y7
          have hz := HU.out.fin
          generalize (World.setCell (World.setCell (World.setCell _ _ _) _ _) _ _) = w9 at *
          obtain ⟨hz1, hz2, hz3⟩ := hz
          obtain ⟨⟨u0, u1, u2, u3, u4, u5, u6, u7⟩, -⟩ := blk_cells hz1
          exact bodyPost_ret (by simp [results, Tryz.results33, go_sem, u0, u1, u2, u3, u4, u5, u6, u7]) rfl ⟨⟨_, rfl, HSM.out⟩, hz2.mono (by omega), hz3⟩
        · skip
          go_wp2_with fail
          refine (of_new b _ 3 16 [⟨#[]⟩, ⟨#[65]⟩, ⟨#[97, 98, 99, 100, 101, 102, 103, 104, 105, 106, 107]⟩] _ (by first | rfl | simp) (by omega) rfl (by decide) (by decide) (by decide) HS.out.ok).mono ?_
          rintro e w23 ⟨⟨x23, rfl, hx23⟩, hok, hg⟩
          have HT := Lib.hid (HS.out.step hok hg)
          clear hok hg HS
          obtain ⟨⟨-, c1, -, -, -, -, -, -⟩, -, d1, -, -, -, -, -, -⟩ := blk_cells HT.out.F
          go_upto_region 18 with (fail)
          have HU := Lib.hid (HT.out.put_nm x23)
          clear c1 d1 HT
          generalize World.setCell _ _ _ = wu at *
          replace HSM := Lib.hid (show Sm (⟨f.id, x23, f.lo, f.hi, f.wo, f.me, f.co, f.mo⟩ : Kl) from hx23)
          obtain ⟨⟨p0, p1, p2, p3, p4, p5, p6, p7⟩, -⟩ := blk_cells HU.out.F
          obtain ⟨⟨r0, r1, r2, r3, r4, r5, r6, r7⟩, y0, y1, y2, y3, y4, y5, y6, y7⟩ := blk_cells HU.out.R
          have hlg := HU.out.lg
          go_wp2
          clear p0 r0 y0 p1 r1 y1 p2 r2 y2 p3 r3 y3 p4 r4 y4 p5 r5 y5 p6 r6 y6 p7 r7 y7
          have hz := HU.out.fin
          generalize (World.setCell (World.setCell (World.setCell _ _ _) _ _) _ _) = w9 at *
          obtain ⟨hz1, hz2, hz3⟩ := hz
          obtain ⟨⟨u0, u1, u2, u3, u4, u5, u6, u7⟩, -⟩ := blk_cells hz1
          exact bodyPost_ret (by simp [results, Tryz.results33, go_sem, u0, u1, u2, u3, u4, u5, u6, u7]) rfl ⟨⟨_, rfl, HSM.out⟩, hz2.mono (by omega), hz3⟩
        · skip
          obtain ⟨⟨-, -, -, p3, -, -, -, -⟩, -⟩ := blk_cells HS.out.F
          have hwh : IntKind.i64.wrap (f.hi + 1) = f.hi + 1 := IntWalk.i64_in _ (by have := HHI.out; omega)
          go_wp2_with fail
          refine (among_new b _ 2 [-1, f.hi + 1] _ (by first | rfl | simp) (by omega) rfl (by decide) (by decide) HS.out.ok).mono ?_
          rintro e w24 ⟨⟨x24, rfl, -⟩, hok, hg⟩
          have HT := Lib.hid (HS.out.step hok hg)
          clear hok hg HS
          clear p3 hwh
          obtain ⟨⟨-, -, c2, -, -, -, -, -⟩, -, -, d2, -, -, -, -, -⟩ := blk_cells HT.out.F
          go_upto_region 18 with (fail)
          have HU := Lib.hid (HT.out.put_lo x24)
          clear c2 d2 HT
          generalize World.setCell _ _ _ = wu at *
          replace HSM := Lib.hid (show Sm (⟨f.id, f.nm, x24, f.hi, f.wo, f.me, f.co, f.mo⟩ : Kl) from HSM.out)
          obtain ⟨⟨p0, p1, p2, p3, p4, p5, p6, p7⟩, -⟩ := blk_cells HU.out.F
          obtain ⟨⟨r0, r1, r2, r3, r4, r5, r6, r7⟩, y0, y1, y2, y3, y4, y5, y6, y7⟩ := blk_cells HU.out.R
          have hlg := HU.out.lg
          go_wp2
          clear p0 r0 y0 p1 r1 y1 p2 r2 y2 p3 r3 y3 p4 r4 y4 p5 r5 y5 p6 r6 y6 p7 r7 y7
          have hz := HU.out.fin
          generalize (World.setCell (World.setCell (World.setCell _ _ _) _ _) _ _) = w9 at *
          obtain ⟨hz1, hz2, hz3⟩ := hz
          obtain ⟨⟨u0, u1, u2, u3, u4, u5, u6, u7⟩, -⟩ := blk_cells hz1
          exact bodyPost_ret (by simp [results, Tryz.results33, go_sem, u0, u1, u2, u3, u4, u5, u6, u7]) rfl ⟨⟨_, rfl, HSM.out⟩, hz2.mono (by omega), hz3⟩
        · skip
          have HT := HS
          clear HS
          obtain ⟨⟨-, -, -, c3, -, -, -, -⟩, -, -, -, d3, -, -, -, -⟩ := blk_cells HT.out.F
          go_upto_region 18 with (fail)
          have HU := Lib.hid (HT.out.put_hi 121)
          clear c3 d3 HT
          generalize World.setCell _ _ _ = wu at *
          replace HSM := Lib.hid (show Sm (⟨f.id, f.nm, f.lo, 121, f.wo, f.me, f.co, f.mo⟩ : Kl) from HSM.out)
          obtain ⟨⟨p0, p1, p2, p3, p4, p5, p6, p7⟩, -⟩ := blk_cells HU.out.F
          obtain ⟨⟨r0, r1, r2, r3, r4, r5, r6, r7⟩, y0, y1, y2, y3, y4, y5, y6, y7⟩ := blk_cells HU.out.R
          have hlg := HU.out.lg
          go_wp2
          clear p0 r0 y0 p1 r1 y1 p2 r2 y2 p3 r3 y3 p4 r4 y4 p5 r5 y5 p6 r6 y6 p7 r7 y7
          have hz := HU.out.fin
          generalize (World.setCell (World.setCell (World.setCell _ _ _) _ _) _ _) = w9 at *
          obtain ⟨hz1, hz2, hz3⟩ := hz
          obtain ⟨⟨u0, u1, u2, u3, u4, u5, u6, u7⟩, -⟩ := blk_cells hz1
          exact bodyPost_ret (by simp [results, Tryz.results33, go_sem, u0, u1, u2, u3, u4, u5, u6, u7]) rfl ⟨⟨_, rfl, HSM.out⟩, hz2.mono (by omega), hz3⟩
        · skip
          go_wp2_with fail
          refine (among_new b _ 2 [0, 21] _ (by first | rfl | simp) (by omega) rfl (by decide) (by decide) HS.out.ok).mono ?_
          rintro e w25 ⟨⟨x25, rfl, -⟩, hok, hg⟩
          have HT := Lib.hid (HS.out.step hok hg)
          clear hok hg HS
          obtain ⟨⟨-, -, -, -, -, -, c6, -⟩, -, -, -, -, -, -, d6, -⟩ := blk_cells HT.out.F
          go_upto_region 18 with (fail)
          have HU := Lib.hid (HT.out.put_co x25)
          clear c6 d6 HT
          generalize World.setCell _ _ _ = wu at *
          replace HSM := Lib.hid (show Sm (⟨f.id, f.nm, f.lo, f.hi, f.wo, f.me, x25, f.mo⟩ : Kl) from HSM.out)
          obtain ⟨⟨p0, p1, p2, p3, p4, p5, p6, p7⟩, -⟩ := blk_cells HU.out.F
          obtain ⟨⟨r0, r1, r2, r3, r4, r5, r6, r7⟩, y0, y1, y2, y3, y4, y5, y6, y7⟩ := blk_cells HU.out.R
          have hlg := HU.out.lg
          go_wp2
          clear p0 r0 y0 p1 r1 y1 p2 r2 y2 p3 r3 y3 p4 r4 y4 p5 r5 y5 p6 r6 y6 p7 r7 y7
          have hz := HU.out.fin
          generalize (World.setCell (World.setCell (World.setCell _ _ _) _ _) _ _) = w9 at *
          obtain ⟨hz1, hz2, hz3⟩ := hz
          obtain ⟨⟨u0, u1, u2, u3, u4, u5, u6, u7⟩, -⟩ := blk_cells hz1
          exact bodyPost_ret (by simp [results, Tryz.results33, go_sem, u0, u1, u2, u3, u4, u5, u6, u7]) rfl ⟨⟨_, rfl, HSM.out⟩, hz2.mono (by omega), hz3⟩
        · skip
          go_wp2_with fail
          refine (among_new b _ 2 [0, 501] _ (by first | rfl | simp) (by omega) rfl (by decide) (by decide) HS.out.ok).mono ?_
          rintro e w26 ⟨⟨x26, rfl, -⟩, hok, hg⟩
          have HT := Lib.hid (HS.out.step hok hg)
          clear hok hg HS
          obtain ⟨⟨-, -, -, -, -, -, -, c7⟩, -, -, -, -, -, -, -, d7⟩ := blk_cells HT.out.F
          go_upto_region 18 with (fail)
          have HU := Lib.hid (HT.out.put_mo x26)
          clear c7 d7 HT
          generalize World.setCell _ _ _ = wu at *
          replace HSM := Lib.hid (show Sm (⟨f.id, f.nm, f.lo, f.hi, f.wo, f.me, f.co, x26⟩ : Kl) from HSM.out)
          obtain ⟨⟨p0, p1, p2, p3, p4, p5, p6, p7⟩, -⟩ := blk_cells HU.out.F
          obtain ⟨⟨r0, r1, r2, r3, r4, r5, r6, r7⟩, y0, y1, y2, y3, y4, y5, y6, y7⟩ := blk_cells HU.out.R
          have hlg := HU.out.lg
          go_wp2
          clear p0 r0 y0 p1 r1 y1 p2 r2 y2 p3 r3 y3 p4 r4 y4 p5 r5 y5 p6 r6 y6 p7 r7 y7
          have hz := HU.out.fin
          generalize (World.setCell (World.setCell (World.setCell _ _ _) _ _) _ _) = w9 at *
          obtain ⟨hz1, hz2, hz3⟩ := hz
          obtain ⟨⟨u0, u1, u2, u3, u4, u5, u6, u7⟩, -⟩ := blk_cells hz1
          exact bodyPost_ret (by simp [results, Tryz.results33, go_sem, u0, u1, u2, u3, u4, u5, u6, u7]) rfl ⟨⟨_, rfl, HSM.out⟩, hz2.mono (by omega), hz3⟩
        · obtain ⟨q0, q1, q2, q3, q4, q5⟩ := hq
          have e0 : ((x21 : Int) == 0) = false := by simp; omega
          have e1 : ((x21 : Int) == 1) = false := by simp; omega
          have e2 : ((x21 : Int) == 2) = false := by simp; omega
          have e3 : ((x21 : Int) == 3) = false := by simp; omega
          have e4 : ((x21 : Int) == 4) = false := by simp; omega
          have e5 : ((x21 : Int) == 5) = false := by simp; omega
          clear q0 q1 q2 q3 q4 q5
          obtain ⟨⟨p0, p1, p2, p3, p4, p5, p6, p7⟩, -⟩ := blk_cells HS.out.F
          obtain ⟨⟨r0, r1, r2, r3, r4, r5, r6, r7⟩, y0, y1, y2, y3, y4, y5, y6, y7⟩ := blk_cells HS.out.R
          have hlg := HS.out.lg
          go_wp2
          clear p0 r0 y0 p1 r1 y1 p2 r2 y2 p3 r3 y3 p4 r4 y4 p5 r5 y5 p6 r6 y6 p7 r7 y7
          have hz := HS.out.fin
          generalize (World.setCell (World.setCell (World.setCell _ _ _) _ _) _ _) = w9 at *
          obtain ⟨hz1, hz2, hz3⟩ := hz
          obtain ⟨⟨u0, u1, u2, u3, u4, u5, u6, u7⟩, -⟩ := blk_cells hz1
          exact bodyPost_ret (by simp [results, Tryz.results33, go_sem, u0, u1, u2, u3, u4, u5, u6, u7]) rfl ⟨⟨_, rfl, HSM.out⟩, hz2.mono (by omega), hz3⟩
      | false =>
        obtain ⟨⟨-, -, -, -, -, c5, -, -⟩, -, -, -, -, -, d5, -, -⟩ := blk_cells HH.out.F
        go_upto_region 5 with (fail)
        have HJ := Lib.hid (HH.out.put_me true)
        clear c5 d5 HH
        generalize World.setCell _ _ _ = wv at *
        obtain ⟨f, hf⟩ : ∃ f : Kl, (⟨id, x1, x2, hi, false, true, x5, x6⟩ : Kl) = f := ⟨_, rfl⟩
        have HSM := Lib.hid (show Sm f from by rw [← hf]; exact HNm.out)
        have HHI := Lib.hid (show 0 ≤ f.hi ∧ f.hi ≤ 120 from by rw [← hf]; exact HHIa.out)
        have HX := Lib.hid (hf ▸ HJ.out)
        clear hf HJ HNm HHIa HLo
        go_wp2_with fail
        refine (pick_any b _ 70 _ (by omega) (by omega) (by omega) HX.out.ok).mono ?_
        rintro e w27 ⟨⟨x27, rfl, -, -⟩, hok, hg⟩
        have HS := Lib.hid (HX.out.step hok hg)
        clear hok hg HX
        have hq : x27 = 0 ∨ x27 = 1 ∨ x27 = 2 ∨ x27 = 3 ∨ x27 = 4 ∨ x27 = 5 ∨ (x27 ≠ 0 ∧ x27 ≠ 1 ∧ x27 ≠ 2 ∧ x27 ≠ 3 ∧ x27 ≠ 4 ∧ x27 ≠ 5) := by omega
        rcases hq with rfl | rfl | rfl | rfl | rfl | rfl | hq
        · skip
          go_wp2_with fail
          refine (among_new b _ 3 [0, 99, 100] _ (by first | rfl | simp) (by omega) rfl (by decide) (by decide) HS.out.ok).mono ?_
          rintro e w28 ⟨⟨x28, rfl, -⟩, hok, hg⟩
          have HT := Lib.hid (HS.out.step hok hg)
          clear hok hg HS
          obtain ⟨⟨c0, -, -, -, -, -, -, -⟩, d0, -, -, -, -, -, -, -⟩ := blk_cells HT.out.F
          go_upto_region 18 with (fail)
          have HU := Lib.hid (HT.out.put_id x28)
          clear c0 d0 HT
          generalize World.setCell _ _ _ = wu at *
          replace HSM := Lib.hid (show Sm (⟨x28, f.nm, f.lo, f.hi, f.wo, f.me, f.co, f.mo⟩ : Kl) from HSM.out)
          obtain ⟨⟨p0, p1, p2, p3, p4, p5, p6, p7⟩, -⟩ := blk_cells HU.out.F
          obtain ⟨⟨r0, r1, r2, r3, r4, r5, r6, r7⟩, y0, y1, y2, y3, y4, y5, y6, y7⟩ := blk_cells HU.out.R
          have hlg := HU.out.lg
          go_wp2
          clear p0 r0 y0 p1 r1 y1 p2 r2 y2 p3 r3 y3 p4 r4 y4 p5 r5 y5 p6 r6 y6 p7 r7 y7
          have hz := HU.out.fin
          generalize (World.setCell (World.setCell (World.setCell _ _ _) _ _) _ _) = w9 at *
          obtain ⟨hz1, hz2, hz3⟩ := hz
          obtain ⟨⟨u0, u1, u2, u3, u4, u5, u6, u7⟩, -⟩ := blk_cells hz1
          exact bodyPost_ret (by simp [results, Tryz.results33, go_sem, u0, u1, u2, u3, u4, u5, u6, u7]) rfl ⟨⟨_, rfl, HSM.out⟩, hz2.mono (by omega), hz3⟩
        · skip
          go_wp2_with fail
          refine (of_new b _ 3 16 [⟨#[]⟩, ⟨#[65]⟩, ⟨#[97, 98, 99, 100, 101, 102, 103, 104, 105, 106, 107]⟩] _ (by first | rfl | simp) (by omega) rfl (by decide) (by decide) (by decide) HS.out.ok).mono ?_
          rintro e w29 ⟨⟨x29, rfl, hx29⟩, hok, hg⟩
          have HT := Lib.hid (HS.out.step hok hg)
          clear hok hg HS
          obtain ⟨⟨-, c1, -, -, -, -, -, -⟩, -, d1, -, -, -, -, -, -⟩ := blk_cells HT.out.F
          go_upto_region 18 with (fail)
          have HU := Lib.hid (HT.out.put_nm x29)
          clear c1 d1 HT
          generalize World.setCell _ _ _ = wu at *
          replace HSM := Lib.hid (show Sm (⟨f.id, x29, f.lo, f.hi, f.wo, f.me, f.co, f.mo⟩ : Kl) from hx29)
          obtain ⟨⟨p0, p1, p2, p3, p4, p5, p6, p7⟩, -⟩ := blk_cells HU.out.F
          obtain ⟨⟨r0, r1, r2, r3, r4, r5, r6, r7⟩, y0, y1, y2, y3, y4, y5, y6, y7⟩ := blk_cells HU.out.R
          have hlg := HU.out.lg
          go_wp2
          clear p0 r0 y0 p1 r1 y1 p2 r2 y2 p3 r3 y3 p4 r4 y4 p5 r5 y5 p6 r6 y6 p7 r7 y7
          have hz := HU.out.fin
          generalize (World.setCell (World.setCell (World.setCell _ _ _) _ _) _ _) = w9 at *
          obtain ⟨hz1, hz2, hz3⟩ := hz
          obtain ⟨⟨u0, u1, u2, u3, u4, u5, u6, u7⟩, -⟩ := blk_cells hz1
          exact bodyPost_ret (by simp [results, Tryz.results33, go_sem, u0, u1, u2, u3, u4, u5, u6, u7]) rfl ⟨⟨_, rfl, HSM.out⟩, hz2.mono (by omega), hz3⟩
        · skip
          obtain ⟨⟨-, -, -, p3, -, -, -, -⟩, -⟩ := blk_cells HS.out.F
          have hwh : IntKind.i64.wrap (f.hi + 1) = f.hi + 1 := IntWalk.i64_in _ (by have := HHI.out; omega)
          go_wp2_with fail
          refine (among_new b _ 2 [-1, f.hi + 1] _ (by first | rfl | simp) (by omega) rfl (by decide) (by decide) HS.out.ok).mono ?_
          rintro e w30 ⟨⟨x30, rfl, -⟩, hok, hg⟩
          have HT := Lib.hid (HS.out.step hok hg)
          clear hok hg HS
          clear p3 hwh
          obtain ⟨⟨-, -, c2, -, -, -, -, -⟩, -, -, d2, -, -, -, -, -⟩ := blk_cells HT.out.F
          go_upto_region 18 with (fail)
          have HU := Lib.hid (HT.out.put_lo x30)
          clear c2 d2 HT
          generalize World.setCell _ _ _ = wu at *
          replace HSM := Lib.hid (show Sm (⟨f.id, f.nm, x30, f.hi, f.wo, f.me, f.co, f.mo⟩ : Kl) from HSM.out)
          obtain ⟨⟨p0, p1, p2, p3, p4, p5, p6, p7⟩, -⟩ := blk_cells HU.out.F
          obtain ⟨⟨r0, r1, r2, r3, r4, r5, r6, r7⟩, y0, y1, y2, y3, y4, y5, y6, y7⟩ := blk_cells HU.out.R
          have hlg := HU.out.lg
          go_wp2
          clear p0 r0 y0 p1 r1 y1 p2 r2 y2 p3 r3 y3 p4 r4 y4 p5 r5 y5 p6 r6 y6 p7 r7 y7
          have hz := HU.out.fin
          generalize (World.setCell (World.setCell (World.setCell _ _ _) _ _) _ _) = w9 at *
          obtain ⟨hz1, hz2, hz3⟩ := hz
          obtain ⟨⟨u0, u1, u2, u3, u4, u5, u6, u7⟩, -⟩ := blk_cells hz1
          exact bodyPost_ret (by simp [results, Tryz.results33, go_sem, u0, u1, u2, u3, u4, u5, u6, u7]) rfl ⟨⟨_, rfl, HSM.out⟩, hz2.mono (by omega), hz3⟩
        · skip
          have HT := HS
          clear HS
          obtain ⟨⟨-, -, -, c3, -, -, -, -⟩, -, -, -, d3, -, -, -, -⟩ := blk_cells HT.out.F
          go_upto_region 18 with (fail)
          have HU := Lib.hid (HT.out.put_hi 121)
          clear c3 d3 HT
          generalize World.setCell _ _ _ = wu at *
          replace HSM := Lib.hid (show Sm (⟨f.id, f.nm, f.lo, 121, f.wo, f.me, f.co, f.mo⟩ : Kl) from HSM.out)
          obtain ⟨⟨p0, p1, p2, p3, p4, p5, p6, p7⟩, -⟩ := blk_cells HU.out.F
          obtain ⟨⟨r0, r1, r2, r3, r4, r5, r6, r7⟩, y0, y1, y2, y3, y4, y5, y6, y7⟩ := blk_cells HU.out.R
          have hlg := HU.out.lg
          go_wp2
          clear p0 r0 y0 p1 r1 y1 p2 r2 y2 p3 r3 y3 p4 r4 y4 p5 r5 y5 p6 r6 y6 p7 r7 y7
          have hz := HU.out.fin
          generalize (World.setCell (World.setCell (World.setCell _ _ _) _ _) _ _) = w9 at *
          obtain ⟨hz1, hz2, hz3⟩ := hz
          obtain ⟨⟨u0, u1, u2, u3, u4, u5, u6, u7⟩, -⟩ := blk_cells hz1
          exact bodyPost_ret (by simp [results, Tryz.results33, go_sem, u0, u1, u2, u3, u4, u5, u6, u7]) rfl ⟨⟨_, rfl, HSM.out⟩, hz2.mono (by omega), hz3⟩
        · skip
          go_wp2_with fail
          refine (among_new b _ 2 [0, 21] _ (by first | rfl | simp) (by omega) rfl (by decide) (by decide) HS.out.ok).mono ?_
          rintro e w31 ⟨⟨x31, rfl, -⟩, hok, hg⟩
          have HT := Lib.hid (HS.out.step hok hg)
          clear hok hg HS
          obtain ⟨⟨-, -, -, -, -, -, c6, -⟩, -, -, -, -, -, -, d6, -⟩ := blk_cells HT.out.F
          go_upto_region 18 with (fail)
          have HU := Lib.hid (HT.out.put_co x31)
          clear c6 d6 HT
          generalize World.setCell _ _ _ = wu at *
          replace HSM := Lib.hid (show Sm (⟨f.id, f.nm, f.lo, f.hi, f.wo, f.me, x31, f.mo⟩ : Kl) from HSM.out)
          obtain ⟨⟨p0, p1, p2, p3, p4, p5, p6, p7⟩, -⟩ := blk_cells HU.out.F
          obtain ⟨⟨r0, r1, r2, r3, r4, r5, r6, r7⟩, y0, y1, y2, y3, y4, y5, y6, y7⟩ := blk_cells HU.out.R
          have hlg := HU.out.lg
          go_wp2
          clear p0 r0 y0 p1 r1 y1 p2 r2 y2 p3 r3 y3 p4 r4 y4 p5 r5 y5 p6 r6 y6 p7 r7 y7
          have hz := HU.out.fin
          generalize (World.setCell (World.setCell (World.setCell _ _ _) _ _) _ _) = w9 at *
          obtain ⟨hz1, hz2, hz3⟩ := hz
          obtain ⟨⟨u0, u1, u2, u3, u4, u5, u6, u7⟩, -⟩ := blk_cells hz1
          exact bodyPost_ret (by simp [results, Tryz.results33, go_sem, u0, u1, u2, u3, u4, u5, u6, u7]) rfl ⟨⟨_, rfl, HSM.out⟩, hz2.mono (by omega), hz3⟩
        · skip
          go_wp2_with fail
          refine (among_new b _ 2 [0, 501] _ (by first | rfl | simp) (by omega) rfl (by decide) (by decide) HS.out.ok).mono ?_
          rintro e w32 ⟨⟨x32, rfl, -⟩, hok, hg⟩
          have HT := Lib.hid (HS.out.step hok hg)
          clear hok hg HS
          obtain ⟨⟨-, -, -, -, -, -, -, c7⟩, -, -, -, -, -, -, -, d7⟩ := blk_cells HT.out.F
          go_upto_region 18 with (fail)
          have HU := Lib.hid (HT.out.put_mo x32)
          clear c7 d7 HT
          generalize World.setCell _ _ _ = wu at *
          replace HSM := Lib.hid (show Sm (⟨f.id, f.nm, f.lo, f.hi, f.wo, f.me, f.co, x32⟩ : Kl) from HSM.out)
          obtain ⟨⟨p0, p1, p2, p3, p4, p5, p6, p7⟩, -⟩ := blk_cells HU.out.F
          obtain ⟨⟨r0, r1, r2, r3, r4, r5, r6, r7⟩, y0, y1, y2, y3, y4, y5, y6, y7⟩ := blk_cells HU.out.R
          have hlg := HU.out.lg
          go_wp2
          clear p0 r0 y0 p1 r1 y1 p2 r2 y2 p3 r3 y3 p4 r4 y4 p5 r5 y5 p6 r6 y6 p7 r7 y7
          have hz := HU.out.fin
          generalize (World.setCell (World.setCell (World.setCell _ _ _) _ _) _ _) = w9 at *
          obtain ⟨hz1, hz2, hz3⟩ := hz
          obtain ⟨⟨u0, u1, u2, u3, u4, u5, u6, u7⟩, -⟩ := blk_cells hz1
          exact bodyPost_ret (by simp [results, Tryz.results33, go_sem, u0, u1, u2, u3, u4, u5, u6, u7]) rfl ⟨⟨_, rfl, HSM.out⟩, hz2.mono (by omega), hz3⟩
        · obtain ⟨q0, q1, q2, q3, q4, q5⟩ := hq
          have e0 : ((x27 : Int) == 0) = false := by simp; omega
          have e1 : ((x27 : Int) == 1) = false := by simp; omega
          have e2 : ((x27 : Int) == 2) = false := by simp; omega
          have e3 : ((x27 : Int) == 3) = false := by simp; omega
          have e4 : ((x27 : Int) == 4) = false := by simp; omega
          have e5 : ((x27 : Int) == 5) = false := by simp; omega
          clear q0 q1 q2 q3 q4 q5
          obtain ⟨⟨p0, p1, p2, p3, p4, p5, p6, p7⟩, -⟩ := blk_cells HS.out.F
          obtain ⟨⟨r0, r1, r2, r3, r4, r5, r6, r7⟩, y0, y1, y2, y3, y4, y5, y6, y7⟩ := blk_cells HS.out.R
          have hlg := HS.out.lg
          go_wp2
          clear p0 r0 y0 p1 r1 y1 p2 r2 y2 p3 r3 y3 p4 r4 y4 p5 r5 y5 p6 r6 y6 p7 r7 y7
          have hz := HS.out.fin
          generalize (World.setCell (World.setCell (World.setCell _ _ _) _ _) _ _) = w9 at *
          obtain ⟨hz1, hz2, hz3⟩ := hz
          obtain ⟨⟨u0, u1, u2, u3, u4, u5, u6, u7⟩, -⟩ := blk_cells hz1
          exact bodyPost_ret (by simp [results, Tryz.results33, go_sem, u0, u1, u2, u3, u4, u5, u6, u7]) rfl ⟨⟨_, rfl, HSM.out⟩, hz2.mono (by omega), hz3⟩
end Go.Proofs.YtleoljnofdajfaaGreatDoor.KlDo

namespace Go.Proofs.YtleoljnofdajfaaGreatDoor.KlLs
open Go.RowKit Lb Bk Cur KlK KlI KaG KlDr
open KaA (goodB)
set_option linter.unusedSimpArgs false
set_option linter.unusedVariables false

theorem sm_is {f : Kl} (h : KlDo.Sm f) : Is f := ⟨by have : f.nm.size ≤ 16 := h; unfold maxLen; omega⟩
theorem all_at (fs : List Kl) : (∀ i, i < fs.length → Is (at_ fs i)) ↔ ∀ r ∈ fs, Is r := by
  constructor
  · intro h r hr
    obtain ⟨i, hi, rfl⟩ := List.mem_iff_getElem.1 hr
    rw [← at_lt hi]
    exact h i hi
  · intro h i hi
    rw [at_lt hi]
    exact h _ (List.getElem_mem hi)
theorem app_is {fs : List Kl} {x : Kl} (h : ∀ i, i < fs.length → Is (at_ fs i)) (hx : Is x) : ∀ i, i < (fs ++ [x]).length → Is (at_ (fs ++ [x]) i) := by
  rw [all_at] at h ⊢
  intro r hr
  rcases List.mem_append.1 hr with h1 | h1
  · exact h r h1
  · obtain rfl : r = x := by simpa using h1
    exact hx
theorem nil_is : ∀ i, i < ([] : List Kl).length → Is (at_ [] i) := fun i hi => absurd hi (Nat.not_lt_zero _)
theorem own_some {w : World} {base n : Nat} {v : Value} {fs : List Kl} (h : Own w base v fs) (hn : fs.length = n) (h0 : 0 < n) : ∃ B cap, v = .slice (some ⟨B, 0, none⟩) n cap := by
  unfold Own at h
  rcases h.2 with ⟨_, h1⟩ | ⟨g, cap, cur, hv, _⟩
  · omega
  · exact ⟨g, cap, by rw [hv, hn]⟩
/-- A list of its own in the other's place. -/
theorem Rl.comb {w W W' : World} {b m m' : Nat} {v v' : Value} {fs fs' : List Kl} (h : Rl w W b m v fs) (n : Rl W W' b m' v' fs') : Rl w W' b m' v' fs' := ⟨n.ok, h.lb, gtrans h.G n.G, n.L.rebase h.G.size⟩
def nmD (n : Nat) : ByteArray := strOfNums [97 + (n : Int)]
def clD (n : Nat) : Kl := ⟨(n : Int) + 1, nmD n, 0, 100, false, true, 1, 5⟩
theorem nm_size (n : Nat) : (nmD n).size = 1 := strOfNums_size _
theorem clD_is (n : Nat) : Is (clD n) := ⟨show (nmD n).size ≤ maxLen from by rw [nm_size]; decide⟩

set_option maxRecDepth 20000 in
set_option maxHeartbeats 4000000 in
theorem classes_any (b m : Nat) (w : World) (hm : m ≤ 1152921504606830000) (hok : Ok w b m) :
    Calls Tryz.prog 67 #[.pointer (some ⟨b, 0, none⟩)] w fun e w' => ∃ v fs, e = .returned v ∧ fs.length ≤ 9 ∧ (∀ i, i < fs.length → Is (at_ fs i)) ∧ Rl w w' b (m + 900) v fs := by
  obtain ⟨t0, hi0, hz0, hz1, hz2⟩ := info_parts info
  have H0 := Lib.hid (Rl.start hok)
  clear hok
  go_enter Tryz.func67, Tryz.ntmps67
  go_wp2_with fail
  refine (pick_any b m 8 _ (by omega) (by omega) (by omega) H0.out.ok).mono ?_
  rintro e w1 ⟨⟨N, rfl, _, hN'⟩, hok, hg⟩
  have hN : N ≤ 7 := by omega
  have H1 := Lib.hid (H0.out.step hok hg)
  clear hok hg hN' H0
  go_wp2_with fail
  go_loopg [3, 4, 5, 6] N (fun gk v s n _ wr => ∃ (k : Nat) (z : Int) (fs : List Kl) (B cap : Nat), k ≤ 7 ∧ gk = k ∧ n = .int .i64 k ∧ s = .int .i64 z ∧ fs.length + k ≤ 7 ∧ v = .slice (some ⟨B, 0, none⟩) fs.length cap ∧ Aside (∀ i, i < fs.length → Is (at_ fs i)) ∧ Rl w wr b (m + 2 + 60 * (7 - k)) v fs)
  case atStart => exact ⟨N, 0, [], _, 0, hN, rfl, rfl, rfl, by simp; omega, rfl, (nil_is : ∀ i, i < ([] : List Kl).length → Is (at_ [] i)), H1.out.mono (by omega)⟩
  case round =>
    obtain ⟨k, z, fs, B, cap, hk, hgk, rfl, rfl, hfl, rfl, I, hF⟩ := hrel
    have H2 := Lib.hid hF
    clear hF H1
    by_cases hlt : 0 < k
    · have hlt' : (0 : Int) < (k : Int) := by omega
      have hwr : IntKind.i64.wrap ((k : Int) - 1) = (k : Int) - 1 := IntWalk.i64_in _ (by omega)
      go_wp2_with fail
      refine (pick_any b _ 3 _ (by omega) (by omega) (by omega) H2.out.ok).mono ?_
      rintro e w3 ⟨⟨p, rfl, _, _⟩, hok, hg⟩
      have H3 := Lib.hid (H2.out.step hok hg)
      clear hok hg H2
      have hbl := (Below.refl w3.heap.size w3).alloc (Nat.le_refl _) (.cells #[] 25)
      have HBl := Lib.hid hbl
      have hrow := Own.row H3.out.L
      have HNw := Lib.hid (Row.news (hrow.later hbl))
      have hown := Own.empty w3
      unfold Own at hown
      obtain ⟨q, hq⟩ : ∃ q, fs.length = q := ⟨_, rfl⟩
      have HQ := Lib.hid hq
      have hcl : (cells fs).length = q * 8 := by rw [cells_len, hq]
      rw [hq] at hfl ⊢
      clear hbl hrow hq
      go_wp2_with (at_builtin; (refine wpList_append_own _ rfl (.tmp 20) (.tmp 21) 33 rfl w3.heap.size 25 t0 (.agg #[.int .i64 no.id, .string no.nm, .int .i64 no.lo, .int .i64 no.hi, .bool no.wo, .bool no.me, .int .i64 no.co, .int .i64 no.mo]) 8 64 Tryz.underlying33 hi0 hz0 hz1 hz2 rfl (by decide) _ 0 _ rfl hown ⟨B, 0, none⟩ q cap (cells fs) rfl hcl HNw.out (cells_one fs) (by unfold maxLen; omega) (by omega) HBl.out.size ?_; intro v' w3' hown3 hgr3 _; have HO := Lib.hid (show Own w3' w3.heap.size v' ([] ++ fs) from Own.cat rfl HQ.out hown3); have HB3 := Lib.hid (HBl.out.grown (show World.grownBy _ w3' (some w3.heap.size) from hgr3) HBl.out.size (fun q e => by cases e; exact Nat.le_refl _)); clear hown3 hgr3))
      have N1 := Lib.hid (show Rl w3 w3' b _ v' fs from ⟨H3.out.ok.below HB3.out, H3.out.ok.lt, gbelow HB3.out _, HO.out⟩)
      clear HB3 HO hcl HNw HBl hown
      go_wp2_with fail
      refine (KlDo.class_any b _ _ _ (by omega) N1.out.ok).mono ?_
      rintro e w4 ⟨⟨x, rfl, hx⟩, hok, hg⟩
      have N2 := Lib.hid (N1.out.step hok hg)
      have HX := Lib.hid (sm_is hx)
      clear hok hg N1 hx
      have hown := N2.out.L
      unfold Own at hown
      rw [HQ.out] at hown
      have HTa := Lib.hid (N2.out.below ((Below.refl _ _).alloc (Nat.le_refl _) (.cells #[.int .i64 x.id, .string x.nm, .int .i64 x.lo, .int .i64 x.hi, .bool x.wo, .bool x.me, .int .i64 x.co, .int .i64 x.mo] 25)))
      have hsz := N2.out.G.size
      go_wp2_with (at_builtin; (refine wpList_append_own _ rfl (.tmp 22) (.tmp 26) 33 rfl w3.heap.size 25 t0 (.agg #[.int .i64 no.id, .string no.nm, .int .i64 no.lo, .int .i64 no.hi, .bool no.wo, .bool no.me, .int .i64 no.co, .int .i64 no.mo]) 8 64 Tryz.underlying33 hi0 hz0 hz1 hz2 rfl (by decide) _ q _ rfl (hown.alloc _) ⟨_, 0, none⟩ 1 1 (cells [x]) rfl rfl (World.news_of_block (Blk.new _ _ _)) (cells_one [x]) (by unfold maxLen; omega) (by omega) (by simp; omega) ?_; intro v' w3' hown3 hgr3 _; have HP := Lib.hid (HTa.out.put x (by rw [HQ.out]; exact hown3) hgr3); clear hown3 hgr3))
      have hlen : (fs ++ [x]).length = q + 1 := by rw [List.length_append, HQ.out]; rfl
      have HIs := Lib.hid (app_is I.out HX.out)
      obtain ⟨B2, cap2, rfl⟩ := own_some HP.out.L hlen (Nat.succ_pos _)
      obtain ⟨gs, hgs⟩ : ∃ gs, fs ++ [x] = gs := ⟨_, rfl⟩
      rw [hgs] at HP HIs hlen
      have HGs := Lib.hid hlen
      obtain ⟨gb, hgb⟩ : ∃ gb, goodB gs = gb := ⟨_, rfl⟩
      have cg := Lib.hid (fun w hr => hgb ▸ good_any (some ⟨B2, 0, none⟩) cap2 gs w hr HIs.out (by rw [HGs.out]; unfold maxLen; omega))
      rw [hlen] at cg
      clear N2 HTa hown hsz hgs hlen hgb HX
      have hrw2 := Lib.hid (show Row _ (some ⟨B2, 0, none⟩) gs from by
        have h := HP.out.L
        rw [← HGs.out] at h
        exact Own.row h)
      go_wp2_with fail
      refine (cg.out _ hrw2.out).mono ?_
      rintro e w5 ⟨rfl, hb⟩
      have HP5 := Lib.hid (HP.out.below hb)
      clear hb HP cg hrw2
      cases gb with
      | true =>
        go_wp2
        go_roundg (k - 1)
        case measure => omega
        case rel => exact ⟨k - 1, _, gs, B2, cap2, by omega, rfl, by go_num, rfl, by rw [HGs.out]; omega, by rw [HGs.out], HIs.out, (Rl.comb H3.out HP5.out).mono (by omega)⟩
      | false =>
        go_wp2_with fail
        refine (one_any b _ 40 _ (by omega) (by omega) (by omega) HP5.out.ok).mono ?_
        rintro e w6 ⟨⟨tt, rfl⟩, hok, hg⟩
        have HP6 := Lib.hid (HP5.out.step hok hg)
        clear hok hg HP5
        cases tt with
        | true =>
          go_wp2
          go_roundg (k - 1)
          case measure => omega
          case rel => exact ⟨k - 1, _, gs, B2, cap2, by omega, rfl, by go_num, rfl, by rw [HGs.out]; omega, by rw [HGs.out], HIs.out, (Rl.comb H3.out HP6.out).mono (by omega)⟩
        | false =>
          go_wp2
          go_roundg (k - 1)
          case measure => omega
          case rel => exact ⟨k - 1, _, fs, B, cap, by omega, rfl, by go_num, rfl, by rw [HQ.out]; omega, by rw [HQ.out], I.out, by
            have h := (H3.out.step HP6.out.ok HP6.out.G).mono (show _ ≤ m + 2 + 60 * (7 - (k - 1)) by omega)
            rw [HQ.out] at h
            exact h⟩
    · have hk0 : k = 0 := by omega
      subst hk0
      go_wp2_with fail
      refine (one_any b _ 24 _ (by omega) (by omega) (by omega) H2.out.ok).mono ?_
      rintro e w3 ⟨⟨tt, rfl⟩, hok, hg⟩
      have H3 := Lib.hid (H2.out.step hok hg)
      clear hok hg H2
      cases tt with
      | false =>
        go_wp2
        go_ret
        exact ⟨_, fs, rfl, by omega, I.out, H3.out.mono (by omega)⟩
      | true =>
        have H4 := Lib.hid H3.out.new
        have hmm : 60 * (7 - 0) = 420 := rfl
        clear H3 I hfl
        go_wp2_with fail
        go_loopg [3, 7] 10 (fun gk v s wr => ∃ ps : List Kl, ps.length ≤ 9 ∧ gk = 10 - ps.length ∧ s = .int .i64 ps.length ∧ Aside (∀ i, i < ps.length → Is (at_ ps i)) ∧ Rl w wr b (m + 430 + 2 * ps.length) v ps)
        case atStart => exact ⟨[], Nat.zero_le _, rfl, rfl, (nil_is : ∀ i, i < ([] : List Kl).length → Is (at_ [] i)), H4.out.mono (by omega)⟩
        case round =>
          clear H4
          obtain ⟨ps, hps, hgk, rfl, I, hF⟩ := hrel
          obtain ⟨pa, pc, rfl, -, -⟩ := hF.L.slice
          have H5 := Lib.hid hF
          clear hF
          go_wp2_with fail
          refine (pick_any b _ 2 _ (by omega) (by omega) (by omega) H5.out.ok).mono ?_
          rintro e w5 ⟨⟨q, rfl, _, hq'⟩, hok, hg⟩
          have hq : q ≤ 1 := by omega
          have H6 := Lib.hid (H5.out.step hok hg)
          clear hok hg hq' H5
          have hwr : IntKind.i64.wrap (8 + (q : Int)) = 8 + q := IntWalk.i64_in _ (by omega)
          obtain ⟨n, hn⟩ : ∃ n, ps.length = n := ⟨_, rfl⟩
          have HNn := Lib.hid hn
          have hown := H6.out.L
          unfold Own at hown
          rw [hn] at hps hgk hown ⊢
          clear hn
          by_cases hlt : n < 8 + q
          · have hlt' : (n : Int) < 8 + (q : Int) := by omega
            have hw2 : IntKind.i64.wrap (97 + (n : Int)) = 97 + n := IntWalk.i64_in _ (by omega)
            have hw3 : IntKind.i64.wrap ((n : Int) + 1) = n + 1 := IntWalk.i64_in _ (by omega)
            have hcv := run_convert_bytes_arg (P := Tryz.prog) (w5.alloc (.cells #[.int .u8 (97 + (n : Int))] 5)) 22 5 Tryz.underlying22 Tryz.underlying5 w5.heap.size 0 1 1 [97 + (n : Int)] rfl (by
              intro i hi
              obtain rfl : i = 0 := by omega
              simp) 9 Tryz.underlying9
            have hD : strOfNums [97 + (n : Int)] = nmD n := rfl
            rw [hD] at hcv
            have hz' := nm_size n
            have HTa := Lib.hid (H6.out.below (((Below.refl _ _).alloc (Nat.le_refl _) (.cells #[.int .u8 (97 + (n : Int))] 5)).alloc (by simp) (.cells #[.int .i64 ((n : Int) + 1), .string (nmD n), .int .i64 0, .int .i64 100, .bool false, .bool true, .int .i64 1, .int .i64 5] 25)))
            have hsz := H6.out.G.size
            have hnb := Blk.new (w5.alloc (.cells #[.int .u8 (97 + (n : Int))] 5)) 25 #[.int .i64 ((n : Int) + 1), .string (nmD n), .int .i64 0, .int .i64 100, .bool false, .bool true, .int .i64 1, .int .i64 5]
            rw [World.size_alloc] at hnb
            have HI := Lib.hid (app_is (x := clD n) I.out (clD_is n))
            go_wp2_with (at_builtin; (refine wpList_append_own _ rfl (.tmp 45) (.tmp 54) 33 rfl w.heap.size 25 t0 (.agg #[.int .i64 no.id, .string no.nm, .int .i64 no.lo, .int .i64 no.hi, .bool no.wo, .bool no.me, .int .i64 no.co, .int .i64 no.mo]) 8 64 Tryz.underlying33 hi0 hz0 hz1 hz2 rfl (by decide) _ n _ rfl ((hown.alloc _).alloc _) ⟨_, 0, none⟩ 1 1 [.int .i64 ((n : Int) + 1), .string (nmD n), .int .i64 0, .int .i64 100, .bool false, .bool true, .int .i64 1, .int .i64 5] rfl rfl (World.news_of_block hnb) (cells_one [clD n]) (by unfold maxLen; omega) (by omega) (by simp; omega) ?_; intro v' w3' hown3 hgr3 _; have HP := Lib.hid (HTa.out.put (clD n) (by rw [HNn.out]; exact hown3) (by rw [HNn.out]; exact hgr3)); clear hown3 hgr3))
            go_roundg (10 - (n + 1))
            case measure => omega
            case rel => exact ⟨ps ++ [clD n], by simp [HNn.out]; omega, by simp [HNn.out], by simp [HNn.out], HI.out, by
              have h1 := HP.out
              clear hwr hw2 hw3 hcv
              rw [List.length_append, HNn.out]
              have hnn := HNn.out
              exact h1.mono (by show _ ≤ m + 430 + 2 * (n + 1); omega)⟩
          · have hlt' : ¬ (n : Int) < 8 + (q : Int) := by omega
            go_wp2
            go_ret
            exact ⟨_, ps, rfl, by rw [HNn.out]; omega, I.out, by
              have h1 := H6.out
              rw [HNn.out] at h1
              have hnn := HNn.out
              exact h1.mono (by omega)⟩

end Go.Proofs.YtleoljnofdajfaaGreatDoor.KlLs

namespace Go.Proofs.YtleoljnofdajfaaGreatDoor.KlDl
open Go.RowKit Lb Bk Cur KlK KlDr CodB
set_option linter.unusedSimpArgs false
set_option linter.unusedVariables false

/-- A list that was drawn. -/
structure Lst (w W : World) (v : Value) (fs : List Kl) : Prop where
  le : fs.length ≤ 9
  is : ∀ i, i < fs.length → Is (at_ fs i)
  own : Own W w.heap.size v fs
  B : Below w.heap.size w W
theorem Lst.of {w w1 W : World} {b m : Nat} {v : Value} {fs : List Kl} (hle : fs.length ≤ 9) (his : ∀ i, i < fs.length → Is (at_ fs i)) (h : Rl w1 W b m v fs) (hb : Below w.heap.size w w1) (hw : w.heap.size ≤ b) : Lst w W v fs :=
  ⟨hle, his, h.L.rebase hb.size, hb.trans ⟨h.G.os, h.G.tape, h.G.output, h.G.size, fun k hk => h.G.block k (Nat.lt_of_lt_of_le hk hb.size) (fun e => by cases e; omega)⟩⟩
theorem Lst.step {w W W' : World} {b : Nat} {v : Value} {fs : List Kl} (h : Lst w W v fs) (hg : W.grownBy W' (some b)) (hw : w.heap.size ≤ b) (hv : v.ownBlock ≠ some b) : Lst w W' v fs :=
  ⟨h.le, h.is, World.ownsRow.kept h.own hg (.inr hv), h.B.grown hg h.B.size (fun k e => by cases e; exact hw)⟩
theorem Lst.drew {w W : World} {v : Value} {fs : List Kl} (h : Lst w W v fs) : Lst w W.drew v fs := ⟨h.le, h.is, h.own.below (Below.refl _ _).drew, h.B.trans ((Below.refl _ _).drew.mono h.B.size)⟩
theorem ru_rebase {w : World} {b b' : Nat} {v : Value} {rs : List Ru} (h : RuK.Own w b v rs) (hb : b' ≤ b) : RuK.Own w b' v rs := h.rebase hb

end Go.Proofs.YtleoljnofdajfaaGreatDoor.KlDl
