/- The drawing of lists of classes and what goes with them. -/
import Derived.Test.YtleoljnofdajfaaRuM
import Derived.Test.YtleoljnofdajfaaCurA
import Derived.Deep.AppendLies
import Derived.RegionTactic
import Derived.OwnWalk
import Derived.Deep.CutRange
import Derived.Deep.DeepCutAuto
import Derived.Test.YtleoljnofdajfaaAdS
import Derived.Test.YtleoljnofdajfaaKlM
import Derived.IntWalk
import Derived.Deep.RegionHeld3
import Derived.Test.YtleoljnofdajfaaKlN
import Derived.Test.YtleoljnofdajfaaKaG
import Derived.Test.YtleoljnofdajfaaCodB
namespace Go.Proofs.Ytleoljnofdajfaa.RuDr
open Go.RowKit Lb Bk Cur RuK
set_option linter.unusedSimpArgs false
set_option linter.unusedVariables false
variable {w W W' : World} {b m m' g : Nat} {f : Ru}

theorem blk_grown {t : TypeId} {cs : Array Value} {r : Option Nat} (h : Blk w g t cs) (hg : w.grownBy W r) (hr : r ≠ some g) : Blk W g t cs := (hg.block g h.lt (fun e => hr e.symm)).trans h
/-- The box of the answer, the reader. -/
structure Rd (w W : World) (b m : Nat) : Prop where
  R : Blk W w.heap.size 37 #[.int .i64 no.id, .string no.nm, .string no.cl, .int .i64 no.bo, .bool no.wo, .int .i64 no.ca]
  ok : Ok W b m
  G : w.grownBy W (some b)
  lt : b < w.heap.size
theorem Rd.start (h : Ok w b m) : Rd w (w.alloc (.cells #[.int .i64 no.id, .string no.nm, .string no.cl, .int .i64 no.bo, .bool no.wo, .int .i64 no.ca] 37)) b m :=
  ⟨Blk.new _ _ _, h.below ((Below.refl _ _).alloc (Nat.le_refl _) _), gbelow ((Below.refl _ _).alloc (Nat.le_refl _) _) _, h.lt⟩
theorem Rd.below (h : Rd w W b m) (hb : Below W.heap.size W W') : Rd w W' b m := ⟨h.R.later hb, h.ok.below hb, gtrans h.G (gbelow hb _), h.lt⟩
theorem Rd.step (h : Rd w W b m) (ho : Ok W' b m') (hg : W.grownBy W' (some b)) : Rd w W' b m' := ⟨blk_grown h.R hg (fun e => by have := h.lt; cases e; omega), ho, gtrans h.G hg, h.lt⟩
theorem Rd.mono (h : Rd w W b m) (hm : m ≤ m') : Rd w W b m' := ⟨h.R, h.ok.mono hm, h.G, h.lt⟩
theorem Rd.drew (h : Rd w W b m) : Rd w W.drew b m := h.below (Below.refl _ _).drew
/-- .. and the new one. -/
structure Re (w W : World) (b m g : Nat) (f : Ru) : Prop extends Rd w W b m where
  F : Blk W g 37 #[.int .i64 f.id, .string f.nm, .string f.cl, .int .i64 f.bo, .bool f.wo, .int .i64 f.ca]
  lg : w.heap.size < g
theorem Re.start (h : Rd w W b m) (f : Ru) : Re w (W.alloc (.cells #[.int .i64 f.id, .string f.nm, .string f.cl, .int .i64 f.bo, .bool f.wo, .int .i64 f.ca] 37)) b m W.heap.size f := ⟨h.below ((Below.refl _ _).alloc (Nat.le_refl _) _), Blk.new _ _ _, h.R.lt⟩
theorem Re.below (h : Re w W b m g f) (hb : Below W.heap.size W W') : Re w W' b m g f := ⟨h.toRd.below hb, h.F.later hb, h.lg⟩
theorem Re.drew (h : Re w W b m g f) : Re w W.drew b m g f := ⟨h.toRd.drew, h.F, h.lg⟩
theorem Re.mono (h : Re w W b m g f) (hm : m ≤ m') : Re w W b m' g f := ⟨h.toRd.mono hm, h.F, h.lg⟩
theorem Re.step (h : Re w W b m g f) (ho : Ok W' b m') (hg : W.grownBy W' (some b)) : Re w W' b m' g f :=
  ⟨h.toRd.step ho hg, blk_grown h.F hg (fun e => by have := h.lt; have := h.lg; cases e; omega), h.lg⟩
theorem Re.put_id (h : Re w W b m g f) (x : Int) : Re w (W.setCell ⟨g, 0, none⟩ (.int .i64 x)) b m g ⟨x, f.nm, f.cl, f.bo, f.wo, f.ca⟩ := by
  have hb : Below (w.heap.size + 1) W (W.setCell ⟨g, 0, none⟩ (.int .i64 x)) := (Below.refl _ _).setCell (p := ⟨g, 0, none⟩) h.lg _
  exact ⟨⟨h.R.below hb (Nat.lt_succ_self _), ok_belowB h.ok hb (Nat.lt_succ_of_lt h.lt), grown_B h.G hb (Nat.le_succ _), h.lt⟩, by simpa using Blk.set_ h.F 0 (.int .i64 x), h.lg⟩
theorem Re.put_nm (h : Re w W b m g f) (x : ByteArray) : Re w (W.setCell ⟨g, 1, none⟩ (.string x)) b m g ⟨f.id, x, f.cl, f.bo, f.wo, f.ca⟩ := by
  have hb : Below (w.heap.size + 1) W (W.setCell ⟨g, 1, none⟩ (.string x)) := (Below.refl _ _).setCell (p := ⟨g, 1, none⟩) h.lg _
  exact ⟨⟨h.R.below hb (Nat.lt_succ_self _), ok_belowB h.ok hb (Nat.lt_succ_of_lt h.lt), grown_B h.G hb (Nat.le_succ _), h.lt⟩, by simpa using Blk.set_ h.F 1 (.string x), h.lg⟩
theorem Re.put_cl (h : Re w W b m g f) (x : ByteArray) : Re w (W.setCell ⟨g, 2, none⟩ (.string x)) b m g ⟨f.id, f.nm, x, f.bo, f.wo, f.ca⟩ := by
  have hb : Below (w.heap.size + 1) W (W.setCell ⟨g, 2, none⟩ (.string x)) := (Below.refl _ _).setCell (p := ⟨g, 2, none⟩) h.lg _
  exact ⟨⟨h.R.below hb (Nat.lt_succ_self _), ok_belowB h.ok hb (Nat.lt_succ_of_lt h.lt), grown_B h.G hb (Nat.le_succ _), h.lt⟩, by simpa using Blk.set_ h.F 2 (.string x), h.lg⟩
theorem Re.put_bo (h : Re w W b m g f) (x : Int) : Re w (W.setCell ⟨g, 3, none⟩ (.int .i64 x)) b m g ⟨f.id, f.nm, f.cl, x, f.wo, f.ca⟩ := by
  have hb : Below (w.heap.size + 1) W (W.setCell ⟨g, 3, none⟩ (.int .i64 x)) := (Below.refl _ _).setCell (p := ⟨g, 3, none⟩) h.lg _
  exact ⟨⟨h.R.below hb (Nat.lt_succ_self _), ok_belowB h.ok hb (Nat.lt_succ_of_lt h.lt), grown_B h.G hb (Nat.le_succ _), h.lt⟩, by simpa using Blk.set_ h.F 3 (.int .i64 x), h.lg⟩
theorem Re.put_wo (h : Re w W b m g f) (x : Bool) : Re w (W.setCell ⟨g, 4, none⟩ (.bool x)) b m g ⟨f.id, f.nm, f.cl, f.bo, x, f.ca⟩ := by
  have hb : Below (w.heap.size + 1) W (W.setCell ⟨g, 4, none⟩ (.bool x)) := (Below.refl _ _).setCell (p := ⟨g, 4, none⟩) h.lg _
  exact ⟨⟨h.R.below hb (Nat.lt_succ_self _), ok_belowB h.ok hb (Nat.lt_succ_of_lt h.lt), grown_B h.G hb (Nat.le_succ _), h.lt⟩, by simpa using Blk.set_ h.F 4 (.bool x), h.lg⟩
theorem Re.put_ca (h : Re w W b m g f) (x : Int) : Re w (W.setCell ⟨g, 5, none⟩ (.int .i64 x)) b m g ⟨f.id, f.nm, f.cl, f.bo, f.wo, x⟩ := by
  have hb : Below (w.heap.size + 1) W (W.setCell ⟨g, 5, none⟩ (.int .i64 x)) := (Below.refl _ _).setCell (p := ⟨g, 5, none⟩) h.lg _
  exact ⟨⟨h.R.below hb (Nat.lt_succ_self _), ok_belowB h.ok hb (Nat.lt_succ_of_lt h.lt), grown_B h.G hb (Nat.le_succ _), h.lt⟩, by simpa using Blk.set_ h.F 5 (.int .i64 x), h.lg⟩
/-- The answer handed out. -/
theorem Re.fin (h : Re w W b m g f) : Blk (((((((W.setCell ⟨w.heap.size, 0, none⟩ (.int .i64 f.id)).setCell ⟨w.heap.size, 1, none⟩ (.string f.nm)).setCell ⟨w.heap.size, 2, none⟩ (.string f.cl)).setCell ⟨w.heap.size, 3, none⟩ (.int .i64 f.bo)).setCell ⟨w.heap.size, 4, none⟩ (.bool f.wo)).setCell ⟨w.heap.size, 5, none⟩ (.int .i64 f.ca))) w.heap.size 37 #[.int .i64 f.id, .string f.nm, .string f.cl, .int .i64 f.bo, .bool f.wo, .int .i64 f.ca] ∧ Ok ((((((W.setCell ⟨w.heap.size, 0, none⟩ (.int .i64 f.id)).setCell ⟨w.heap.size, 1, none⟩ (.string f.nm)).setCell ⟨w.heap.size, 2, none⟩ (.string f.cl)).setCell ⟨w.heap.size, 3, none⟩ (.int .i64 f.bo)).setCell ⟨w.heap.size, 4, none⟩ (.bool f.wo)).setCell ⟨w.heap.size, 5, none⟩ (.int .i64 f.ca)) b m ∧ w.grownBy ((((((W.setCell ⟨w.heap.size, 0, none⟩ (.int .i64 f.id)).setCell ⟨w.heap.size, 1, none⟩ (.string f.nm)).setCell ⟨w.heap.size, 2, none⟩ (.string f.cl)).setCell ⟨w.heap.size, 3, none⟩ (.int .i64 f.bo)).setCell ⟨w.heap.size, 4, none⟩ (.bool f.wo)).setCell ⟨w.heap.size, 5, none⟩ (.int .i64 f.ca)) (some b) := by
  have hz := blk_all h.R f
  exact ⟨hz.1, ok_belowB h.ok (hz.2 _ (Nat.le_refl _)) h.lt, grown_B h.G (hz.2 _ (Nat.le_refl _)) (Nat.le_refl _)⟩

/-- A list that grows beside the reader. -/
structure Rl (w W : World) (b m : Nat) (v : Value) (fs : List Ru) : Prop where
  ok : Ok W b m
  lb : b < w.heap.size
  G : w.grownBy W (some b)
  L : Own W w.heap.size v fs
theorem Rl.step {v : Value} {fs : List Ru} (h : Rl w W b m v fs) (ho : Ok W' b m') (hg : W.grownBy W' (some b)) : Rl w W' b m' v fs :=
  ⟨ho, h.lb, gtrans h.G hg, World.ownsRow.kept h.L hg (.inr (fun e => by have := (World.ownsRow.lt h.L b e).1; have := h.lb; omega))⟩
theorem Rl.mono {v : Value} {fs : List Ru} (h : Rl w W b m v fs) (hm : m ≤ m') : Rl w W b m' v fs := ⟨h.ok.mono hm, h.lb, h.G, h.L⟩
theorem Rl.below {v : Value} {fs : List Ru} (h : Rl w W b m v fs) (hb : Below W.heap.size W W') : Rl w W' b m v fs := ⟨h.ok.below hb, h.lb, gtrans h.G (gbelow hb _), h.L.below hb⟩
/-- Another list in its place. -/
theorem Rl.other {v v' : Value} {fs fs' : List Ru} (h : Rl w W b m v fs) (hb : Below W.heap.size W W') (ho : Own W' W.heap.size v' fs') : Rl w W' b m v' fs' := ⟨h.ok.below hb, h.lb, gtrans h.G (gbelow hb _), ho.rebase h.G.size⟩
theorem Rl.start (h : Ok w b m) : Rl w (w.alloc (.cells #[] 37)) b m (.slice (some ⟨w.heap.size, 0, none⟩) 0 0) [] :=
  ⟨h.below ((Below.refl _ _).alloc (Nat.le_refl _) _), h.lt, gbelow ((Below.refl _ _).alloc (Nat.le_refl _) _) _, World.ownsRow_made w #[] 0 (Nat.le_refl _) (Nat.zero_le _) rfl⟩
theorem Rl.new {v : Value} {fs : List Ru} (h : Rl w W b m v fs) : Rl w (W.alloc (.cells #[] 37)) b m (.slice (some ⟨W.heap.size, 0, none⟩) 0 0) [] :=
  h.other ((Below.refl _ _).alloc (Nat.le_refl _) _) (World.ownsRow_made W #[] 0 (Nat.le_refl _) (Nat.zero_le _) rfl)
theorem Rl.put {v v' : Value} {fs : List Ru} (h : Rl w W b m v fs) (x : Ru) (ho : W'.ownsRow w.heap.size 37 6 v' (fs.length + 1) (cells fs ++ cells [x])) (hg : W.grownBy W' v.ownBlock) : Rl w W' b m v' (fs ++ [x]) := by
  refine ⟨?_, h.lb, ?_, ?_⟩
  · have hB : Below w.heap.size W W' := ⟨hg.os, hg.tape, hg.output, hg.size, fun k hk => hg.block k (Nat.lt_of_lt_of_le hk h.G.size) (fun e => by have := (World.ownsRow.lt h.L k e.symm).1; omega)⟩
    exact ok_belowB h.ok hB h.lb
  · refine ⟨hg.os.trans h.G.os, hg.tape.trans h.G.tape, hg.output.trans h.G.output, Nat.le_trans h.G.size hg.size, fun k hk hr => (hg.block k (Nat.lt_of_lt_of_le hk h.G.size) (fun e => ?_)).trans (h.G.block k hk hr)⟩
    have := (World.ownsRow.lt h.L k e.symm).1
    omega
  · unfold Own
    rw [List.length_append, cells_cat]
    exact ho
end Go.Proofs.Ytleoljnofdajfaa.RuDr

namespace Go.Proofs.Ytleoljnofdajfaa.RuDo
open Go.RowKit Lb Bk Cur RuK RuDr
set_option linter.unusedSimpArgs false
set_option linter.unusedVariables false

def Sm (f : Ru) : Prop := f.nm.size ≤ 16 ∧ f.cl.size ≤ 16
set_option maxRecDepth 20000 in
set_option maxHeartbeats 1000000 in
theorem runner_any (b m : Nat) (id : Int) (w : World) (hm : m ≤ 1152921504606840000) (hok : Ok w b m) :
    Calls Try.prog 45 #[.pointer (some ⟨b, 0, none⟩), .int .i64 id] w fun e w' => (∃ f : Ru, e = .returned (.agg #[.int .i64 f.id, .string f.nm, .string f.cl, .int .i64 f.bo, .bool f.wo, .int .i64 f.ca]) ∧ Sm f) ∧ Ok w' b (m + 40) ∧ w.grownBy w' (some b) := by
  have H0 := Lib.hid (Rd.start hok)
  clear hok
  go_enter Try.func45, Try.ntmps45
  go_wp2_with fail
  refine (of_new b _ 4 16 [⟨#[97, 110, 110]⟩, ⟨#[98, 111]⟩, ⟨#[99, 121]⟩, ⟨#[100, 105]⟩] _ (by first | rfl | simp) (by omega) rfl (by decide) (by decide) (by decide) H0.out.ok).mono ?_
  rintro e w1 ⟨⟨x1, rfl, hx1⟩, hok, hg⟩
  have H1 := Lib.hid (H0.out.step hok hg)
  clear hok hg H0
  go_wp2_with fail
  refine (of_new b _ 4 16 [⟨#[104, 105, 108, 108]⟩, ⟨#[104, 105, 108, 108]⟩, ⟨#[102, 101, 110]⟩, ⟨#[111, 97, 107]⟩] _ (by first | rfl | simp) (by omega) rfl (by decide) (by decide) (by decide) H1.out.ok).mono ?_
  rintro e w2 ⟨⟨x2, rfl, hx2⟩, hok, hg⟩
  have H2 := Lib.hid (H1.out.step hok hg)
  clear hok hg H1
  go_wp2_with fail
  refine (among_new b _ 5 [1920, 1960, 1990, 2008, 2020] _ (by first | rfl | simp) (by omega) rfl (by decide) (by decide) H2.out.ok).mono ?_
  rintro e w3 ⟨⟨x3, rfl, -⟩, hok, hg⟩
  have H3 := Lib.hid (H2.out.step hok hg)
  clear hok hg H2
  go_wp2_with fail
  refine (one_any b _ 2 _ (by omega) (by omega) (by omega) H3.out.ok).mono ?_
  rintro e w4 ⟨⟨x4, rfl⟩, hok, hg⟩
  have H4 := Lib.hid (H3.out.step hok hg)
  clear hok hg H3
  go_wp2_with fail
  refine (among_new b _ 8 [0, 0, 1, 7, 8, 9, 815, 9999] _ (by first | rfl | simp) (by omega) rfl (by decide) (by decide) H4.out.ok).mono ?_
  rintro e w5 ⟨⟨x5, rfl, -⟩, hok, hg⟩
  have H5 := Lib.hid (H4.out.step hok hg)
  clear hok hg H4
  have HE := Lib.hid (Re.start H5.out (⟨id, x1, x2, x3, x4, x5⟩ : Ru))
  clear H5
  go_wp2_with fail
  refine (pick_any b _ 70 _ (by omega) (by omega) (by omega) HE.out.ok).mono ?_
  rintro e w6 ⟨⟨x6, rfl, -, -⟩, hok, hg⟩
  have HS := Lib.hid (HE.out.step hok hg)
  clear hok hg HE
  have hq : x6 = 0 ∨ x6 = 1 ∨ x6 = 2 ∨ x6 = 3 ∨ x6 = 4 ∨ (x6 ≠ 0 ∧ x6 ≠ 1 ∧ x6 ≠ 2 ∧ x6 ≠ 3 ∧ x6 ≠ 4) := by omega
  rcases hq with rfl | rfl | rfl | rfl | rfl | hq
  · skip
    go_wp2_with fail
    refine (among_new b _ 3 [0, 999, 1000] _ (by first | rfl | simp) (by omega) rfl (by decide) (by decide) HS.out.ok).mono ?_
    rintro e w7 ⟨⟨x7, rfl, -⟩, hok, hg⟩
    have HT := Lib.hid (HS.out.step hok hg)
    clear hok hg HS
    obtain ⟨⟨c0, -, -, -, -, -⟩, d0, -, -, -, -, -⟩ := blk_cells HT.out.F
    go_upto_region 13 with (fail)
    have HU := Lib.hid (HT.out.put_id x7)
    clear c0 d0 HT
    generalize World.setCell _ _ _ = wu at *
    obtain ⟨f, hf⟩ : ∃ f : Ru, (⟨x7, x1, x2, x3, x4, x5⟩ : Ru) = f := ⟨_, rfl⟩
    have hs : Sm f := by rw [← hf]; exact ⟨by assumption, by assumption⟩
    have HF := Lib.hid (hf ▸ HU.out)
    clear hf HU
    obtain ⟨⟨p0, p1, p2, p3, p4, p5⟩, -⟩ := blk_cells HF.out.F
    obtain ⟨⟨r0, r1, r2, r3, r4, r5⟩, y0, y1, y2, y3, y4, y5⟩ := blk_cells HF.out.R
    have hlg := HF.out.lg
    go_wp2
    clear p0 r0 y0 p1 r1 y1 p2 r2 y2 p3 r3 y3 p4 r4 y4 p5 r5 y5
    have hz := HF.out.fin
    generalize (World.setCell (World.setCell (World.setCell _ _ _) _ _) _ _) = w9 at *
    obtain ⟨hz1, hz2, hz3⟩ := hz
    obtain ⟨⟨u0, u1, u2, u3, u4, u5⟩, -⟩ := blk_cells hz1
    exact bodyPost_ret (v := .agg #[.int .i64 f.id, .string f.nm, .string f.cl, .int .i64 f.bo, .bool f.wo, .int .i64 f.ca]) (by simp [results, Try.results45, go_sem, u0, u1, u2, u3, u4, u5]) rfl ⟨⟨f, rfl, hs⟩, hz2.mono (by omega), hz3⟩
  · skip
    go_wp2_with fail
    refine (of_new b _ 3 16 [⟨#[]⟩, ⟨#[65]⟩, ⟨#[97, 98, 99, 100, 101, 102, 103, 104, 105, 106, 107]⟩] _ (by first | rfl | simp) (by omega) rfl (by decide) (by decide) (by decide) HS.out.ok).mono ?_
    rintro e w8 ⟨⟨x8, rfl, hx8⟩, hok, hg⟩
    have HT := Lib.hid (HS.out.step hok hg)
    clear hok hg HS
    obtain ⟨⟨-, c1, -, -, -, -⟩, -, d1, -, -, -, -⟩ := blk_cells HT.out.F
    go_upto_region 13 with (fail)
    have HU := Lib.hid (HT.out.put_nm x8)
    clear c1 d1 HT
    generalize World.setCell _ _ _ = wu at *
    obtain ⟨f, hf⟩ : ∃ f : Ru, (⟨id, x8, x2, x3, x4, x5⟩ : Ru) = f := ⟨_, rfl⟩
    have hs : Sm f := by rw [← hf]; exact ⟨by assumption, by assumption⟩
    have HF := Lib.hid (hf ▸ HU.out)
    clear hf HU
    obtain ⟨⟨p0, p1, p2, p3, p4, p5⟩, -⟩ := blk_cells HF.out.F
    obtain ⟨⟨r0, r1, r2, r3, r4, r5⟩, y0, y1, y2, y3, y4, y5⟩ := blk_cells HF.out.R
    have hlg := HF.out.lg
    go_wp2
    clear p0 r0 y0 p1 r1 y1 p2 r2 y2 p3 r3 y3 p4 r4 y4 p5 r5 y5
    have hz := HF.out.fin
    generalize (World.setCell (World.setCell (World.setCell _ _ _) _ _) _ _) = w9 at *
    obtain ⟨hz1, hz2, hz3⟩ := hz
    obtain ⟨⟨u0, u1, u2, u3, u4, u5⟩, -⟩ := blk_cells hz1
    exact bodyPost_ret (v := .agg #[.int .i64 f.id, .string f.nm, .string f.cl, .int .i64 f.bo, .bool f.wo, .int .i64 f.ca]) (by simp [results, Try.results45, go_sem, u0, u1, u2, u3, u4, u5]) rfl ⟨⟨f, rfl, hs⟩, hz2.mono (by omega), hz3⟩
  · skip
    go_wp2_with fail
    refine (of_new b _ 3 16 [⟨#[]⟩, ⟨#[65]⟩, ⟨#[97, 98, 99, 100, 101, 102, 103, 104, 105, 106, 107]⟩] _ (by first | rfl | simp) (by omega) rfl (by decide) (by decide) (by decide) HS.out.ok).mono ?_
    rintro e w9 ⟨⟨x9, rfl, hx9⟩, hok, hg⟩
    have HT := Lib.hid (HS.out.step hok hg)
    clear hok hg HS
    obtain ⟨⟨-, -, c2, -, -, -⟩, -, -, d2, -, -, -⟩ := blk_cells HT.out.F
    go_upto_region 13 with (fail)
    have HU := Lib.hid (HT.out.put_cl x9)
    clear c2 d2 HT
    generalize World.setCell _ _ _ = wu at *
    obtain ⟨f, hf⟩ : ∃ f : Ru, (⟨id, x1, x9, x3, x4, x5⟩ : Ru) = f := ⟨_, rfl⟩
    have hs : Sm f := by rw [← hf]; exact ⟨by assumption, by assumption⟩
    have HF := Lib.hid (hf ▸ HU.out)
    clear hf HU
    obtain ⟨⟨p0, p1, p2, p3, p4, p5⟩, -⟩ := blk_cells HF.out.F
    obtain ⟨⟨r0, r1, r2, r3, r4, r5⟩, y0, y1, y2, y3, y4, y5⟩ := blk_cells HF.out.R
    have hlg := HF.out.lg
    go_wp2
    clear p0 r0 y0 p1 r1 y1 p2 r2 y2 p3 r3 y3 p4 r4 y4 p5 r5 y5
    have hz := HF.out.fin
    generalize (World.setCell (World.setCell (World.setCell _ _ _) _ _) _ _) = w9 at *
    obtain ⟨hz1, hz2, hz3⟩ := hz
    obtain ⟨⟨u0, u1, u2, u3, u4, u5⟩, -⟩ := blk_cells hz1
    exact bodyPost_ret (v := .agg #[.int .i64 f.id, .string f.nm, .string f.cl, .int .i64 f.bo, .bool f.wo, .int .i64 f.ca]) (by simp [results, Try.results45, go_sem, u0, u1, u2, u3, u4, u5]) rfl ⟨⟨f, rfl, hs⟩, hz2.mono (by omega), hz3⟩
  · skip
    go_wp2_with fail
    refine (among_new b _ 2 [1919, 2021] _ (by first | rfl | simp) (by omega) rfl (by decide) (by decide) HS.out.ok).mono ?_
    rintro e w10 ⟨⟨x10, rfl, -⟩, hok, hg⟩
    have HT := Lib.hid (HS.out.step hok hg)
    clear hok hg HS
    obtain ⟨⟨-, -, -, c3, -, -⟩, -, -, -, d3, -, -⟩ := blk_cells HT.out.F
    go_upto_region 13 with (fail)
    have HU := Lib.hid (HT.out.put_bo x10)
    clear c3 d3 HT
    generalize World.setCell _ _ _ = wu at *
    obtain ⟨f, hf⟩ : ∃ f : Ru, (⟨id, x1, x2, x10, x4, x5⟩ : Ru) = f := ⟨_, rfl⟩
    have hs : Sm f := by rw [← hf]; exact ⟨by assumption, by assumption⟩
    have HF := Lib.hid (hf ▸ HU.out)
    clear hf HU
    obtain ⟨⟨p0, p1, p2, p3, p4, p5⟩, -⟩ := blk_cells HF.out.F
    obtain ⟨⟨r0, r1, r2, r3, r4, r5⟩, y0, y1, y2, y3, y4, y5⟩ := blk_cells HF.out.R
    have hlg := HF.out.lg
    go_wp2
    clear p0 r0 y0 p1 r1 y1 p2 r2 y2 p3 r3 y3 p4 r4 y4 p5 r5 y5
    have hz := HF.out.fin
    generalize (World.setCell (World.setCell (World.setCell _ _ _) _ _) _ _) = w9 at *
    obtain ⟨hz1, hz2, hz3⟩ := hz
    obtain ⟨⟨u0, u1, u2, u3, u4, u5⟩, -⟩ := blk_cells hz1
    exact bodyPost_ret (v := .agg #[.int .i64 f.id, .string f.nm, .string f.cl, .int .i64 f.bo, .bool f.wo, .int .i64 f.ca]) (by simp [results, Try.results45, go_sem, u0, u1, u2, u3, u4, u5]) rfl ⟨⟨f, rfl, hs⟩, hz2.mono (by omega), hz3⟩
  · skip
    go_wp2_with fail
    refine (among_new b _ 2 [(-1), 10000] _ (by first | rfl | simp) (by omega) rfl (by decide) (by decide) HS.out.ok).mono ?_
    rintro e w11 ⟨⟨x11, rfl, -⟩, hok, hg⟩
    have HT := Lib.hid (HS.out.step hok hg)
    clear hok hg HS
    obtain ⟨⟨-, -, -, -, -, c5⟩, -, -, -, -, -, d5⟩ := blk_cells HT.out.F
    go_upto_region 13 with (fail)
    have HU := Lib.hid (HT.out.put_ca x11)
    clear c5 d5 HT
    generalize World.setCell _ _ _ = wu at *
    obtain ⟨f, hf⟩ : ∃ f : Ru, (⟨id, x1, x2, x3, x4, x11⟩ : Ru) = f := ⟨_, rfl⟩
    have hs : Sm f := by rw [← hf]; exact ⟨by assumption, by assumption⟩
    have HF := Lib.hid (hf ▸ HU.out)
    clear hf HU
    obtain ⟨⟨p0, p1, p2, p3, p4, p5⟩, -⟩ := blk_cells HF.out.F
    obtain ⟨⟨r0, r1, r2, r3, r4, r5⟩, y0, y1, y2, y3, y4, y5⟩ := blk_cells HF.out.R
    have hlg := HF.out.lg
    go_wp2
    clear p0 r0 y0 p1 r1 y1 p2 r2 y2 p3 r3 y3 p4 r4 y4 p5 r5 y5
    have hz := HF.out.fin
    generalize (World.setCell (World.setCell (World.setCell _ _ _) _ _) _ _) = w9 at *
    obtain ⟨hz1, hz2, hz3⟩ := hz
    obtain ⟨⟨u0, u1, u2, u3, u4, u5⟩, -⟩ := blk_cells hz1
    exact bodyPost_ret (v := .agg #[.int .i64 f.id, .string f.nm, .string f.cl, .int .i64 f.bo, .bool f.wo, .int .i64 f.ca]) (by simp [results, Try.results45, go_sem, u0, u1, u2, u3, u4, u5]) rfl ⟨⟨f, rfl, hs⟩, hz2.mono (by omega), hz3⟩
  · obtain ⟨q0, q1, q2, q3, q4⟩ := hq
    have e0 : ((x6 : Int) == 0) = false := by simp; omega
    have e1 : ((x6 : Int) == 1) = false := by simp; omega
    have e2 : ((x6 : Int) == 2) = false := by simp; omega
    have e3 : ((x6 : Int) == 3) = false := by simp; omega
    have e4 : ((x6 : Int) == 4) = false := by simp; omega
    clear q0 q1 q2 q3 q4
    obtain ⟨f, hf⟩ : ∃ f : Ru, (⟨id, x1, x2, x3, x4, x5⟩ : Ru) = f := ⟨_, rfl⟩
    have hs : Sm f := by rw [← hf]; exact ⟨by assumption, by assumption⟩
    have HF := Lib.hid (hf ▸ HS.out)
    clear hf HS
    obtain ⟨⟨p0, p1, p2, p3, p4, p5⟩, -⟩ := blk_cells HF.out.F
    obtain ⟨⟨r0, r1, r2, r3, r4, r5⟩, y0, y1, y2, y3, y4, y5⟩ := blk_cells HF.out.R
    have hlg := HF.out.lg
    go_wp2
    clear p0 r0 y0 p1 r1 y1 p2 r2 y2 p3 r3 y3 p4 r4 y4 p5 r5 y5
    have hz := HF.out.fin
    generalize (World.setCell (World.setCell (World.setCell _ _ _) _ _) _ _) = w9 at *
    obtain ⟨hz1, hz2, hz3⟩ := hz
    obtain ⟨⟨u0, u1, u2, u3, u4, u5⟩, -⟩ := blk_cells hz1
    exact bodyPost_ret (v := .agg #[.int .i64 f.id, .string f.nm, .string f.cl, .int .i64 f.bo, .bool f.wo, .int .i64 f.ca]) (by simp [results, Try.results45, go_sem, u0, u1, u2, u3, u4, u5]) rfl ⟨⟨f, rfl, hs⟩, hz2.mono (by omega), hz3⟩
end Go.Proofs.Ytleoljnofdajfaa.RuDo

namespace Go.Proofs.Ytleoljnofdajfaa.RuLs
open Go.RowKit Lb Bk Cur RuK RuI RuG RuDr RuW AdA
set_option linter.unusedSimpArgs false
set_option linter.unusedVariables false

theorem sm_is {f : Ru} (h : RuDo.Sm f) : Is f := ⟨by have := h.1; unfold maxLen; omega, by have := h.2; unfold maxLen; omega⟩
theorem app_is {fs : List Ru} {x : Ru} (h : ∀ i, i < fs.length → Is (at_ fs i)) (hx : Is x) : ∀ i, i < (fs ++ [x]).length → Is (at_ (fs ++ [x]) i) := by
  rw [all_at] at h ⊢
  intro r hr
  rcases List.mem_append.1 hr with h1 | h1
  · exact h r h1
  · obtain rfl : r = x := by simpa using h1
    exact hx
theorem nil_is : ∀ i, i < ([] : List Ru).length → Is (at_ [] i) := fun i hi => absurd hi (Nat.not_lt_zero _)
theorem ad_is {fs : List Ru} {x : Ru} (h : ∀ i, i < fs.length → Is (at_ fs i)) (hx : Is x) : ∀ i, i < (adL fs x).length → Is (at_ (adL fs x) i) := by
  unfold adL
  split
  · exact ins_all h hx
  · exact nil_is

set_option maxRecDepth 20000 in
set_option maxHeartbeats 2000000 in
theorem runners_any (b m : Nat) (w : World) (hm : m ≤ 1152921504606830000) (hok : Ok w b m) :
    Calls Try.prog 22 #[.pointer (some ⟨b, 0, none⟩)] w fun e w' => ∃ v fs, e = .returned v ∧ fs.length ≤ 11 ∧ (∀ i, i < fs.length → Is (at_ fs i)) ∧ Rl w w' b (m + 800) v fs := by
  obtain ⟨t0, hi0, hz0, hz1, hz2⟩ := info_parts info
  have H0 := Lib.hid (Rl.start hok)
  clear hok
  go_enter Try.func22, Try.ntmps22
  go_wp2_with fail
  refine (pick_any b m 8 _ (by omega) (by omega) (by omega) H0.out.ok).mono ?_
  rintro e w1 ⟨⟨N, rfl, _, hN'⟩, hok, hg⟩
  have hN : N ≤ 7 := by omega
  have H1 := Lib.hid (H0.out.step hok hg)
  clear hok hg hN' H0
  go_wp2_with fail
  go_loopg [3, 4, 5, 6, 7] N (fun gk v s n _ _ wr => ∃ (k : Nat) (z : Int) (fs : List Ru), k ≤ 7 ∧ gk = k ∧ n = .int .i64 k ∧ s = .int .i64 z ∧ fs.length ≤ 10 ∧ Aside (∀ i, i < fs.length → Is (at_ fs i)) ∧ Rl w wr b (m + 2 + 50 * (7 - k)) v fs)
  case atStart => exact ⟨N, 0, [], hN, rfl, rfl, rfl, Nat.zero_le _, (nil_is : ∀ i, i < ([] : List Ru).length → Is (at_ [] i)), H1.out.mono (by omega)⟩
  case round =>
    obtain ⟨k, z, fs, hk, hgk, rfl, rfl, hfl, I, hF⟩ := hrel
    obtain ⟨a, cap, rfl, -, -⟩ := hF.L.slice
    have H2 := Lib.hid hF
    clear hF H1
    by_cases hlt : 0 < k
    · have hlt' : (0 : Int) < (k : Int) := by omega
      have hwr : IntKind.i64.wrap ((k : Int) - 1) = (k : Int) - 1 := IntWalk.i64_in _ (by omega)
      go_wp2_with fail
      refine (pick_any b _ 3 _ (by omega) (by omega) (by omega) H2.out.ok).mono ?_
      rintro e w3 ⟨⟨p, rfl, _, _⟩, hok, hg⟩
      have H3 := Lib.hid (H2.out.step hok hg)
      clear hok hg H2
      go_wp2_with fail
      refine (RuDo.runner_any b _ _ _ (by omega) H3.out.ok).mono ?_
      rintro e w4 ⟨⟨x, rfl, hx⟩, hok, hg⟩
      have H4 := Lib.hid (H3.out.step hok hg)
      have HX := Lib.hid (sm_is hx)
      clear hok hg H3 hx
      go_wp2_with fail
      refine (AdS.spec_any fs I.out (by omega) x HX.out a cap _ (Own.le H4.out.L) (Own.row H4.out.L)).mono ?_
      rintro e w5 ⟨v5, rfl, ho, hb⟩
      have HI5 := Lib.hid (ad_is I.out HX.out)
      have hal := AdS.ad_len fs x
      have H5 := Lib.hid (H4.out.other hb ho)
      have H5' := Lib.hid (H4.out.below hb)
      obtain ⟨gs, hgs⟩ : ∃ gs, adL fs x = gs := ⟨_, rfl⟩
      obtain ⟨ob, hob⟩ : ∃ ob, adB fs x = ob := ⟨_, rfl⟩
      rw [hgs] at HI5 hal H5
      rw [hob]
      clear ho hb hgs hob H4
      cases ob with
      | true =>
        go_wp2
        go_roundg (k - 1)
        case measure => omega
        case rel => exact ⟨k - 1, _, gs, by omega, rfl, by go_num, rfl, hal, HI5.out, H5.out.mono (by omega)⟩
      | false =>
        go_wp2
        go_roundg (k - 1)
        case measure => omega
        case rel => exact ⟨k - 1, _, fs, by omega, rfl, by go_num, rfl, hfl, I.out, H5'.out.mono (by omega)⟩
    · have hk0 : k = 0 := by omega
      subst hk0
      go_wp2_with fail
      refine (pick_any b _ 30 _ (by omega) (by omega) (by omega) H2.out.ok).mono ?_
      rintro e w3 ⟨⟨q, rfl, _, _⟩, hok, hg⟩
      have H3 := Lib.hid (H2.out.step hok hg)
      clear hok hg H2
      have hq : q = 0 ∨ q = 1 ∨ (q ≠ 0 ∧ q ≠ 1) := by omega
      rcases hq with rfl | rfl | ⟨q0, q1⟩
      · go_wp2_with fail
        refine (pick_any b _ 12 _ (by omega) (by omega) (by omega) H3.out.ok).mono ?_
        rintro e w4 ⟨⟨p, rfl, _, _⟩, hok, hg⟩
        have H4 := Lib.hid (H3.out.step hok hg)
        clear hok hg H3
        go_wp2_with fail
        refine (RuDo.runner_any b _ _ _ (by omega) H4.out.ok).mono ?_
        rintro e w5 ⟨⟨x, rfl, hx⟩, hok, hg⟩
        have H5 := Lib.hid (H4.out.step hok hg)
        have HX := Lib.hid (sm_is hx)
        clear hok hg H4 hx
        have hown := H5.out.L
        unfold Own at hown
        have HTa := Lib.hid (H5.out.below ((Below.refl _ _).alloc (Nat.le_refl _) (.cells #[.int .i64 x.id, .string x.nm, .string x.cl, .int .i64 x.bo, .bool x.wo, .int .i64 x.ca] 37)))
        have hsz := H5.out.G.size
        go_wp2_with (at_builtin; (refine wpList_append_own _ rfl (.tmp 35) (.tmp 40) 25 rfl w.heap.size 37 t0 (.agg #[.int .i64 no.id, .string no.nm, .string no.cl, .int .i64 no.bo, .bool no.wo, .int .i64 no.ca]) 6 64 Try.underlying25 hi0 hz0 hz1 hz2 rfl (by decide) _ fs.length _ rfl (hown.alloc _) ⟨_, 0, none⟩ 1 1 (cells [x]) rfl rfl (World.news_of_block (Blk.new _ _ _)) (cells_one [x]) (by unfold maxLen; omega) (by omega) (by simp; omega) ?_; intro v' w3' hown3 hgr3 _; have HP := Lib.hid (HTa.out.put x hown3 hgr3); clear hown3 hgr3))
        go_ret
        exact ⟨_, fs ++ [x], rfl, by simp; omega, app_is I.out HX.out, HP.out.mono (by omega)⟩
      · have H4 := Lib.hid H3.out.new
        have hmm : 50 * (7 - 0) = 350 := rfl
        clear H3 I hfl
        go_wp2_with fail
        go_loopg [3, 8] 12 (fun gk v s wr => ∃ ps : List Ru, ps.length ≤ 11 ∧ gk = 12 - ps.length ∧ s = .int .i64 ps.length ∧ Aside (∀ i, i < ps.length → Is (at_ ps i)) ∧ Rl w wr b (m + 400 + 2 * ps.length) v ps)
        case atStart => exact ⟨[], Nat.zero_le _, rfl, rfl, (nil_is : ∀ i, i < ([] : List Ru).length → Is (at_ [] i)), H4.out.mono (by omega)⟩
        case round =>
          clear H4
          obtain ⟨ps, hps, hgk, rfl, I, hF⟩ := hrel
          obtain ⟨pa, pc, rfl, -, -⟩ := hF.L.slice
          have H5 := Lib.hid hF
          clear hF
          go_wp2_with fail
          refine (pick_any b _ 2 _ (by omega) (by omega) (by omega) H5.out.ok).mono ?_
          rintro e w5 ⟨⟨q, rfl, _, hq'⟩, hok, hg⟩
          have hq : q ≤ 1 := by omega
          have H6 := Lib.hid (H5.out.step hok hg)
          clear hok hg hq' H5
          have hwr : IntKind.i64.wrap (10 + (q : Int)) = 10 + q := IntWalk.i64_in _ (by omega)
          by_cases hlt : ps.length < 10 + q
          · have hlt' : (ps.length : Int) < 10 + (q : Int) := by omega
            have hw2 : IntKind.i64.wrap (1950 + (ps.length : Int)) = 1950 + ps.length := IntWalk.i64_in _ (by omega)
            have hw3 : IntKind.i64.wrap ((ps.length : Int) + 1) = ps.length + 1 := IntWalk.i64_in _ (by omega)
            have hown := H6.out.L
            unfold Own at hown
            have HTa := Lib.hid (H6.out.below ((Below.refl _ _).alloc (Nat.le_refl _) (.cells #[.int .i64 (ps.length + 1), .string ⟨#[120]⟩, .string ⟨#[121]⟩, .int .i64 (1950 + ps.length), .bool false, .int .i64 0] 37)))
            have hsz := H6.out.G.size
            have HI := Lib.hid (app_is (x := ⟨ps.length + 1, ⟨#[120]⟩, ⟨#[121]⟩, 1950 + ps.length, false, 0⟩) I.out ⟨(by decide : (⟨#[120]⟩ : ByteArray).size ≤ maxLen), (by decide : (⟨#[121]⟩ : ByteArray).size ≤ maxLen)⟩)
            go_wp2_with (at_builtin; (refine wpList_append_own _ rfl (.tmp 52) (.tmp 58) 25 rfl w.heap.size 37 t0 (.agg #[.int .i64 no.id, .string no.nm, .string no.cl, .int .i64 no.bo, .bool no.wo, .int .i64 no.ca]) 6 64 Try.underlying25 hi0 hz0 hz1 hz2 rfl (by decide) _ ps.length _ rfl (hown.alloc _) ⟨_, 0, none⟩ 1 1 [.int .i64 (ps.length + 1), .string ⟨#[120]⟩, .string ⟨#[121]⟩, .int .i64 (1950 + ps.length), .bool false, .int .i64 0] rfl rfl (World.news_of_block (Blk.new _ _ _)) (cells_one [⟨ps.length + 1, ⟨#[120]⟩, ⟨#[121]⟩, 1950 + ps.length, false, 0⟩]) (by unfold maxLen; omega) (by omega) (by simp; omega) ?_; intro v' w3' hown3 hgr3 _; have HP := Lib.hid (HTa.out.put ⟨ps.length + 1, ⟨#[120]⟩, ⟨#[121]⟩, 1950 + ps.length, false, 0⟩ hown3 hgr3); clear hown3 hgr3))
            go_roundg (12 - (ps.length + 1))
            case measure => omega
            case rel => exact ⟨ps ++ [(⟨ps.length + 1, ⟨#[120]⟩, ⟨#[121]⟩, 1950 + ps.length, false, 0⟩ : Ru)], by simp; omega, by simp, by simp, HI.out, by
              have h1 := HP.out
              rw [List.length_append]
              exact h1.mono (by simp; omega)⟩
          · have hlt' : ¬ (ps.length : Int) < 10 + (q : Int) := by omega
            go_wp2
            go_ret
            exact ⟨_, ps, rfl, hps, I.out, H6.out.mono (by omega)⟩
      · have e0 : ((q : Int) == 0) = false := by simp; omega
        have e1 : ((q : Int) == 1) = false := by simp; omega
        clear q0 q1
        go_wp2
        go_ret
        exact ⟨_, fs, rfl, by omega, I.out, H3.out.mono (by omega)⟩

end Go.Proofs.Ytleoljnofdajfaa.RuLs

namespace Go.Proofs.Ytleoljnofdajfaa.KlDr
open Go.RowKit Lb Bk Cur KlK
set_option linter.unusedSimpArgs false
set_option linter.unusedVariables false
variable {w W W' : World} {b m m' g : Nat} {f : Kl}

theorem blk_grown {t : TypeId} {cs : Array Value} {r : Option Nat} (h : Blk w g t cs) (hg : w.grownBy W r) (hr : r ≠ some g) : Blk W g t cs := (hg.block g h.lt (fun e => hr e.symm)).trans h
/-- The box of the answer, the reader. -/
structure Rd (w W : World) (b m : Nat) : Prop where
  R : Blk W w.heap.size 33 #[.int .i64 no.id, .string no.nm, .int .i64 no.lo, .int .i64 no.hi, .bool no.wo, .bool no.me, .int .i64 no.co, .int .i64 no.mo]
  ok : Ok W b m
  G : w.grownBy W (some b)
  lt : b < w.heap.size
theorem Rd.start (h : Ok w b m) : Rd w (w.alloc (.cells #[.int .i64 no.id, .string no.nm, .int .i64 no.lo, .int .i64 no.hi, .bool no.wo, .bool no.me, .int .i64 no.co, .int .i64 no.mo] 33)) b m :=
  ⟨Blk.new _ _ _, h.below ((Below.refl _ _).alloc (Nat.le_refl _) _), gbelow ((Below.refl _ _).alloc (Nat.le_refl _) _) _, h.lt⟩
theorem Rd.below (h : Rd w W b m) (hb : Below W.heap.size W W') : Rd w W' b m := ⟨h.R.later hb, h.ok.below hb, gtrans h.G (gbelow hb _), h.lt⟩
theorem Rd.step (h : Rd w W b m) (ho : Ok W' b m') (hg : W.grownBy W' (some b)) : Rd w W' b m' := ⟨blk_grown h.R hg (fun e => by have := h.lt; cases e; omega), ho, gtrans h.G hg, h.lt⟩
theorem Rd.mono (h : Rd w W b m) (hm : m ≤ m') : Rd w W b m' := ⟨h.R, h.ok.mono hm, h.G, h.lt⟩
theorem Rd.drew (h : Rd w W b m) : Rd w W.drew b m := h.below (Below.refl _ _).drew
/-- .. and the new one. -/
structure Re (w W : World) (b m g : Nat) (f : Kl) : Prop extends Rd w W b m where
  F : Blk W g 33 #[.int .i64 f.id, .string f.nm, .int .i64 f.lo, .int .i64 f.hi, .bool f.wo, .bool f.me, .int .i64 f.co, .int .i64 f.mo]
  lg : w.heap.size < g
theorem Re.start (h : Rd w W b m) (f : Kl) : Re w (W.alloc (.cells #[.int .i64 f.id, .string f.nm, .int .i64 f.lo, .int .i64 f.hi, .bool f.wo, .bool f.me, .int .i64 f.co, .int .i64 f.mo] 33)) b m W.heap.size f := ⟨h.below ((Below.refl _ _).alloc (Nat.le_refl _) _), Blk.new _ _ _, h.R.lt⟩
theorem Re.below (h : Re w W b m g f) (hb : Below W.heap.size W W') : Re w W' b m g f := ⟨h.toRd.below hb, h.F.later hb, h.lg⟩
theorem Re.drew (h : Re w W b m g f) : Re w W.drew b m g f := ⟨h.toRd.drew, h.F, h.lg⟩
theorem Re.mono (h : Re w W b m g f) (hm : m ≤ m') : Re w W b m' g f := ⟨h.toRd.mono hm, h.F, h.lg⟩
theorem Re.step (h : Re w W b m g f) (ho : Ok W' b m') (hg : W.grownBy W' (some b)) : Re w W' b m' g f :=
  ⟨h.toRd.step ho hg, blk_grown h.F hg (fun e => by have := h.lt; have := h.lg; cases e; omega), h.lg⟩
theorem Re.put_id (h : Re w W b m g f) (x : Int) : Re w (W.setCell ⟨g, 0, none⟩ (.int .i64 x)) b m g ⟨x, f.nm, f.lo, f.hi, f.wo, f.me, f.co, f.mo⟩ := by
  have hb : Below (w.heap.size + 1) W (W.setCell ⟨g, 0, none⟩ (.int .i64 x)) := (Below.refl _ _).setCell (p := ⟨g, 0, none⟩) h.lg _
  exact ⟨⟨h.R.below hb (Nat.lt_succ_self _), ok_belowB h.ok hb (Nat.lt_succ_of_lt h.lt), grown_B h.G hb (Nat.le_succ _), h.lt⟩, by simpa using Blk.set_ h.F 0 (.int .i64 x), h.lg⟩
theorem Re.put_nm (h : Re w W b m g f) (x : ByteArray) : Re w (W.setCell ⟨g, 1, none⟩ (.string x)) b m g ⟨f.id, x, f.lo, f.hi, f.wo, f.me, f.co, f.mo⟩ := by
  have hb : Below (w.heap.size + 1) W (W.setCell ⟨g, 1, none⟩ (.string x)) := (Below.refl _ _).setCell (p := ⟨g, 1, none⟩) h.lg _
  exact ⟨⟨h.R.below hb (Nat.lt_succ_self _), ok_belowB h.ok hb (Nat.lt_succ_of_lt h.lt), grown_B h.G hb (Nat.le_succ _), h.lt⟩, by simpa using Blk.set_ h.F 1 (.string x), h.lg⟩
theorem Re.put_lo (h : Re w W b m g f) (x : Int) : Re w (W.setCell ⟨g, 2, none⟩ (.int .i64 x)) b m g ⟨f.id, f.nm, x, f.hi, f.wo, f.me, f.co, f.mo⟩ := by
  have hb : Below (w.heap.size + 1) W (W.setCell ⟨g, 2, none⟩ (.int .i64 x)) := (Below.refl _ _).setCell (p := ⟨g, 2, none⟩) h.lg _
  exact ⟨⟨h.R.below hb (Nat.lt_succ_self _), ok_belowB h.ok hb (Nat.lt_succ_of_lt h.lt), grown_B h.G hb (Nat.le_succ _), h.lt⟩, by simpa using Blk.set_ h.F 2 (.int .i64 x), h.lg⟩
theorem Re.put_hi (h : Re w W b m g f) (x : Int) : Re w (W.setCell ⟨g, 3, none⟩ (.int .i64 x)) b m g ⟨f.id, f.nm, f.lo, x, f.wo, f.me, f.co, f.mo⟩ := by
  have hb : Below (w.heap.size + 1) W (W.setCell ⟨g, 3, none⟩ (.int .i64 x)) := (Below.refl _ _).setCell (p := ⟨g, 3, none⟩) h.lg _
  exact ⟨⟨h.R.below hb (Nat.lt_succ_self _), ok_belowB h.ok hb (Nat.lt_succ_of_lt h.lt), grown_B h.G hb (Nat.le_succ _), h.lt⟩, by simpa using Blk.set_ h.F 3 (.int .i64 x), h.lg⟩
theorem Re.put_wo (h : Re w W b m g f) (x : Bool) : Re w (W.setCell ⟨g, 4, none⟩ (.bool x)) b m g ⟨f.id, f.nm, f.lo, f.hi, x, f.me, f.co, f.mo⟩ := by
  have hb : Below (w.heap.size + 1) W (W.setCell ⟨g, 4, none⟩ (.bool x)) := (Below.refl _ _).setCell (p := ⟨g, 4, none⟩) h.lg _
  exact ⟨⟨h.R.below hb (Nat.lt_succ_self _), ok_belowB h.ok hb (Nat.lt_succ_of_lt h.lt), grown_B h.G hb (Nat.le_succ _), h.lt⟩, by simpa using Blk.set_ h.F 4 (.bool x), h.lg⟩
theorem Re.put_me (h : Re w W b m g f) (x : Bool) : Re w (W.setCell ⟨g, 5, none⟩ (.bool x)) b m g ⟨f.id, f.nm, f.lo, f.hi, f.wo, x, f.co, f.mo⟩ := by
  have hb : Below (w.heap.size + 1) W (W.setCell ⟨g, 5, none⟩ (.bool x)) := (Below.refl _ _).setCell (p := ⟨g, 5, none⟩) h.lg _
  exact ⟨⟨h.R.below hb (Nat.lt_succ_self _), ok_belowB h.ok hb (Nat.lt_succ_of_lt h.lt), grown_B h.G hb (Nat.le_succ _), h.lt⟩, by simpa using Blk.set_ h.F 5 (.bool x), h.lg⟩
theorem Re.put_co (h : Re w W b m g f) (x : Int) : Re w (W.setCell ⟨g, 6, none⟩ (.int .i64 x)) b m g ⟨f.id, f.nm, f.lo, f.hi, f.wo, f.me, x, f.mo⟩ := by
  have hb : Below (w.heap.size + 1) W (W.setCell ⟨g, 6, none⟩ (.int .i64 x)) := (Below.refl _ _).setCell (p := ⟨g, 6, none⟩) h.lg _
  exact ⟨⟨h.R.below hb (Nat.lt_succ_self _), ok_belowB h.ok hb (Nat.lt_succ_of_lt h.lt), grown_B h.G hb (Nat.le_succ _), h.lt⟩, by simpa using Blk.set_ h.F 6 (.int .i64 x), h.lg⟩
theorem Re.put_mo (h : Re w W b m g f) (x : Int) : Re w (W.setCell ⟨g, 7, none⟩ (.int .i64 x)) b m g ⟨f.id, f.nm, f.lo, f.hi, f.wo, f.me, f.co, x⟩ := by
  have hb : Below (w.heap.size + 1) W (W.setCell ⟨g, 7, none⟩ (.int .i64 x)) := (Below.refl _ _).setCell (p := ⟨g, 7, none⟩) h.lg _
  exact ⟨⟨h.R.below hb (Nat.lt_succ_self _), ok_belowB h.ok hb (Nat.lt_succ_of_lt h.lt), grown_B h.G hb (Nat.le_succ _), h.lt⟩, by simpa using Blk.set_ h.F 7 (.int .i64 x), h.lg⟩
/-- The answer handed out. -/
theorem Re.fin (h : Re w W b m g f) : Blk (((((((((W.setCell ⟨w.heap.size, 0, none⟩ (.int .i64 f.id)).setCell ⟨w.heap.size, 1, none⟩ (.string f.nm)).setCell ⟨w.heap.size, 2, none⟩ (.int .i64 f.lo)).setCell ⟨w.heap.size, 3, none⟩ (.int .i64 f.hi)).setCell ⟨w.heap.size, 4, none⟩ (.bool f.wo)).setCell ⟨w.heap.size, 5, none⟩ (.bool f.me)).setCell ⟨w.heap.size, 6, none⟩ (.int .i64 f.co)).setCell ⟨w.heap.size, 7, none⟩ (.int .i64 f.mo))) w.heap.size 33 #[.int .i64 f.id, .string f.nm, .int .i64 f.lo, .int .i64 f.hi, .bool f.wo, .bool f.me, .int .i64 f.co, .int .i64 f.mo] ∧ Ok ((((((((W.setCell ⟨w.heap.size, 0, none⟩ (.int .i64 f.id)).setCell ⟨w.heap.size, 1, none⟩ (.string f.nm)).setCell ⟨w.heap.size, 2, none⟩ (.int .i64 f.lo)).setCell ⟨w.heap.size, 3, none⟩ (.int .i64 f.hi)).setCell ⟨w.heap.size, 4, none⟩ (.bool f.wo)).setCell ⟨w.heap.size, 5, none⟩ (.bool f.me)).setCell ⟨w.heap.size, 6, none⟩ (.int .i64 f.co)).setCell ⟨w.heap.size, 7, none⟩ (.int .i64 f.mo)) b m ∧ w.grownBy ((((((((W.setCell ⟨w.heap.size, 0, none⟩ (.int .i64 f.id)).setCell ⟨w.heap.size, 1, none⟩ (.string f.nm)).setCell ⟨w.heap.size, 2, none⟩ (.int .i64 f.lo)).setCell ⟨w.heap.size, 3, none⟩ (.int .i64 f.hi)).setCell ⟨w.heap.size, 4, none⟩ (.bool f.wo)).setCell ⟨w.heap.size, 5, none⟩ (.bool f.me)).setCell ⟨w.heap.size, 6, none⟩ (.int .i64 f.co)).setCell ⟨w.heap.size, 7, none⟩ (.int .i64 f.mo)) (some b) := by
  have hz := blk_all h.R f
  exact ⟨hz.1, ok_belowB h.ok (hz.2 _ (Nat.le_refl _)) h.lt, grown_B h.G (hz.2 _ (Nat.le_refl _)) (Nat.le_refl _)⟩

/-- A list that grows beside the reader. -/
structure Rl (w W : World) (b m : Nat) (v : Value) (fs : List Kl) : Prop where
  ok : Ok W b m
  lb : b < w.heap.size
  G : w.grownBy W (some b)
  L : Own W w.heap.size v fs
theorem Rl.step {v : Value} {fs : List Kl} (h : Rl w W b m v fs) (ho : Ok W' b m') (hg : W.grownBy W' (some b)) : Rl w W' b m' v fs :=
  ⟨ho, h.lb, gtrans h.G hg, World.ownsRow.kept h.L hg (.inr (fun e => by have := (World.ownsRow.lt h.L b e).1; have := h.lb; omega))⟩
theorem Rl.mono {v : Value} {fs : List Kl} (h : Rl w W b m v fs) (hm : m ≤ m') : Rl w W b m' v fs := ⟨h.ok.mono hm, h.lb, h.G, h.L⟩
theorem Rl.below {v : Value} {fs : List Kl} (h : Rl w W b m v fs) (hb : Below W.heap.size W W') : Rl w W' b m v fs := ⟨h.ok.below hb, h.lb, gtrans h.G (gbelow hb _), h.L.below hb⟩
/-- Another list in its place. -/
theorem Rl.other {v v' : Value} {fs fs' : List Kl} (h : Rl w W b m v fs) (hb : Below W.heap.size W W') (ho : Own W' W.heap.size v' fs') : Rl w W' b m v' fs' := ⟨h.ok.below hb, h.lb, gtrans h.G (gbelow hb _), ho.rebase h.G.size⟩
theorem Rl.start (h : Ok w b m) : Rl w (w.alloc (.cells #[] 33)) b m (.slice (some ⟨w.heap.size, 0, none⟩) 0 0) [] :=
  ⟨h.below ((Below.refl _ _).alloc (Nat.le_refl _) _), h.lt, gbelow ((Below.refl _ _).alloc (Nat.le_refl _) _) _, World.ownsRow_made w #[] 0 (Nat.le_refl _) (Nat.zero_le _) rfl⟩
theorem Rl.new {v : Value} {fs : List Kl} (h : Rl w W b m v fs) : Rl w (W.alloc (.cells #[] 33)) b m (.slice (some ⟨W.heap.size, 0, none⟩) 0 0) [] :=
  h.other ((Below.refl _ _).alloc (Nat.le_refl _) _) (World.ownsRow_made W #[] 0 (Nat.le_refl _) (Nat.zero_le _) rfl)
theorem Rl.put {v v' : Value} {fs : List Kl} (h : Rl w W b m v fs) (x : Kl) (ho : W'.ownsRow w.heap.size 33 8 v' (fs.length + 1) (cells fs ++ cells [x])) (hg : W.grownBy W' v.ownBlock) : Rl w W' b m v' (fs ++ [x]) := by
  refine ⟨?_, h.lb, ?_, ?_⟩
  · have hB : Below w.heap.size W W' := ⟨hg.os, hg.tape, hg.output, hg.size, fun k hk => hg.block k (Nat.lt_of_lt_of_le hk h.G.size) (fun e => by have := (World.ownsRow.lt h.L k e.symm).1; omega)⟩
    exact ok_belowB h.ok hB h.lb
  · refine ⟨hg.os.trans h.G.os, hg.tape.trans h.G.tape, hg.output.trans h.G.output, Nat.le_trans h.G.size hg.size, fun k hk hr => (hg.block k (Nat.lt_of_lt_of_le hk h.G.size) (fun e => ?_)).trans (h.G.block k hk hr)⟩
    have := (World.ownsRow.lt h.L k e.symm).1
    omega
  · unfold Own
    rw [List.length_append, cells_cat]
    exact ho
end Go.Proofs.Ytleoljnofdajfaa.KlDr

namespace Go.Proofs.Ytleoljnofdajfaa.KlDo
open Go.RowKit Lb Bk Cur KlK KlDr
set_option linter.unusedSimpArgs false
set_option linter.unusedVariables false

def mnZ (a b : Int) : Int := if a < b then a else b
theorem mn_le (a b : Int) (h0 : 0 ≤ a) (h1 : 0 ≤ b) : 0 ≤ mnZ a b ∧ mnZ a b ≤ a := by unfold mnZ; split <;> omega
theorem least_any (a b : Int) (w : World) : Calls Try.prog 61 #[.int .i64 a, .int .i64 b] w fun e w' => e = .returned (.int .i64 (mnZ a b)) ∧ w' = w := by
  by_cases h : a < b
  · have HE := Lib.hid (show mnZ a b = a from if_pos h)
    go_enter Try.func61, Try.ntmps61
    go_wp2
    go_ret
    exact ⟨by rw [HE.out]; rfl, rfl⟩
  · have HE := Lib.hid (show mnZ a b = b from if_neg h)
    go_enter Try.func61, Try.ntmps61
    go_wp2
    go_ret
    exact ⟨by rw [HE.out]; rfl, rfl⟩
def Sm (f : Kl) : Prop := f.nm.size ≤ 16
set_option maxRecDepth 20000 in
set_option maxHeartbeats 8000000 in
theorem class_any (b m : Nat) (id : Int) (w : World) (hm : m ≤ 1152921504606840000) (hok : Ok w b m) :
    Calls Try.prog 43 #[.pointer (some ⟨b, 0, none⟩), .int .i64 id] w fun e w' => (∃ f : Kl, e = .returned (.agg #[.int .i64 f.id, .string f.nm, .int .i64 f.lo, .int .i64 f.hi, .bool f.wo, .bool f.me, .int .i64 f.co, .int .i64 f.mo]) ∧ Sm f) ∧ Ok w' b (m + 40) ∧ w.grownBy w' (some b) := by
  have H0 := Lib.hid (Rd.start hok)
  clear hok
  go_enter Try.func43, Try.ntmps43
  go_wp2_with fail
  refine (of_new b _ 6 16 [⟨#[101, 108, 105, 116, 101]⟩, ⟨#[106, 117, 110, 105, 111, 114]⟩, ⟨#[115, 101, 110, 105, 111, 114]⟩, ⟨#[111, 112, 101, 110]⟩, ⟨#[115, 104, 111, 114, 116]⟩, ⟨#[108, 111, 110, 103]⟩] _ (by first | rfl | simp) (by omega) rfl (by decide) (by decide) (by decide) H0.out.ok).mono ?_
  rintro e w1 ⟨⟨x1, rfl, hx1⟩, hok, hg⟩
  have H1 := Lib.hid (H0.out.step hok hg)
  clear hok hg H0
  have HNm := Lib.hid hx1
  clear hx1
  go_wp2_with fail
  refine (among_new b _ 5 [0, 6, 18, 36, 60] _ (by first | rfl | simp) (by omega) rfl (by decide) (by decide) H1.out.ok).mono ?_
  rintro e w2 ⟨⟨x2, rfl, hz2⟩, hok, hg⟩
  have H2 := Lib.hid (H1.out.step hok hg)
  clear hok hg H1
  have HLo := Lib.hid (show 0 ≤ x2 ∧ x2 ≤ 60 from by simp at hz2; omega)
  clear hz2
  go_wp2_with fail
  refine (one_any b _ 2 _ (by omega) (by omega) (by omega) H2.out.ok).mono ?_
  rintro e w3 ⟨⟨x3, rfl⟩, hok, hg⟩
  have H3 := Lib.hid (H2.out.step hok hg)
  clear hok hg H2
  go_wp2_with fail
  refine (one_any b _ 2 _ (by omega) (by omega) (by omega) H3.out.ok).mono ?_
  rintro e w4 ⟨⟨x4, rfl⟩, hok, hg⟩
  have H4 := Lib.hid (H3.out.step hok hg)
  clear hok hg H3
  go_wp2_with fail
  refine (among_new b _ 4 [1, 2, 2, 20] _ (by first | rfl | simp) (by omega) rfl (by decide) (by decide) H4.out.ok).mono ?_
  rintro e w5 ⟨⟨x5, rfl, -⟩, hok, hg⟩
  have H5 := Lib.hid (H4.out.step hok hg)
  clear hok hg H4
  go_wp2_with fail
  refine (among_new b _ 4 [1, 1, 2, 500] _ (by first | rfl | simp) (by omega) rfl (by decide) (by decide) H5.out.ok).mono ?_
  rintro e w6 ⟨⟨x6, rfl, -⟩, hok, hg⟩
  have H6 := Lib.hid (H5.out.step hok hg)
  clear hok hg H5
  have HE := Lib.hid (Re.start H6.out (⟨id, x1, x2, 0, x3, x4, x5, x6⟩ : Kl))
  obtain ⟨g, hgq⟩ : ∃ g, w6.heap.size = g := ⟨_, rfl⟩
  rw [hgq] at HE
  clear H6
  go_upto_region 2 with (fail)
  generalize World.alloc _ _ = wa at *
  clear hgq
  replace HE := Lib.hid HE.out.drew
  obtain ⟨⟨-, -, c2, -, -, -, -, -⟩, -⟩ := blk_cells HE.out.F
  refine wp_region_noPanic ?_
  refine wp_region_held_drew (S := (fun Wx : World => Wx.cell? ⟨g, 2, none⟩ = some (.int .i64 x2))) (by kernel_rfl) c2 (fun hHeld => ?_)
  refine wpAnyH_take (i := 0) (oi := _) (v := ?_) rfl (by kernel_rfl) (by kernel_rfl) (by kernel_rfl) (fun _ _ _ h => h) (Or.inl ⟨by rfl, ?_⟩) (by assumption) ?_; rotate_left; focus (intro W hSw; (try dsimp only at hSw); go_simp; (first | done | with_reducible rfl))
  (try simp only [List.getElem_toArray, List.getElem_cons_succ, List.getElem_cons_zero, Act.put, List.setIfInBounds_toArray, List.set_cons_zero, List.set_cons_succ])
  refine wpAnyH_take (i := 1) (oi := _) (v := ?_) rfl (by kernel_rfl) (by kernel_rfl) (by kernel_rfl) (fun _ _ _ h => h) (Or.inl ⟨by rfl, ?_⟩) (by assumption) ?_; rotate_left; focus (intro W hSw; (try dsimp only at hSw); go_simp; (first | done | with_reducible rfl))
  (try simp only [List.getElem_toArray, List.getElem_cons_succ, List.getElem_cons_zero, Act.put, List.setIfInBounds_toArray, List.set_cons_zero, List.set_cons_succ])
  refine wpAnyH_take (i := 2) (oi := _) (v := ?_) rfl (by kernel_rfl) (by kernel_rfl) (by kernel_rfl) (fun _ _ _ h => h) (Or.inl ⟨by rfl, ?_⟩) (by assumption) ?_; rotate_left; focus (intro W hSw; (try dsimp only at hSw); go_simp; (first | done | with_reducible rfl))
  (try simp only [List.getElem_toArray, List.getElem_cons_succ, List.getElem_cons_zero, Act.put, List.setIfInBounds_toArray, List.set_cons_zero, List.set_cons_succ])
  refine wpAnyH_ready (rs := [3]) (by kernel_rfl) (by simp) ?_
  refine AllReadyH.cons (o := _) rfl (fun K hK => ?_) AllReadyH.nil
  go_simp
  refine hK.out _ _ (((Below.refl wa.heap.size wa).drew.alloc (Nat.le_refl _) (.cells #[.int .i64 0, .int .i64 14, .int .i64 60, .int .i64 120] 3)).cell (World.block_lt_of_cell? wa _ c2) |>.trans c2) (fun hsA => ?_)
  clear hK K hHeld
  refine wpAnyH_ready (rs := [4]) (by kernel_rfl) (by simp) ?_
  refine AllReadyH.cons (o := _) rfl (fun K hK => ?_) AllReadyH.nil
  go_simp
  go_at_call 42
  refine (among_new b _ 4 [0, 14, 60, 120] _ (by first | rfl | simp) (by omega) rfl (by decide) (by decide) HE.out.ok).mono ?_
  rintro e w7 ⟨⟨x7, rfl, hz7⟩, hok, hg⟩
  have HF := Lib.hid (HE.out.step hok hg)
  clear hok hg HE
  have hzb : 0 ≤ x7 ∧ x7 ≤ 120 := by simp at hz7; omega
  obtain ⟨⟨-, -, k2, k3, -, -, -, -⟩, -, -, -, y3, -, -, -, -⟩ := blk_cells HF.out.F
  go_wp2_with fail
  refine hK.out _ _ k2 (fun hsB => ?_)
  clear hK K hsA
  obtain ⟨hl0, hl1⟩ := HLo.out
  have hws : IntKind.i64.wrap (x2 + x7) = x2 + x7 := IntWalk.i64_in _ (by omega)
  have hmn := mn_le 120 (x2 + x7) (by omega) (by omega)
  refine wpAnyH_take (i := 5) (oi := _) (v := ?_) rfl (by kernel_rfl) (by kernel_rfl) (by kernel_rfl) (fun _ _ _ h => h) (Or.inl ⟨by rfl, ?_⟩) (by assumption) ?_; rotate_left; focus (intro W hSw; (try dsimp only at hSw); go_simp; (first | done | with_reducible rfl))
  (try simp only [List.getElem_toArray, List.getElem_cons_succ, List.getElem_cons_zero, Act.put, List.setIfInBounds_toArray, List.set_cons_zero, List.set_cons_succ])
  refine wpAnyH_ready (rs := [6]) (by kernel_rfl) (by simp) ?_
  refine AllReadyH.cons (o := _) rfl (fun K hK => ?_) AllReadyH.nil
  go_simp
  go_at_call 61
  refine (least_any 120 (x2 + x7) _).mono ?_
  rintro e wq ⟨rfl, hwq⟩
  obtain rfl := hwq.symm
  obtain ⟨hi, hhi⟩ : ∃ x, mnZ 120 (x2 + x7) = x := ⟨_, rfl⟩
  rw [hhi] at hmn ⊢
  go_wp2_with fail
  refine hK.out _ _ k2 (fun hsC => ?_)
  clear hK K hsB hws hhi
  refine wpAnyH_take (i := 7) (oi := _) (v := ?_) rfl (by kernel_rfl) (by kernel_rfl) (by kernel_rfl) (fun _ _ _ h => h) (Or.inl ⟨by rfl, ?_⟩) (by assumption) ?_; rotate_left; focus (intro W hSw; (try dsimp only at hSw); go_simp; (first | done | with_reducible rfl))
  (try simp only [List.getElem_toArray, List.getElem_cons_succ, List.getElem_cons_zero, Act.put, List.setIfInBounds_toArray, List.set_cons_zero, List.set_cons_succ])
  refine wpAnyH_ready (rs := [8]) (by kernel_rfl) (by simp) ?_
  refine AllReadyH.cons (o := _) rfl (fun K hK => ?_) AllReadyH.nil
  go_simp
  have HG := Lib.hid (HF.out.put_hi hi)
  refine hK.out _ _ (blk_cells HG.out.F).1.2.2.1 (fun hsD => ?_)
  clear hK K hsC
  refine wpAnyH_done (by kernel_rfl) ?_ _
  refine NoPanic.normal ?_
  (try simp only [List.getElem_toArray, List.getElem_cons_succ, List.getElem_cons_zero, Act.put, List.setIfInBounds_toArray, List.set_cons_zero, List.set_cons_succ])
  clear hsD k2 k3 y3 c2 HF
  generalize World.setCell _ _ _ = wu at *
  have HHIa := Lib.hid (show 0 ≤ hi ∧ hi ≤ 120 from hmn)
  clear hmn hl0 hl1 hzb hz7
  obtain ⟨⟨-, -, -, -, p4, p5, -, -⟩, -⟩ := blk_cells HG.out.F
  cases x3 with
  | true =>
    go_upto_region 5 with (fail)
    clear p4 p5
    obtain ⟨f, hf⟩ : ∃ f : Kl, (⟨id, x1, x2, hi, true, x4, x5, x6⟩ : Kl) = f := ⟨_, rfl⟩
    have HSM := Lib.hid (show Sm f from by rw [← hf]; exact HNm.out)
    have HHI := Lib.hid (show 0 ≤ f.hi ∧ f.hi ≤ 120 from by rw [← hf]; exact HHIa.out)
    have HX := Lib.hid (hf ▸ HG.out)
    clear hf HG HNm HHIa HLo
    go_wp2_with fail
    refine (pick_any b _ 70 _ (by omega) (by omega) (by omega) HX.out.ok).mono ?_
    rintro e w8 ⟨⟨x8, rfl, -, -⟩, hok, hg⟩
    have HS := Lib.hid (HX.out.step hok hg)
    clear hok hg HX
    have hq : x8 = 0 ∨ x8 = 1 ∨ x8 = 2 ∨ x8 = 3 ∨ x8 = 4 ∨ x8 = 5 ∨ (x8 ≠ 0 ∧ x8 ≠ 1 ∧ x8 ≠ 2 ∧ x8 ≠ 3 ∧ x8 ≠ 4 ∧ x8 ≠ 5) := by omega
    rcases hq with rfl | rfl | rfl | rfl | rfl | rfl | hq
    · skip
      go_wp2_with fail
      refine (among_new b _ 3 [0, 99, 100] _ (by first | rfl | simp) (by omega) rfl (by decide) (by decide) HS.out.ok).mono ?_
      rintro e w9 ⟨⟨x9, rfl, -⟩, hok, hg⟩
      have HT := Lib.hid (HS.out.step hok hg)
      clear hok hg HS
      obtain ⟨⟨c0, -, -, -, -, -, -, -⟩, d0, -, -, -, -, -, -, -⟩ := blk_cells HT.out.F
      go_upto_region 18 with (fail)
      have HU := Lib.hid (HT.out.put_id x9)
      clear c0 d0 HT
      generalize World.setCell _ _ _ = wu at *
      replace HSM := Lib.hid (show Sm (⟨x9, f.nm, f.lo, f.hi, f.wo, f.me, f.co, f.mo⟩ : Kl) from HSM.out)
      obtain ⟨⟨p0, p1, p2, p3, p4, p5, p6, p7⟩, -⟩ := blk_cells HU.out.F
      obtain ⟨⟨r0, r1, r2, r3, r4, r5, r6, r7⟩, y0, y1, y2, y3, y4, y5, y6, y7⟩ := blk_cells HU.out.R
      have hlg := HU.out.lg
      go_wp2
      clear p0 r0 y0 p1 r1 y1 p2 r2 y2 p3 r3 y3 p4 r4 y4 p5 r5 y5 p6 r6 y6 p7 r7 y7
      have hz := HU.out.fin
      generalize (World.setCell (World.setCell (World.setCell _ _ _) _ _) _ _) = w9 at *
      obtain ⟨hz1, hz2, hz3⟩ := hz
      obtain ⟨⟨u0, u1, u2, u3, u4, u5, u6, u7⟩, -⟩ := blk_cells hz1
      exact bodyPost_ret (by simp [results, Try.results43, go_sem, u0, u1, u2, u3, u4, u5, u6, u7]) rfl ⟨⟨_, rfl, HSM.out⟩, hz2.mono (by omega), hz3⟩
    · skip
      go_wp2_with fail
      refine (of_new b _ 3 16 [⟨#[]⟩, ⟨#[65]⟩, ⟨#[97, 98, 99, 100, 101, 102, 103, 104, 105, 106, 107]⟩] _ (by first | rfl | simp) (by omega) rfl (by decide) (by decide) (by decide) HS.out.ok).mono ?_
      rintro e w10 ⟨⟨x10, rfl, hx10⟩, hok, hg⟩
      have HT := Lib.hid (HS.out.step hok hg)
      clear hok hg HS
      obtain ⟨⟨-, c1, -, -, -, -, -, -⟩, -, d1, -, -, -, -, -, -⟩ := blk_cells HT.out.F
      go_upto_region 18 with (fail)
      have HU := Lib.hid (HT.out.put_nm x10)
      clear c1 d1 HT
      generalize World.setCell _ _ _ = wu at *
      replace HSM := Lib.hid (show Sm (⟨f.id, x10, f.lo, f.hi, f.wo, f.me, f.co, f.mo⟩ : Kl) from hx10)
      obtain ⟨⟨p0, p1, p2, p3, p4, p5, p6, p7⟩, -⟩ := blk_cells HU.out.F
      obtain ⟨⟨r0, r1, r2, r3, r4, r5, r6, r7⟩, y0, y1, y2, y3, y4, y5, y6, y7⟩ := blk_cells HU.out.R
      have hlg := HU.out.lg
      go_wp2
      clear p0 r0 y0 p1 r1 y1 p2 r2 y2 p3 r3 y3 p4 r4 y4 p5 r5 y5 p6 r6 y6 p7 r7 y7
      have hz := HU.out.fin
      generalize (World.setCell (World.setCell (World.setCell _ _ _) _ _) _ _) = w9 at *
      obtain ⟨hz1, hz2, hz3⟩ := hz
      obtain ⟨⟨u0, u1, u2, u3, u4, u5, u6, u7⟩, -⟩ := blk_cells hz1
      exact bodyPost_ret (by simp [results, Try.results43, go_sem, u0, u1, u2, u3, u4, u5, u6, u7]) rfl ⟨⟨_, rfl, HSM.out⟩, hz2.mono (by omega), hz3⟩
    · skip
      obtain ⟨⟨-, -, -, p3, -, -, -, -⟩, -⟩ := blk_cells HS.out.F
      have hwh : IntKind.i64.wrap (f.hi + 1) = f.hi + 1 := IntWalk.i64_in _ (by have := HHI.out; omega)
      go_wp2_with fail
      refine (among_new b _ 2 [-1, f.hi + 1] _ (by first | rfl | simp) (by omega) rfl (by decide) (by decide) HS.out.ok).mono ?_
      rintro e w11 ⟨⟨x11, rfl, -⟩, hok, hg⟩
      have HT := Lib.hid (HS.out.step hok hg)
      clear hok hg HS
      clear p3 hwh
      obtain ⟨⟨-, -, c2, -, -, -, -, -⟩, -, -, d2, -, -, -, -, -⟩ := blk_cells HT.out.F
      go_upto_region 18 with (fail)
      have HU := Lib.hid (HT.out.put_lo x11)
      clear c2 d2 HT
      generalize World.setCell _ _ _ = wu at *
      replace HSM := Lib.hid (show Sm (⟨f.id, f.nm, x11, f.hi, f.wo, f.me, f.co, f.mo⟩ : Kl) from HSM.out)
      obtain ⟨⟨p0, p1, p2, p3, p4, p5, p6, p7⟩, -⟩ := blk_cells HU.out.F
      obtain ⟨⟨r0, r1, r2, r3, r4, r5, r6, r7⟩, y0, y1, y2, y3, y4, y5, y6, y7⟩ := blk_cells HU.out.R
      have hlg := HU.out.lg
      go_wp2
      clear p0 r0 y0 p1 r1 y1 p2 r2 y2 p3 r3 y3 p4 r4 y4 p5 r5 y5 p6 r6 y6 p7 r7 y7
      have hz := HU.out.fin
      generalize (World.setCell (World.setCell (World.setCell _ _ _) _ _) _ _) = w9 at *
      obtain ⟨hz1, hz2, hz3⟩ := hz
      obtain ⟨⟨u0, u1, u2, u3, u4, u5, u6, u7⟩, -⟩ := blk_cells hz1
      exact bodyPost_ret (by simp [results, Try.results43, go_sem, u0, u1, u2, u3, u4, u5, u6, u7]) rfl ⟨⟨_, rfl, HSM.out⟩, hz2.mono (by omega), hz3⟩
    · skip
      have HT := HS
      clear HS
      obtain ⟨⟨-, -, -, c3, -, -, -, -⟩, -, -, -, d3, -, -, -, -⟩ := blk_cells HT.out.F
      go_upto_region 18 with (fail)
      have HU := Lib.hid (HT.out.put_hi 121)
      clear c3 d3 HT
      generalize World.setCell _ _ _ = wu at *
      replace HSM := Lib.hid (show Sm (⟨f.id, f.nm, f.lo, 121, f.wo, f.me, f.co, f.mo⟩ : Kl) from HSM.out)
      obtain ⟨⟨p0, p1, p2, p3, p4, p5, p6, p7⟩, -⟩ := blk_cells HU.out.F
      obtain ⟨⟨r0, r1, r2, r3, r4, r5, r6, r7⟩, y0, y1, y2, y3, y4, y5, y6, y7⟩ := blk_cells HU.out.R
      have hlg := HU.out.lg
      go_wp2
      clear p0 r0 y0 p1 r1 y1 p2 r2 y2 p3 r3 y3 p4 r4 y4 p5 r5 y5 p6 r6 y6 p7 r7 y7
      have hz := HU.out.fin
      generalize (World.setCell (World.setCell (World.setCell _ _ _) _ _) _ _) = w9 at *
      obtain ⟨hz1, hz2, hz3⟩ := hz
      obtain ⟨⟨u0, u1, u2, u3, u4, u5, u6, u7⟩, -⟩ := blk_cells hz1
      exact bodyPost_ret (by simp [results, Try.results43, go_sem, u0, u1, u2, u3, u4, u5, u6, u7]) rfl ⟨⟨_, rfl, HSM.out⟩, hz2.mono (by omega), hz3⟩
    · skip
      go_wp2_with fail
      refine (among_new b _ 2 [0, 21] _ (by first | rfl | simp) (by omega) rfl (by decide) (by decide) HS.out.ok).mono ?_
      rintro e w12 ⟨⟨x12, rfl, -⟩, hok, hg⟩
      have HT := Lib.hid (HS.out.step hok hg)
      clear hok hg HS
      obtain ⟨⟨-, -, -, -, -, -, c6, -⟩, -, -, -, -, -, -, d6, -⟩ := blk_cells HT.out.F
      go_upto_region 18 with (fail)
      have HU := Lib.hid (HT.out.put_co x12)
      clear c6 d6 HT
      generalize World.setCell _ _ _ = wu at *
      replace HSM := Lib.hid (show Sm (⟨f.id, f.nm, f.lo, f.hi, f.wo, f.me, x12, f.mo⟩ : Kl) from HSM.out)
      obtain ⟨⟨p0, p1, p2, p3, p4, p5, p6, p7⟩, -⟩ := blk_cells HU.out.F
      obtain ⟨⟨r0, r1, r2, r3, r4, r5, r6, r7⟩, y0, y1, y2, y3, y4, y5, y6, y7⟩ := blk_cells HU.out.R
      have hlg := HU.out.lg
      go_wp2
      clear p0 r0 y0 p1 r1 y1 p2 r2 y2 p3 r3 y3 p4 r4 y4 p5 r5 y5 p6 r6 y6 p7 r7 y7
      have hz := HU.out.fin
      generalize (World.setCell (World.setCell (World.setCell _ _ _) _ _) _ _) = w9 at *
      obtain ⟨hz1, hz2, hz3⟩ := hz
      obtain ⟨⟨u0, u1, u2, u3, u4, u5, u6, u7⟩, -⟩ := blk_cells hz1
      exact bodyPost_ret (by simp [results, Try.results43, go_sem, u0, u1, u2, u3, u4, u5, u6, u7]) rfl ⟨⟨_, rfl, HSM.out⟩, hz2.mono (by omega), hz3⟩
    · skip
      go_wp2_with fail
      refine (among_new b _ 2 [0, 501] _ (by first | rfl | simp) (by omega) rfl (by decide) (by decide) HS.out.ok).mono ?_
      rintro e w13 ⟨⟨x13, rfl, -⟩, hok, hg⟩
      have HT := Lib.hid (HS.out.step hok hg)
      clear hok hg HS
      obtain ⟨⟨-, -, -, -, -, -, -, c7⟩, -, -, -, -, -, -, -, d7⟩ := blk_cells HT.out.F
      go_upto_region 18 with (fail)
      have HU := Lib.hid (HT.out.put_mo x13)
      clear c7 d7 HT
      generalize World.setCell _ _ _ = wu at *
      replace HSM := Lib.hid (show Sm (⟨f.id, f.nm, f.lo, f.hi, f.wo, f.me, f.co, x13⟩ : Kl) from HSM.out)
      obtain ⟨⟨p0, p1, p2, p3, p4, p5, p6, p7⟩, -⟩ := blk_cells HU.out.F
      obtain ⟨⟨r0, r1, r2, r3, r4, r5, r6, r7⟩, y0, y1, y2, y3, y4, y5, y6, y7⟩ := blk_cells HU.out.R
      have hlg := HU.out.lg
      go_wp2
      clear p0 r0 y0 p1 r1 y1 p2 r2 y2 p3 r3 y3 p4 r4 y4 p5 r5 y5 p6 r6 y6 p7 r7 y7
      have hz := HU.out.fin
      generalize (World.setCell (World.setCell (World.setCell _ _ _) _ _) _ _) = w9 at *
      obtain ⟨hz1, hz2, hz3⟩ := hz
      obtain ⟨⟨u0, u1, u2, u3, u4, u5, u6, u7⟩, -⟩ := blk_cells hz1
      exact bodyPost_ret (by simp [results, Try.results43, go_sem, u0, u1, u2, u3, u4, u5, u6, u7]) rfl ⟨⟨_, rfl, HSM.out⟩, hz2.mono (by omega), hz3⟩
    · obtain ⟨q0, q1, q2, q3, q4, q5⟩ := hq
      have e0 : ((x8 : Int) == 0) = false := by simp; omega
      have e1 : ((x8 : Int) == 1) = false := by simp; omega
      have e2 : ((x8 : Int) == 2) = false := by simp; omega
      have e3 : ((x8 : Int) == 3) = false := by simp; omega
      have e4 : ((x8 : Int) == 4) = false := by simp; omega
      have e5 : ((x8 : Int) == 5) = false := by simp; omega
      clear q0 q1 q2 q3 q4 q5
      obtain ⟨⟨p0, p1, p2, p3, p4, p5, p6, p7⟩, -⟩ := blk_cells HS.out.F
      obtain ⟨⟨r0, r1, r2, r3, r4, r5, r6, r7⟩, y0, y1, y2, y3, y4, y5, y6, y7⟩ := blk_cells HS.out.R
      have hlg := HS.out.lg
      go_wp2
      clear p0 r0 y0 p1 r1 y1 p2 r2 y2 p3 r3 y3 p4 r4 y4 p5 r5 y5 p6 r6 y6 p7 r7 y7
      have hz := HS.out.fin
      generalize (World.setCell (World.setCell (World.setCell _ _ _) _ _) _ _) = w9 at *
      obtain ⟨hz1, hz2, hz3⟩ := hz
      obtain ⟨⟨u0, u1, u2, u3, u4, u5, u6, u7⟩, -⟩ := blk_cells hz1
      exact bodyPost_ret (by simp [results, Try.results43, go_sem, u0, u1, u2, u3, u4, u5, u6, u7]) rfl ⟨⟨_, rfl, HSM.out⟩, hz2.mono (by omega), hz3⟩
  | false =>
    cases x4 with
    | true =>
      go_upto_region 5 with (fail)
      clear p4 p5
      obtain ⟨f, hf⟩ : ∃ f : Kl, (⟨id, x1, x2, hi, false, true, x5, x6⟩ : Kl) = f := ⟨_, rfl⟩
      have HSM := Lib.hid (show Sm f from by rw [← hf]; exact HNm.out)
      have HHI := Lib.hid (show 0 ≤ f.hi ∧ f.hi ≤ 120 from by rw [← hf]; exact HHIa.out)
      have HX := Lib.hid (hf ▸ HG.out)
      clear hf HG HNm HHIa HLo
      go_wp2_with fail
      refine (pick_any b _ 70 _ (by omega) (by omega) (by omega) HX.out.ok).mono ?_
      rintro e w14 ⟨⟨x14, rfl, -, -⟩, hok, hg⟩
      have HS := Lib.hid (HX.out.step hok hg)
      clear hok hg HX
      have hq : x14 = 0 ∨ x14 = 1 ∨ x14 = 2 ∨ x14 = 3 ∨ x14 = 4 ∨ x14 = 5 ∨ (x14 ≠ 0 ∧ x14 ≠ 1 ∧ x14 ≠ 2 ∧ x14 ≠ 3 ∧ x14 ≠ 4 ∧ x14 ≠ 5) := by omega
      rcases hq with rfl | rfl | rfl | rfl | rfl | rfl | hq
      · skip
        go_wp2_with fail
        refine (among_new b _ 3 [0, 99, 100] _ (by first | rfl | simp) (by omega) rfl (by decide) (by decide) HS.out.ok).mono ?_
        rintro e w15 ⟨⟨x15, rfl, -⟩, hok, hg⟩
        have HT := Lib.hid (HS.out.step hok hg)
        clear hok hg HS
        obtain ⟨⟨c0, -, -, -, -, -, -, -⟩, d0, -, -, -, -, -, -, -⟩ := blk_cells HT.out.F
        go_upto_region 18 with (fail)
        have HU := Lib.hid (HT.out.put_id x15)
        clear c0 d0 HT
        generalize World.setCell _ _ _ = wu at *
        replace HSM := Lib.hid (show Sm (⟨x15, f.nm, f.lo, f.hi, f.wo, f.me, f.co, f.mo⟩ : Kl) from HSM.out)
        obtain ⟨⟨p0, p1, p2, p3, p4, p5, p6, p7⟩, -⟩ := blk_cells HU.out.F
        obtain ⟨⟨r0, r1, r2, r3, r4, r5, r6, r7⟩, y0, y1, y2, y3, y4, y5, y6, y7⟩ := blk_cells HU.out.R
        have hlg := HU.out.lg
        go_wp2
        clear p0 r0 y0 p1 r1 y1 p2 r2 y2 p3 r3 y3 p4 r4 y4 p5 r5 y5 p6 r6 y6 p7 r7 y7
        have hz := HU.out.fin
        generalize (World.setCell (World.setCell (World.setCell _ _ _) _ _) _ _) = w9 at *
        obtain ⟨hz1, hz2, hz3⟩ := hz
        obtain ⟨⟨u0, u1, u2, u3, u4, u5, u6, u7⟩, -⟩ := blk_cells hz1
        exact bodyPost_ret (by simp [results, Try.results43, go_sem, u0, u1, u2, u3, u4, u5, u6, u7]) rfl ⟨⟨_, rfl, HSM.out⟩, hz2.mono (by omega), hz3⟩
      · skip
        go_wp2_with fail
        refine (of_new b _ 3 16 [⟨#[]⟩, ⟨#[65]⟩, ⟨#[97, 98, 99, 100, 101, 102, 103, 104, 105, 106, 107]⟩] _ (by first | rfl | simp) (by omega) rfl (by decide) (by decide) (by decide) HS.out.ok).mono ?_
        rintro e w16 ⟨⟨x16, rfl, hx16⟩, hok, hg⟩
        have HT := Lib.hid (HS.out.step hok hg)
        clear hok hg HS
        obtain ⟨⟨-, c1, -, -, -, -, -, -⟩, -, d1, -, -, -, -, -, -⟩ := blk_cells HT.out.F
        go_upto_region 18 with (fail)
        have HU := Lib.hid (HT.out.put_nm x16)
        clear c1 d1 HT
        generalize World.setCell _ _ _ = wu at *
        replace HSM := Lib.hid (show Sm (⟨f.id, x16, f.lo, f.hi, f.wo, f.me, f.co, f.mo⟩ : Kl) from hx16)
        obtain ⟨⟨p0, p1, p2, p3, p4, p5, p6, p7⟩, -⟩ := blk_cells HU.out.F
        obtain ⟨⟨r0, r1, r2, r3, r4, r5, r6, r7⟩, y0, y1, y2, y3, y4, y5, y6, y7⟩ := blk_cells HU.out.R
        have hlg := HU.out.lg
        go_wp2
        clear p0 r0 y0 p1 r1 y1 p2 r2 y2 p3 r3 y3 p4 r4 y4 p5 r5 y5 p6 r6 y6 p7 r7 y7
        have hz := HU.out.fin
        generalize (World.setCell (World.setCell (World.setCell _ _ _) _ _) _ _) = w9 at *
        obtain ⟨hz1, hz2, hz3⟩ := hz
        obtain ⟨⟨u0, u1, u2, u3, u4, u5, u6, u7⟩, -⟩ := blk_cells hz1
        exact bodyPost_ret (by simp [results, Try.results43, go_sem, u0, u1, u2, u3, u4, u5, u6, u7]) rfl ⟨⟨_, rfl, HSM.out⟩, hz2.mono (by omega), hz3⟩
      · skip
        obtain ⟨⟨-, -, -, p3, -, -, -, -⟩, -⟩ := blk_cells HS.out.F
        have hwh : IntKind.i64.wrap (f.hi + 1) = f.hi + 1 := IntWalk.i64_in _ (by have := HHI.out; omega)
        go_wp2_with fail
        refine (among_new b _ 2 [-1, f.hi + 1] _ (by first | rfl | simp) (by omega) rfl (by decide) (by decide) HS.out.ok).mono ?_
        rintro e w17 ⟨⟨x17, rfl, -⟩, hok, hg⟩
        have HT := Lib.hid (HS.out.step hok hg)
        clear hok hg HS
        clear p3 hwh
        obtain ⟨⟨-, -, c2, -, -, -, -, -⟩, -, -, d2, -, -, -, -, -⟩ := blk_cells HT.out.F
        go_upto_region 18 with (fail)
        have HU := Lib.hid (HT.out.put_lo x17)
        clear c2 d2 HT
        generalize World.setCell _ _ _ = wu at *
        replace HSM := Lib.hid (show Sm (⟨f.id, f.nm, x17, f.hi, f.wo, f.me, f.co, f.mo⟩ : Kl) from HSM.out)
        obtain ⟨⟨p0, p1, p2, p3, p4, p5, p6, p7⟩, -⟩ := blk_cells HU.out.F
        obtain ⟨⟨r0, r1, r2, r3, r4, r5, r6, r7⟩, y0, y1, y2, y3, y4, y5, y6, y7⟩ := blk_cells HU.out.R
        have hlg := HU.out.lg
        go_wp2
        clear p0 r0 y0 p1 r1 y1 p2 r2 y2 p3 r3 y3 p4 r4 y4 p5 r5 y5 p6 r6 y6 p7 r7 y7
        have hz := HU.out.fin
        generalize (World.setCell (World.setCell (World.setCell _ _ _) _ _) _ _) = w9 at *
        obtain ⟨hz1, hz2, hz3⟩ := hz
        obtain ⟨⟨u0, u1, u2, u3, u4, u5, u6, u7⟩, -⟩ := blk_cells hz1
        exact bodyPost_ret (by simp [results, Try.results43, go_sem, u0, u1, u2, u3, u4, u5, u6, u7]) rfl ⟨⟨_, rfl, HSM.out⟩, hz2.mono (by omega), hz3⟩
      · skip
        have HT := HS
        clear HS
        obtain ⟨⟨-, -, -, c3, -, -, -, -⟩, -, -, -, d3, -, -, -, -⟩ := blk_cells HT.out.F
        go_upto_region 18 with (fail)
        have HU := Lib.hid (HT.out.put_hi 121)
        clear c3 d3 HT
        generalize World.setCell _ _ _ = wu at *
        replace HSM := Lib.hid (show Sm (⟨f.id, f.nm, f.lo, 121, f.wo, f.me, f.co, f.mo⟩ : Kl) from HSM.out)
        obtain ⟨⟨p0, p1, p2, p3, p4, p5, p6, p7⟩, -⟩ := blk_cells HU.out.F
        obtain ⟨⟨r0, r1, r2, r3, r4, r5, r6, r7⟩, y0, y1, y2, y3, y4, y5, y6, y7⟩ := blk_cells HU.out.R
        have hlg := HU.out.lg
        go_wp2
        clear p0 r0 y0 p1 r1 y1 p2 r2 y2 p3 r3 y3 p4 r4 y4 p5 r5 y5 p6 r6 y6 p7 r7 y7
        have hz := HU.out.fin
        generalize (World.setCell (World.setCell (World.setCell _ _ _) _ _) _ _) = w9 at *
        obtain ⟨hz1, hz2, hz3⟩ := hz
        obtain ⟨⟨u0, u1, u2, u3, u4, u5, u6, u7⟩, -⟩ := blk_cells hz1
        exact bodyPost_ret (by simp [results, Try.results43, go_sem, u0, u1, u2, u3, u4, u5, u6, u7]) rfl ⟨⟨_, rfl, HSM.out⟩, hz2.mono (by omega), hz3⟩
      · skip
        go_wp2_with fail
        refine (among_new b _ 2 [0, 21] _ (by first | rfl | simp) (by omega) rfl (by decide) (by decide) HS.out.ok).mono ?_
        rintro e w18 ⟨⟨x18, rfl, -⟩, hok, hg⟩
        have HT := Lib.hid (HS.out.step hok hg)
        clear hok hg HS
        obtain ⟨⟨-, -, -, -, -, -, c6, -⟩, -, -, -, -, -, -, d6, -⟩ := blk_cells HT.out.F
        go_upto_region 18 with (fail)
        have HU := Lib.hid (HT.out.put_co x18)
        clear c6 d6 HT
        generalize World.setCell _ _ _ = wu at *
        replace HSM := Lib.hid (show Sm (⟨f.id, f.nm, f.lo, f.hi, f.wo, f.me, x18, f.mo⟩ : Kl) from HSM.out)
        obtain ⟨⟨p0, p1, p2, p3, p4, p5, p6, p7⟩, -⟩ := blk_cells HU.out.F
        obtain ⟨⟨r0, r1, r2, r3, r4, r5, r6, r7⟩, y0, y1, y2, y3, y4, y5, y6, y7⟩ := blk_cells HU.out.R
        have hlg := HU.out.lg
        go_wp2
        clear p0 r0 y0 p1 r1 y1 p2 r2 y2 p3 r3 y3 p4 r4 y4 p5 r5 y5 p6 r6 y6 p7 r7 y7
        have hz := HU.out.fin
        generalize (World.setCell (World.setCell (World.setCell _ _ _) _ _) _ _) = w9 at *
        obtain ⟨hz1, hz2, hz3⟩ := hz
        obtain ⟨⟨u0, u1, u2, u3, u4, u5, u6, u7⟩, -⟩ := blk_cells hz1
        exact bodyPost_ret (by simp [results, Try.results43, go_sem, u0, u1, u2, u3, u4, u5, u6, u7]) rfl ⟨⟨_, rfl, HSM.out⟩, hz2.mono (by omega), hz3⟩
      · skip
        go_wp2_with fail
        refine (among_new b _ 2 [0, 501] _ (by first | rfl | simp) (by omega) rfl (by decide) (by decide) HS.out.ok).mono ?_
        rintro e w19 ⟨⟨x19, rfl, -⟩, hok, hg⟩
        have HT := Lib.hid (HS.out.step hok hg)
        clear hok hg HS
        obtain ⟨⟨-, -, -, -, -, -, -, c7⟩, -, -, -, -, -, -, -, d7⟩ := blk_cells HT.out.F
        go_upto_region 18 with (fail)
        have HU := Lib.hid (HT.out.put_mo x19)
        clear c7 d7 HT
        generalize World.setCell _ _ _ = wu at *
        replace HSM := Lib.hid (show Sm (⟨f.id, f.nm, f.lo, f.hi, f.wo, f.me, f.co, x19⟩ : Kl) from HSM.out)
        obtain ⟨⟨p0, p1, p2, p3, p4, p5, p6, p7⟩, -⟩ := blk_cells HU.out.F
        obtain ⟨⟨r0, r1, r2, r3, r4, r5, r6, r7⟩, y0, y1, y2, y3, y4, y5, y6, y7⟩ := blk_cells HU.out.R
        have hlg := HU.out.lg
        go_wp2
        clear p0 r0 y0 p1 r1 y1 p2 r2 y2 p3 r3 y3 p4 r4 y4 p5 r5 y5 p6 r6 y6 p7 r7 y7
        have hz := HU.out.fin
        generalize (World.setCell (World.setCell (World.setCell _ _ _) _ _) _ _) = w9 at *
        obtain ⟨hz1, hz2, hz3⟩ := hz
        obtain ⟨⟨u0, u1, u2, u3, u4, u5, u6, u7⟩, -⟩ := blk_cells hz1
        exact bodyPost_ret (by simp [results, Try.results43, go_sem, u0, u1, u2, u3, u4, u5, u6, u7]) rfl ⟨⟨_, rfl, HSM.out⟩, hz2.mono (by omega), hz3⟩
      · obtain ⟨q0, q1, q2, q3, q4, q5⟩ := hq
        have e0 : ((x14 : Int) == 0) = false := by simp; omega
        have e1 : ((x14 : Int) == 1) = false := by simp; omega
        have e2 : ((x14 : Int) == 2) = false := by simp; omega
        have e3 : ((x14 : Int) == 3) = false := by simp; omega
        have e4 : ((x14 : Int) == 4) = false := by simp; omega
        have e5 : ((x14 : Int) == 5) = false := by simp; omega
        clear q0 q1 q2 q3 q4 q5
        obtain ⟨⟨p0, p1, p2, p3, p4, p5, p6, p7⟩, -⟩ := blk_cells HS.out.F
        obtain ⟨⟨r0, r1, r2, r3, r4, r5, r6, r7⟩, y0, y1, y2, y3, y4, y5, y6, y7⟩ := blk_cells HS.out.R
        have hlg := HS.out.lg
        go_wp2
        clear p0 r0 y0 p1 r1 y1 p2 r2 y2 p3 r3 y3 p4 r4 y4 p5 r5 y5 p6 r6 y6 p7 r7 y7
        have hz := HS.out.fin
        generalize (World.setCell (World.setCell (World.setCell _ _ _) _ _) _ _) = w9 at *
        obtain ⟨hz1, hz2, hz3⟩ := hz
        obtain ⟨⟨u0, u1, u2, u3, u4, u5, u6, u7⟩, -⟩ := blk_cells hz1
        exact bodyPost_ret (by simp [results, Try.results43, go_sem, u0, u1, u2, u3, u4, u5, u6, u7]) rfl ⟨⟨_, rfl, HSM.out⟩, hz2.mono (by omega), hz3⟩
    | false =>
      go_wp2_with fail
      clear p4 p5
      refine (one_any b _ 20 _ (by omega) (by omega) (by omega) HG.out.ok).mono ?_
      rintro e w20 ⟨⟨x20, rfl⟩, hok, hg⟩
      have HH := Lib.hid (HG.out.step hok hg)
      clear hok hg HG
      cases x20 with
      | true =>
        go_upto_region 5 with (fail)
        obtain ⟨f, hf⟩ : ∃ f : Kl, (⟨id, x1, x2, hi, false, false, x5, x6⟩ : Kl) = f := ⟨_, rfl⟩
        have HSM := Lib.hid (show Sm f from by rw [← hf]; exact HNm.out)
        have HHI := Lib.hid (show 0 ≤ f.hi ∧ f.hi ≤ 120 from by rw [← hf]; exact HHIa.out)
        have HX := Lib.hid (hf ▸ HH.out)
        clear hf HH HNm HHIa HLo
        go_wp2_with fail
        refine (pick_any b _ 70 _ (by omega) (by omega) (by omega) HX.out.ok).mono ?_
        rintro e w21 ⟨⟨x21, rfl, -, -⟩, hok, hg⟩
        have HS := Lib.hid (HX.out.step hok hg)
        clear hok hg HX
        have hq : x21 = 0 ∨ x21 = 1 ∨ x21 = 2 ∨ x21 = 3 ∨ x21 = 4 ∨ x21 = 5 ∨ (x21 ≠ 0 ∧ x21 ≠ 1 ∧ x21 ≠ 2 ∧ x21 ≠ 3 ∧ x21 ≠ 4 ∧ x21 ≠ 5) := by omega
        rcases hq with rfl | rfl | rfl | rfl | rfl | rfl | hq
        · skip
          go_wp2_with fail
          refine (among_new b _ 3 [0, 99, 100] _ (by first | rfl | simp) (by omega) rfl (by decide) (by decide) HS.out.ok).mono ?_
          rintro e w22 ⟨⟨x22, rfl, -⟩, hok, hg⟩
          have HT := Lib.hid (HS.out.step hok hg)
          clear hok hg HS
          obtain ⟨⟨c0, -, -, -, -, -, -, -⟩, d0, -, -, -, -, -, -, -⟩ := blk_cells HT.out.F
          go_upto_region 18 with (fail)
          have HU := Lib.hid (HT.out.put_id x22)
          clear c0 d0 HT
          generalize World.setCell _ _ _ = wu at *
          replace HSM := Lib.hid (show Sm (⟨x22, f.nm, f.lo, f.hi, f.wo, f.me, f.co, f.mo⟩ : Kl) from HSM.out)
          obtain ⟨⟨p0, p1, p2, p3, p4, p5, p6, p7⟩, -⟩ := blk_cells HU.out.F
          obtain ⟨⟨r0, r1, r2, r3, r4, r5, r6, r7⟩, y0, y1, y2, y3, y4, y5, y6, y7⟩ := blk_cells HU.out.R
          have hlg := HU.out.lg
          go_wp2
          clear p0 r0 y0 p1 r1 y1 p2 r2 y2 p3 r3 y3 p4 r4 y4 p5 r5 y5 p6 r6 y6 p7 r7 y7
          have hz := HU.out.fin
          generalize (World.setCell (World.setCell (World.setCell _ _ _) _ _) _ _) = w9 at *
          obtain ⟨hz1, hz2, hz3⟩ := hz
          obtain ⟨⟨u0, u1, u2, u3, u4, u5, u6, u7⟩, -⟩ := blk_cells hz1
          exact bodyPost_ret (by simp [results, Try.results43, go_sem, u0, u1, u2, u3, u4, u5, u6, u7]) rfl ⟨⟨_, rfl, HSM.out⟩, hz2.mono (by omega), hz3⟩
        · skip
          go_wp2_with fail
          refine (of_new b _ 3 16 [⟨#[]⟩, ⟨#[65]⟩, ⟨#[97, 98, 99, 100, 101, 102, 103, 104, 105, 106, 107]⟩] _ (by first | rfl | simp) (by omega) rfl (by decide) (by decide) (by decide) HS.out.ok).mono ?_
          rintro e w23 ⟨⟨x23, rfl, hx23⟩, hok, hg⟩
          have HT := Lib.hid (HS.out.step hok hg)
          clear hok hg HS
          obtain ⟨⟨-, c1, -, -, -, -, -, -⟩, -, d1, -, -, -, -, -, -⟩ := blk_cells HT.out.F
          go_upto_region 18 with (fail)
          have HU := Lib.hid (HT.out.put_nm x23)
          clear c1 d1 HT
          generalize World.setCell _ _ _ = wu at *
          replace HSM := Lib.hid (show Sm (⟨f.id, x23, f.lo, f.hi, f.wo, f.me, f.co, f.mo⟩ : Kl) from hx23)
          obtain ⟨⟨p0, p1, p2, p3, p4, p5, p6, p7⟩, -⟩ := blk_cells HU.out.F
          obtain ⟨⟨r0, r1, r2, r3, r4, r5, r6, r7⟩, y0, y1, y2, y3, y4, y5, y6, y7⟩ := blk_cells HU.out.R
          have hlg := HU.out.lg
          go_wp2
          clear p0 r0 y0 p1 r1 y1 p2 r2 y2 p3 r3 y3 p4 r4 y4 p5 r5 y5 p6 r6 y6 p7 r7 y7
          have hz := HU.out.fin
          generalize (World.setCell (World.setCell (World.setCell _ _ _) _ _) _ _) = w9 at *
          obtain ⟨hz1, hz2, hz3⟩ := hz
          obtain ⟨⟨u0, u1, u2, u3, u4, u5, u6, u7⟩, -⟩ := blk_cells hz1
          exact bodyPost_ret (by simp [results, Try.results43, go_sem, u0, u1, u2, u3, u4, u5, u6, u7]) rfl ⟨⟨_, rfl, HSM.out⟩, hz2.mono (by omega), hz3⟩
        · skip
          obtain ⟨⟨-, -, -, p3, -, -, -, -⟩, -⟩ := blk_cells HS.out.F
          have hwh : IntKind.i64.wrap (f.hi + 1) = f.hi + 1 := IntWalk.i64_in _ (by have := HHI.out; omega)
          go_wp2_with fail
          refine (among_new b _ 2 [-1, f.hi + 1] _ (by first | rfl | simp) (by omega) rfl (by decide) (by decide) HS.out.ok).mono ?_
          rintro e w24 ⟨⟨x24, rfl, -⟩, hok, hg⟩
          have HT := Lib.hid (HS.out.step hok hg)
          clear hok hg HS
          clear p3 hwh
          obtain ⟨⟨-, -, c2, -, -, -, -, -⟩, -, -, d2, -, -, -, -, -⟩ := blk_cells HT.out.F
          go_upto_region 18 with (fail)
          have HU := Lib.hid (HT.out.put_lo x24)
          clear c2 d2 HT
          generalize World.setCell _ _ _ = wu at *
          replace HSM := Lib.hid (show Sm (⟨f.id, f.nm, x24, f.hi, f.wo, f.me, f.co, f.mo⟩ : Kl) from HSM.out)
          obtain ⟨⟨p0, p1, p2, p3, p4, p5, p6, p7⟩, -⟩ := blk_cells HU.out.F
          obtain ⟨⟨r0, r1, r2, r3, r4, r5, r6, r7⟩, y0, y1, y2, y3, y4, y5, y6, y7⟩ := blk_cells HU.out.R
          have hlg := HU.out.lg
          go_wp2
          clear p0 r0 y0 p1 r1 y1 p2 r2 y2 p3 r3 y3 p4 r4 y4 p5 r5 y5 p6 r6 y6 p7 r7 y7
          have hz := HU.out.fin
          generalize (World.setCell (World.setCell (World.setCell _ _ _) _ _) _ _) = w9 at *
          obtain ⟨hz1, hz2, hz3⟩ := hz
          obtain ⟨⟨u0, u1, u2, u3, u4, u5, u6, u7⟩, -⟩ := blk_cells hz1
          exact bodyPost_ret (by simp [results, Try.results43, go_sem, u0, u1, u2, u3, u4, u5, u6, u7]) rfl ⟨⟨_, rfl, HSM.out⟩, hz2.mono (by omega), hz3⟩
        · skip
          have HT := HS
          clear HS
          obtain ⟨⟨-, -, -, c3, -, -, -, -⟩, -, -, -, d3, -, -, -, -⟩ := blk_cells HT.out.F
          go_upto_region 18 with (fail)
          have HU := Lib.hid (HT.out.put_hi 121)
          clear c3 d3 HT
          generalize World.setCell _ _ _ = wu at *
          replace HSM := Lib.hid (show Sm (⟨f.id, f.nm, f.lo, 121, f.wo, f.me, f.co, f.mo⟩ : Kl) from HSM.out)
          obtain ⟨⟨p0, p1, p2, p3, p4, p5, p6, p7⟩, -⟩ := blk_cells HU.out.F
          obtain ⟨⟨r0, r1, r2, r3, r4, r5, r6, r7⟩, y0, y1, y2, y3, y4, y5, y6, y7⟩ := blk_cells HU.out.R
          have hlg := HU.out.lg
          go_wp2
          clear p0 r0 y0 p1 r1 y1 p2 r2 y2 p3 r3 y3 p4 r4 y4 p5 r5 y5 p6 r6 y6 p7 r7 y7
          have hz := HU.out.fin
          generalize (World.setCell (World.setCell (World.setCell _ _ _) _ _) _ _) = w9 at *
          obtain ⟨hz1, hz2, hz3⟩ := hz
          obtain ⟨⟨u0, u1, u2, u3, u4, u5, u6, u7⟩, -⟩ := blk_cells hz1
          exact bodyPost_ret (by simp [results, Try.results43, go_sem, u0, u1, u2, u3, u4, u5, u6, u7]) rfl ⟨⟨_, rfl, HSM.out⟩, hz2.mono (by omega), hz3⟩
        · skip
          go_wp2_with fail
          refine (among_new b _ 2 [0, 21] _ (by first | rfl | simp) (by omega) rfl (by decide) (by decide) HS.out.ok).mono ?_
          rintro e w25 ⟨⟨x25, rfl, -⟩, hok, hg⟩
          have HT := Lib.hid (HS.out.step hok hg)
          clear hok hg HS
          obtain ⟨⟨-, -, -, -, -, -, c6, -⟩, -, -, -, -, -, -, d6, -⟩ := blk_cells HT.out.F
          go_upto_region 18 with (fail)
          have HU := Lib.hid (HT.out.put_co x25)
          clear c6 d6 HT
          generalize World.setCell _ _ _ = wu at *
          replace HSM := Lib.hid (show Sm (⟨f.id, f.nm, f.lo, f.hi, f.wo, f.me, x25, f.mo⟩ : Kl) from HSM.out)
          obtain ⟨⟨p0, p1, p2, p3, p4, p5, p6, p7⟩, -⟩ := blk_cells HU.out.F
          obtain ⟨⟨r0, r1, r2, r3, r4, r5, r6, r7⟩, y0, y1, y2, y3, y4, y5, y6, y7⟩ := blk_cells HU.out.R
          have hlg := HU.out.lg
          go_wp2
          clear p0 r0 y0 p1 r1 y1 p2 r2 y2 p3 r3 y3 p4 r4 y4 p5 r5 y5 p6 r6 y6 p7 r7 y7
          have hz := HU.out.fin
          generalize (World.setCell (World.setCell (World.setCell _ _ _) _ _) _ _) = w9 at *
          obtain ⟨hz1, hz2, hz3⟩ := hz
          obtain ⟨⟨u0, u1, u2, u3, u4, u5, u6, u7⟩, -⟩ := blk_cells hz1
          exact bodyPost_ret (by simp [results, Try.results43, go_sem, u0, u1, u2, u3, u4, u5, u6, u7]) rfl ⟨⟨_, rfl, HSM.out⟩, hz2.mono (by omega), hz3⟩
        · skip
          go_wp2_with fail
          refine (among_new b _ 2 [0, 501] _ (by first | rfl | simp) (by omega) rfl (by decide) (by decide) HS.out.ok).mono ?_
          rintro e w26 ⟨⟨x26, rfl, -⟩, hok, hg⟩
          have HT := Lib.hid (HS.out.step hok hg)
          clear hok hg HS
          obtain ⟨⟨-, -, -, -, -, -, -, c7⟩, -, -, -, -, -, -, -, d7⟩ := blk_cells HT.out.F
          go_upto_region 18 with (fail)
          have HU := Lib.hid (HT.out.put_mo x26)
          clear c7 d7 HT
          generalize World.setCell _ _ _ = wu at *
          replace HSM := Lib.hid (show Sm (⟨f.id, f.nm, f.lo, f.hi, f.wo, f.me, f.co, x26⟩ : Kl) from HSM.out)
          obtain ⟨⟨p0, p1, p2, p3, p4, p5, p6, p7⟩, -⟩ := blk_cells HU.out.F
          obtain ⟨⟨r0, r1, r2, r3, r4, r5, r6, r7⟩, y0, y1, y2, y3, y4, y5, y6, y7⟩ := blk_cells HU.out.R
          have hlg := HU.out.lg
          go_wp2
          clear p0 r0 y0 p1 r1 y1 p2 r2 y2 p3 r3 y3 p4 r4 y4 p5 r5 y5 p6 r6 y6 p7 r7 y7
          have hz := HU.out.fin
          generalize (World.setCell (World.setCell (World.setCell _ _ _) _ _) _ _) = w9 at *
          obtain ⟨hz1, hz2, hz3⟩ := hz
          obtain ⟨⟨u0, u1, u2, u3, u4, u5, u6, u7⟩, -⟩ := blk_cells hz1
          exact bodyPost_ret (by simp [results, Try.results43, go_sem, u0, u1, u2, u3, u4, u5, u6, u7]) rfl ⟨⟨_, rfl, HSM.out⟩, hz2.mono (by omega), hz3⟩
        · obtain ⟨q0, q1, q2, q3, q4, q5⟩ := hq
          have e0 : ((x21 : Int) == 0) = false := by simp; omega
          have e1 : ((x21 : Int) == 1) = false := by simp; omega
          have e2 : ((x21 : Int) == 2) = false := by simp; omega
          have e3 : ((x21 : Int) == 3) = false := by simp; omega
          have e4 : ((x21 : Int) == 4) = false := by simp; omega
          have e5 : ((x21 : Int) == 5) = false := by simp; omega
          clear q0 q1 q2 q3 q4 q5
          obtain ⟨⟨p0, p1, p2, p3, p4, p5, p6, p7⟩, -⟩ := blk_cells HS.out.F
          obtain ⟨⟨r0, r1, r2, r3, r4, r5, r6, r7⟩, y0, y1, y2, y3, y4, y5, y6, y7⟩ := blk_cells HS.out.R
          have hlg := HS.out.lg
          go_wp2
          clear p0 r0 y0 p1 r1 y1 p2 r2 y2 p3 r3 y3 p4 r4 y4 p5 r5 y5 p6 r6 y6 p7 r7 y7
          have hz := HS.out.fin
          generalize (World.setCell (World.setCell (World.setCell _ _ _) _ _) _ _) = w9 at *
          obtain ⟨hz1, hz2, hz3⟩ := hz
          obtain ⟨⟨u0, u1, u2, u3, u4, u5, u6, u7⟩, -⟩ := blk_cells hz1
          exact bodyPost_ret (by simp [results, Try.results43, go_sem, u0, u1, u2, u3, u4, u5, u6, u7]) rfl ⟨⟨_, rfl, HSM.out⟩, hz2.mono (by omega), hz3⟩
      | false =>
        obtain ⟨⟨-, -, -, -, -, c5, -, -⟩, -, -, -, -, -, d5, -, -⟩ := blk_cells HH.out.F
        go_upto_region 5 with (fail)
        have HJ := Lib.hid (HH.out.put_me true)
        clear c5 d5 HH
        generalize World.setCell _ _ _ = wv at *
        obtain ⟨f, hf⟩ : ∃ f : Kl, (⟨id, x1, x2, hi, false, true, x5, x6⟩ : Kl) = f := ⟨_, rfl⟩
        have HSM := Lib.hid (show Sm f from by rw [← hf]; exact HNm.out)
        have HHI := Lib.hid (show 0 ≤ f.hi ∧ f.hi ≤ 120 from by rw [← hf]; exact HHIa.out)
        have HX := Lib.hid (hf ▸ HJ.out)
        clear hf HJ HNm HHIa HLo
        go_wp2_with fail
        refine (pick_any b _ 70 _ (by omega) (by omega) (by omega) HX.out.ok).mono ?_
        rintro e w27 ⟨⟨x27, rfl, -, -⟩, hok, hg⟩
        have HS := Lib.hid (HX.out.step hok hg)
        clear hok hg HX
        have hq : x27 = 0 ∨ x27 = 1 ∨ x27 = 2 ∨ x27 = 3 ∨ x27 = 4 ∨ x27 = 5 ∨ (x27 ≠ 0 ∧ x27 ≠ 1 ∧ x27 ≠ 2 ∧ x27 ≠ 3 ∧ x27 ≠ 4 ∧ x27 ≠ 5) := by omega
        rcases hq with rfl | rfl | rfl | rfl | rfl | rfl | hq
        · skip
          go_wp2_with fail
          refine (among_new b _ 3 [0, 99, 100] _ (by first | rfl | simp) (by omega) rfl (by decide) (by decide) HS.out.ok).mono ?_
          rintro e w28 ⟨⟨x28, rfl, -⟩, hok, hg⟩
          have HT := Lib.hid (HS.out.step hok hg)
          clear hok hg HS
          obtain ⟨⟨c0, -, -, -, -, -, -, -⟩, d0, -, -, -, -, -, -, -⟩ := blk_cells HT.out.F
          go_upto_region 18 with (fail)
          have HU := Lib.hid (HT.out.put_id x28)
          clear c0 d0 HT
          generalize World.setCell _ _ _ = wu at *
          replace HSM := Lib.hid (show Sm (⟨x28, f.nm, f.lo, f.hi, f.wo, f.me, f.co, f.mo⟩ : Kl) from HSM.out)
          obtain ⟨⟨p0, p1, p2, p3, p4, p5, p6, p7⟩, -⟩ := blk_cells HU.out.F
          obtain ⟨⟨r0, r1, r2, r3, r4, r5, r6, r7⟩, y0, y1, y2, y3, y4, y5, y6, y7⟩ := blk_cells HU.out.R
          have hlg := HU.out.lg
          go_wp2
          clear p0 r0 y0 p1 r1 y1 p2 r2 y2 p3 r3 y3 p4 r4 y4 p5 r5 y5 p6 r6 y6 p7 r7 y7
          have hz := HU.out.fin
          generalize (World.setCell (World.setCell (World.setCell _ _ _) _ _) _ _) = w9 at *
          obtain ⟨hz1, hz2, hz3⟩ := hz
          obtain ⟨⟨u0, u1, u2, u3, u4, u5, u6, u7⟩, -⟩ := blk_cells hz1
          exact bodyPost_ret (by simp [results, Try.results43, go_sem, u0, u1, u2, u3, u4, u5, u6, u7]) rfl ⟨⟨_, rfl, HSM.out⟩, hz2.mono (by omega), hz3⟩
        · skip
          go_wp2_with fail
          refine (of_new b _ 3 16 [⟨#[]⟩, ⟨#[65]⟩, ⟨#[97, 98, 99, 100, 101, 102, 103, 104, 105, 106, 107]⟩] _ (by first | rfl | simp) (by omega) rfl (by decide) (by decide) (by decide) HS.out.ok).mono ?_
          rintro e w29 ⟨⟨x29, rfl, hx29⟩, hok, hg⟩
          have HT := Lib.hid (HS.out.step hok hg)
          clear hok hg HS
          obtain ⟨⟨-, c1, -, -, -, -, -, -⟩, -, d1, -, -, -, -, -, -⟩ := blk_cells HT.out.F
          go_upto_region 18 with (fail)
          have HU := Lib.hid (HT.out.put_nm x29)
          clear c1 d1 HT
          generalize World.setCell _ _ _ = wu at *
          replace HSM := Lib.hid (show Sm (⟨f.id, x29, f.lo, f.hi, f.wo, f.me, f.co, f.mo⟩ : Kl) from hx29)
          obtain ⟨⟨p0, p1, p2, p3, p4, p5, p6, p7⟩, -⟩ := blk_cells HU.out.F
          obtain ⟨⟨r0, r1, r2, r3, r4, r5, r6, r7⟩, y0, y1, y2, y3, y4, y5, y6, y7⟩ := blk_cells HU.out.R
          have hlg := HU.out.lg
          go_wp2
          clear p0 r0 y0 p1 r1 y1 p2 r2 y2 p3 r3 y3 p4 r4 y4 p5 r5 y5 p6 r6 y6 p7 r7 y7
          have hz := HU.out.fin
          generalize (World.setCell (World.setCell (World.setCell _ _ _) _ _) _ _) = w9 at *
          obtain ⟨hz1, hz2, hz3⟩ := hz
          obtain ⟨⟨u0, u1, u2, u3, u4, u5, u6, u7⟩, -⟩ := blk_cells hz1
          exact bodyPost_ret (by simp [results, Try.results43, go_sem, u0, u1, u2, u3, u4, u5, u6, u7]) rfl ⟨⟨_, rfl, HSM.out⟩, hz2.mono (by omega), hz3⟩
        · skip
          obtain ⟨⟨-, -, -, p3, -, -, -, -⟩, -⟩ := blk_cells HS.out.F
          have hwh : IntKind.i64.wrap (f.hi + 1) = f.hi + 1 := IntWalk.i64_in _ (by have := HHI.out; omega)
          go_wp2_with fail
          refine (among_new b _ 2 [-1, f.hi + 1] _ (by first | rfl | simp) (by omega) rfl (by decide) (by decide) HS.out.ok).mono ?_
          rintro e w30 ⟨⟨x30, rfl, -⟩, hok, hg⟩
          have HT := Lib.hid (HS.out.step hok hg)
          clear hok hg HS
          clear p3 hwh
          obtain ⟨⟨-, -, c2, -, -, -, -, -⟩, -, -, d2, -, -, -, -, -⟩ := blk_cells HT.out.F
          go_upto_region 18 with (fail)
          have HU := Lib.hid (HT.out.put_lo x30)
          clear c2 d2 HT
          generalize World.setCell _ _ _ = wu at *
          replace HSM := Lib.hid (show Sm (⟨f.id, f.nm, x30, f.hi, f.wo, f.me, f.co, f.mo⟩ : Kl) from HSM.out)
          obtain ⟨⟨p0, p1, p2, p3, p4, p5, p6, p7⟩, -⟩ := blk_cells HU.out.F
          obtain ⟨⟨r0, r1, r2, r3, r4, r5, r6, r7⟩, y0, y1, y2, y3, y4, y5, y6, y7⟩ := blk_cells HU.out.R
          have hlg := HU.out.lg
          go_wp2
          clear p0 r0 y0 p1 r1 y1 p2 r2 y2 p3 r3 y3 p4 r4 y4 p5 r5 y5 p6 r6 y6 p7 r7 y7
          have hz := HU.out.fin
          generalize (World.setCell (World.setCell (World.setCell _ _ _) _ _) _ _) = w9 at *
          obtain ⟨hz1, hz2, hz3⟩ := hz
          obtain ⟨⟨u0, u1, u2, u3, u4, u5, u6, u7⟩, -⟩ := blk_cells hz1
          exact bodyPost_ret (by simp [results, Try.results43, go_sem, u0, u1, u2, u3, u4, u5, u6, u7]) rfl ⟨⟨_, rfl, HSM.out⟩, hz2.mono (by omega), hz3⟩
        · skip
          have HT := HS
          clear HS
          obtain ⟨⟨-, -, -, c3, -, -, -, -⟩, -, -, -, d3, -, -, -, -⟩ := blk_cells HT.out.F
          go_upto_region 18 with (fail)
          have HU := Lib.hid (HT.out.put_hi 121)
          clear c3 d3 HT
          generalize World.setCell _ _ _ = wu at *
          replace HSM := Lib.hid (show Sm (⟨f.id, f.nm, f.lo, 121, f.wo, f.me, f.co, f.mo⟩ : Kl) from HSM.out)
          obtain ⟨⟨p0, p1, p2, p3, p4, p5, p6, p7⟩, -⟩ := blk_cells HU.out.F
          obtain ⟨⟨r0, r1, r2, r3, r4, r5, r6, r7⟩, y0, y1, y2, y3, y4, y5, y6, y7⟩ := blk_cells HU.out.R
          have hlg := HU.out.lg
          go_wp2
          clear p0 r0 y0 p1 r1 y1 p2 r2 y2 p3 r3 y3 p4 r4 y4 p5 r5 y5 p6 r6 y6 p7 r7 y7
          have hz := HU.out.fin
          generalize (World.setCell (World.setCell (World.setCell _ _ _) _ _) _ _) = w9 at *
          obtain ⟨hz1, hz2, hz3⟩ := hz
          obtain ⟨⟨u0, u1, u2, u3, u4, u5, u6, u7⟩, -⟩ := blk_cells hz1
          exact bodyPost_ret (by simp [results, Try.results43, go_sem, u0, u1, u2, u3, u4, u5, u6, u7]) rfl ⟨⟨_, rfl, HSM.out⟩, hz2.mono (by omega), hz3⟩
        · skip
          go_wp2_with fail
          refine (among_new b _ 2 [0, 21] _ (by first | rfl | simp) (by omega) rfl (by decide) (by decide) HS.out.ok).mono ?_
          rintro e w31 ⟨⟨x31, rfl, -⟩, hok, hg⟩
          have HT := Lib.hid (HS.out.step hok hg)
          clear hok hg HS
          obtain ⟨⟨-, -, -, -, -, -, c6, -⟩, -, -, -, -, -, -, d6, -⟩ := blk_cells HT.out.F
          go_upto_region 18 with (fail)
          have HU := Lib.hid (HT.out.put_co x31)
          clear c6 d6 HT
          generalize World.setCell _ _ _ = wu at *
          replace HSM := Lib.hid (show Sm (⟨f.id, f.nm, f.lo, f.hi, f.wo, f.me, x31, f.mo⟩ : Kl) from HSM.out)
          obtain ⟨⟨p0, p1, p2, p3, p4, p5, p6, p7⟩, -⟩ := blk_cells HU.out.F
          obtain ⟨⟨r0, r1, r2, r3, r4, r5, r6, r7⟩, y0, y1, y2, y3, y4, y5, y6, y7⟩ := blk_cells HU.out.R
          have hlg := HU.out.lg
          go_wp2
          clear p0 r0 y0 p1 r1 y1 p2 r2 y2 p3 r3 y3 p4 r4 y4 p5 r5 y5 p6 r6 y6 p7 r7 y7
          have hz := HU.out.fin
          generalize (World.setCell (World.setCell (World.setCell _ _ _) _ _) _ _) = w9 at *
          obtain ⟨hz1, hz2, hz3⟩ := hz
          obtain ⟨⟨u0, u1, u2, u3, u4, u5, u6, u7⟩, -⟩ := blk_cells hz1
          exact bodyPost_ret (by simp [results, Try.results43, go_sem, u0, u1, u2, u3, u4, u5, u6, u7]) rfl ⟨⟨_, rfl, HSM.out⟩, hz2.mono (by omega), hz3⟩
        · skip
          go_wp2_with fail
          refine (among_new b _ 2 [0, 501] _ (by first | rfl | simp) (by omega) rfl (by decide) (by decide) HS.out.ok).mono ?_
          rintro e w32 ⟨⟨x32, rfl, -⟩, hok, hg⟩
          have HT := Lib.hid (HS.out.step hok hg)
          clear hok hg HS
          obtain ⟨⟨-, -, -, -, -, -, -, c7⟩, -, -, -, -, -, -, -, d7⟩ := blk_cells HT.out.F
          go_upto_region 18 with (fail)
          have HU := Lib.hid (HT.out.put_mo x32)
          clear c7 d7 HT
          generalize World.setCell _ _ _ = wu at *
          replace HSM := Lib.hid (show Sm (⟨f.id, f.nm, f.lo, f.hi, f.wo, f.me, f.co, x32⟩ : Kl) from HSM.out)
          obtain ⟨⟨p0, p1, p2, p3, p4, p5, p6, p7⟩, -⟩ := blk_cells HU.out.F
          obtain ⟨⟨r0, r1, r2, r3, r4, r5, r6, r7⟩, y0, y1, y2, y3, y4, y5, y6, y7⟩ := blk_cells HU.out.R
          have hlg := HU.out.lg
          go_wp2
          clear p0 r0 y0 p1 r1 y1 p2 r2 y2 p3 r3 y3 p4 r4 y4 p5 r5 y5 p6 r6 y6 p7 r7 y7
          have hz := HU.out.fin
          generalize (World.setCell (World.setCell (World.setCell _ _ _) _ _) _ _) = w9 at *
          obtain ⟨hz1, hz2, hz3⟩ := hz
          obtain ⟨⟨u0, u1, u2, u3, u4, u5, u6, u7⟩, -⟩ := blk_cells hz1
          exact bodyPost_ret (by simp [results, Try.results43, go_sem, u0, u1, u2, u3, u4, u5, u6, u7]) rfl ⟨⟨_, rfl, HSM.out⟩, hz2.mono (by omega), hz3⟩
        · obtain ⟨q0, q1, q2, q3, q4, q5⟩ := hq
          have e0 : ((x27 : Int) == 0) = false := by simp; omega
          have e1 : ((x27 : Int) == 1) = false := by simp; omega
          have e2 : ((x27 : Int) == 2) = false := by simp; omega
          have e3 : ((x27 : Int) == 3) = false := by simp; omega
          have e4 : ((x27 : Int) == 4) = false := by simp; omega
          have e5 : ((x27 : Int) == 5) = false := by simp; omega
          clear q0 q1 q2 q3 q4 q5
          obtain ⟨⟨p0, p1, p2, p3, p4, p5, p6, p7⟩, -⟩ := blk_cells HS.out.F
          obtain ⟨⟨r0, r1, r2, r3, r4, r5, r6, r7⟩, y0, y1, y2, y3, y4, y5, y6, y7⟩ := blk_cells HS.out.R
          have hlg := HS.out.lg
          go_wp2
          clear p0 r0 y0 p1 r1 y1 p2 r2 y2 p3 r3 y3 p4 r4 y4 p5 r5 y5 p6 r6 y6 p7 r7 y7
          have hz := HS.out.fin
          generalize (World.setCell (World.setCell (World.setCell _ _ _) _ _) _ _) = w9 at *
          obtain ⟨hz1, hz2, hz3⟩ := hz
          obtain ⟨⟨u0, u1, u2, u3, u4, u5, u6, u7⟩, -⟩ := blk_cells hz1
          exact bodyPost_ret (by simp [results, Try.results43, go_sem, u0, u1, u2, u3, u4, u5, u6, u7]) rfl ⟨⟨_, rfl, HSM.out⟩, hz2.mono (by omega), hz3⟩
end Go.Proofs.Ytleoljnofdajfaa.KlDo

namespace Go.Proofs.Ytleoljnofdajfaa.KlLs
open Go.RowKit Lb Bk Cur KlK KlI KaG KlDr
open KaA (goodB)
set_option linter.unusedSimpArgs false
set_option linter.unusedVariables false

theorem sm_is {f : Kl} (h : KlDo.Sm f) : Is f := ⟨by have : f.nm.size ≤ 16 := h; unfold maxLen; omega⟩
theorem all_at (fs : List Kl) : (∀ i, i < fs.length → Is (at_ fs i)) ↔ ∀ r ∈ fs, Is r := by
  constructor
  · intro h r hr
    obtain ⟨i, hi, rfl⟩ := List.mem_iff_getElem.1 hr
    rw [← at_lt hi]
    exact h i hi
  · intro h i hi
    rw [at_lt hi]
    exact h _ (List.getElem_mem hi)
theorem app_is {fs : List Kl} {x : Kl} (h : ∀ i, i < fs.length → Is (at_ fs i)) (hx : Is x) : ∀ i, i < (fs ++ [x]).length → Is (at_ (fs ++ [x]) i) := by
  rw [all_at] at h ⊢
  intro r hr
  rcases List.mem_append.1 hr with h1 | h1
  · exact h r h1
  · obtain rfl : r = x := by simpa using h1
    exact hx
theorem nil_is : ∀ i, i < ([] : List Kl).length → Is (at_ [] i) := fun i hi => absurd hi (Nat.not_lt_zero _)
theorem own_some {w : World} {base n : Nat} {v : Value} {fs : List Kl} (h : Own w base v fs) (hn : fs.length = n) (h0 : 0 < n) : ∃ B cap, v = .slice (some ⟨B, 0, none⟩) n cap := by
  unfold Own at h
  rcases h.2 with ⟨_, h1⟩ | ⟨g, cap, cur, hv, _⟩
  · omega
  · exact ⟨g, cap, by rw [hv, hn]⟩
/-- A list of its own in the other's place. -/
theorem Rl.comb {w W W' : World} {b m m' : Nat} {v v' : Value} {fs fs' : List Kl} (h : Rl w W b m v fs) (n : Rl W W' b m' v' fs') : Rl w W' b m' v' fs' := ⟨n.ok, h.lb, gtrans h.G n.G, n.L.rebase h.G.size⟩
def nmD (n : Nat) : ByteArray := strOfNums [97 + (n : Int)]
def clD (n : Nat) : Kl := ⟨(n : Int) + 1, nmD n, 0, 100, false, true, 1, 5⟩
theorem nm_size (n : Nat) : (nmD n).size = 1 := strOfNums_size _
theorem clD_is (n : Nat) : Is (clD n) := ⟨show (nmD n).size ≤ maxLen from by rw [nm_size]; decide⟩

set_option maxRecDepth 20000 in
set_option maxHeartbeats 4000000 in
theorem classes_any (b m : Nat) (w : World) (hm : m ≤ 1152921504606830000) (hok : Ok w b m) :
    Calls Try.prog 21 #[.pointer (some ⟨b, 0, none⟩)] w fun e w' => ∃ v fs, e = .returned v ∧ fs.length ≤ 9 ∧ (∀ i, i < fs.length → Is (at_ fs i)) ∧ Rl w w' b (m + 900) v fs := by
  obtain ⟨t0, hi0, hz0, hz1, hz2⟩ := info_parts info
  have H0 := Lib.hid (Rl.start hok)
  clear hok
  go_enter Try.func21, Try.ntmps21
  go_wp2_with fail
  refine (pick_any b m 8 _ (by omega) (by omega) (by omega) H0.out.ok).mono ?_
  rintro e w1 ⟨⟨N, rfl, _, hN'⟩, hok, hg⟩
  have hN : N ≤ 7 := by omega
  have H1 := Lib.hid (H0.out.step hok hg)
  clear hok hg hN' H0
  go_wp2_with fail
  go_loopg [3, 4, 5, 6] N (fun gk v s n _ wr => ∃ (k : Nat) (z : Int) (fs : List Kl) (B cap : Nat), k ≤ 7 ∧ gk = k ∧ n = .int .i64 k ∧ s = .int .i64 z ∧ fs.length + k ≤ 7 ∧ v = .slice (some ⟨B, 0, none⟩) fs.length cap ∧ Aside (∀ i, i < fs.length → Is (at_ fs i)) ∧ Rl w wr b (m + 2 + 60 * (7 - k)) v fs)
  case atStart => exact ⟨N, 0, [], _, 0, hN, rfl, rfl, rfl, by simp; omega, rfl, (nil_is : ∀ i, i < ([] : List Kl).length → Is (at_ [] i)), H1.out.mono (by omega)⟩
  case round =>
    obtain ⟨k, z, fs, B, cap, hk, hgk, rfl, rfl, hfl, rfl, I, hF⟩ := hrel
    have H2 := Lib.hid hF
    clear hF H1
    by_cases hlt : 0 < k
    · have hlt' : (0 : Int) < (k : Int) := by omega
      have hwr : IntKind.i64.wrap ((k : Int) - 1) = (k : Int) - 1 := IntWalk.i64_in _ (by omega)
      go_wp2_with fail
      refine (pick_any b _ 3 _ (by omega) (by omega) (by omega) H2.out.ok).mono ?_
      rintro e w3 ⟨⟨p, rfl, _, _⟩, hok, hg⟩
      have H3 := Lib.hid (H2.out.step hok hg)
      clear hok hg H2
      have hbl := (Below.refl w3.heap.size w3).alloc (Nat.le_refl _) (.cells #[] 33)
      have HBl := Lib.hid hbl
      have hrow := Own.row H3.out.L
      have HNw := Lib.hid (Row.news (hrow.later hbl))
      have hown := Own.empty w3
      unfold Own at hown
      obtain ⟨q, hq⟩ : ∃ q, fs.length = q := ⟨_, rfl⟩
      have HQ := Lib.hid hq
      have hcl : (cells fs).length = q * 8 := by rw [cells_len, hq]
      rw [hq] at hfl ⊢
      clear hbl hrow hq
      go_wp2_with (at_builtin; (refine wpList_append_own _ rfl (.tmp 20) (.tmp 21) 24 rfl w3.heap.size 33 t0 (.agg #[.int .i64 no.id, .string no.nm, .int .i64 no.lo, .int .i64 no.hi, .bool no.wo, .bool no.me, .int .i64 no.co, .int .i64 no.mo]) 8 64 Try.underlying24 hi0 hz0 hz1 hz2 rfl (by decide) _ 0 _ rfl hown ⟨B, 0, none⟩ q cap (cells fs) rfl hcl HNw.out (cells_one fs) (by unfold maxLen; omega) (by omega) HBl.out.size ?_; intro v' w3' hown3 hgr3 _; have HO := Lib.hid (show Own w3' w3.heap.size v' ([] ++ fs) from Own.cat rfl HQ.out hown3); have HB3 := Lib.hid (HBl.out.grown (show World.grownBy _ w3' (some w3.heap.size) from hgr3) HBl.out.size (fun q e => by cases e; exact Nat.le_refl _)); clear hown3 hgr3))
      have N1 := Lib.hid (show Rl w3 w3' b _ v' fs from ⟨H3.out.ok.below HB3.out, H3.out.ok.lt, gbelow HB3.out _, HO.out⟩)
      clear HB3 HO hcl HNw HBl hown
      go_wp2_with fail
      refine (KlDo.class_any b _ _ _ (by omega) N1.out.ok).mono ?_
      rintro e w4 ⟨⟨x, rfl, hx⟩, hok, hg⟩
      have N2 := Lib.hid (N1.out.step hok hg)
      have HX := Lib.hid (sm_is hx)
      clear hok hg N1 hx
      have hown := N2.out.L
      unfold Own at hown
      rw [HQ.out] at hown
      have HTa := Lib.hid (N2.out.below ((Below.refl _ _).alloc (Nat.le_refl _) (.cells #[.int .i64 x.id, .string x.nm, .int .i64 x.lo, .int .i64 x.hi, .bool x.wo, .bool x.me, .int .i64 x.co, .int .i64 x.mo] 33)))
      have hsz := N2.out.G.size
      go_wp2_with (at_builtin; (refine wpList_append_own _ rfl (.tmp 22) (.tmp 26) 24 rfl w3.heap.size 33 t0 (.agg #[.int .i64 no.id, .string no.nm, .int .i64 no.lo, .int .i64 no.hi, .bool no.wo, .bool no.me, .int .i64 no.co, .int .i64 no.mo]) 8 64 Try.underlying24 hi0 hz0 hz1 hz2 rfl (by decide) _ q _ rfl (hown.alloc _) ⟨_, 0, none⟩ 1 1 (cells [x]) rfl rfl (World.news_of_block (Blk.new _ _ _)) (cells_one [x]) (by unfold maxLen; omega) (by omega) (by simp; omega) ?_; intro v' w3' hown3 hgr3 _; have HP := Lib.hid (HTa.out.put x (by rw [HQ.out]; exact hown3) hgr3); clear hown3 hgr3))
      have hlen : (fs ++ [x]).length = q + 1 := by rw [List.length_append, HQ.out]; rfl
      have HIs := Lib.hid (app_is I.out HX.out)
      obtain ⟨B2, cap2, rfl⟩ := own_some HP.out.L hlen (Nat.succ_pos _)
      obtain ⟨gs, hgs⟩ : ∃ gs, fs ++ [x] = gs := ⟨_, rfl⟩
      rw [hgs] at HP HIs hlen
      have HGs := Lib.hid hlen
      obtain ⟨gb, hgb⟩ : ∃ gb, goodB gs = gb := ⟨_, rfl⟩
      have cg := Lib.hid (fun w hr => hgb ▸ good_any (some ⟨B2, 0, none⟩) cap2 gs w hr HIs.out (by rw [HGs.out]; unfold maxLen; omega))
      rw [hlen] at cg
      clear N2 HTa hown hsz hgs hlen hgb HX
      have hrw2 := Lib.hid (show Row _ (some ⟨B2, 0, none⟩) gs from by
        have h := HP.out.L
        rw [← HGs.out] at h
        exact Own.row h)
      go_wp2_with fail
      refine (cg.out _ hrw2.out).mono ?_
      rintro e w5 ⟨rfl, hb⟩
      have HP5 := Lib.hid (HP.out.below hb)
      clear hb HP cg hrw2
      cases gb with
      | true =>
        go_wp2
        go_roundg (k - 1)
        case measure => omega
        case rel => exact ⟨k - 1, _, gs, B2, cap2, by omega, rfl, by go_num, rfl, by rw [HGs.out]; omega, by rw [HGs.out], HIs.out, (Rl.comb H3.out HP5.out).mono (by omega)⟩
      | false =>
        go_wp2_with fail
        refine (one_any b _ 40 _ (by omega) (by omega) (by omega) HP5.out.ok).mono ?_
        rintro e w6 ⟨⟨tt, rfl⟩, hok, hg⟩
        have HP6 := Lib.hid (HP5.out.step hok hg)
        clear hok hg HP5
        cases tt with
        | true =>
          go_wp2
          go_roundg (k - 1)
          case measure => omega
          case rel => exact ⟨k - 1, _, gs, B2, cap2, by omega, rfl, by go_num, rfl, by rw [HGs.out]; omega, by rw [HGs.out], HIs.out, (Rl.comb H3.out HP6.out).mono (by omega)⟩
        | false =>
          go_wp2
          go_roundg (k - 1)
          case measure => omega
          case rel => exact ⟨k - 1, _, fs, B, cap, by omega, rfl, by go_num, rfl, by rw [HQ.out]; omega, by rw [HQ.out], I.out, by
            have h := (H3.out.step HP6.out.ok HP6.out.G).mono (show _ ≤ m + 2 + 60 * (7 - (k - 1)) by omega)
            rw [HQ.out] at h
            exact h⟩
    · have hk0 : k = 0 := by omega
      subst hk0
      go_wp2_with fail
      refine (one_any b _ 24 _ (by omega) (by omega) (by omega) H2.out.ok).mono ?_
      rintro e w3 ⟨⟨tt, rfl⟩, hok, hg⟩
      have H3 := Lib.hid (H2.out.step hok hg)
      clear hok hg H2
      cases tt with
      | false =>
        go_wp2
        go_ret
        exact ⟨_, fs, rfl, by omega, I.out, H3.out.mono (by omega)⟩
      | true =>
        have H4 := Lib.hid H3.out.new
        have hmm : 60 * (7 - 0) = 420 := rfl
        clear H3 I hfl
        go_wp2_with fail
        go_loopg [3, 7] 10 (fun gk v s wr => ∃ ps : List Kl, ps.length ≤ 9 ∧ gk = 10 - ps.length ∧ s = .int .i64 ps.length ∧ Aside (∀ i, i < ps.length → Is (at_ ps i)) ∧ Rl w wr b (m + 430 + 2 * ps.length) v ps)
        case atStart => exact ⟨[], Nat.zero_le _, rfl, rfl, (nil_is : ∀ i, i < ([] : List Kl).length → Is (at_ [] i)), H4.out.mono (by omega)⟩
        case round =>
          clear H4
          obtain ⟨ps, hps, hgk, rfl, I, hF⟩ := hrel
          obtain ⟨pa, pc, rfl, -, -⟩ := hF.L.slice
          have H5 := Lib.hid hF
          clear hF
          go_wp2_with fail
          refine (pick_any b _ 2 _ (by omega) (by omega) (by omega) H5.out.ok).mono ?_
          rintro e w5 ⟨⟨q, rfl, _, hq'⟩, hok, hg⟩
          have hq : q ≤ 1 := by omega
          have H6 := Lib.hid (H5.out.step hok hg)
          clear hok hg hq' H5
          have hwr : IntKind.i64.wrap (8 + (q : Int)) = 8 + q := IntWalk.i64_in _ (by omega)
          obtain ⟨n, hn⟩ : ∃ n, ps.length = n := ⟨_, rfl⟩
          have HNn := Lib.hid hn
          have hown := H6.out.L
          unfold Own at hown
          rw [hn] at hps hgk hown ⊢
          clear hn
          by_cases hlt : n < 8 + q
          · have hlt' : (n : Int) < 8 + (q : Int) := by omega
            have hw2 : IntKind.i64.wrap (97 + (n : Int)) = 97 + n := IntWalk.i64_in _ (by omega)
            have hw3 : IntKind.i64.wrap ((n : Int) + 1) = n + 1 := IntWalk.i64_in _ (by omega)
            have hcv := run_convert_bytes_arg (P := Try.prog) (w5.alloc (.cells #[.int .u8 (97 + (n : Int))] 5)) 22 5 Try.underlying22 Try.underlying5 w5.heap.size 0 1 1 [97 + (n : Int)] rfl (by
              intro i hi
              obtain rfl : i = 0 := by omega
              simp) 9 Try.underlying9
            have hD : strOfNums [97 + (n : Int)] = nmD n := rfl
            rw [hD] at hcv
            have hz' := nm_size n
            have HTa := Lib.hid (H6.out.below (((Below.refl _ _).alloc (Nat.le_refl _) (.cells #[.int .u8 (97 + (n : Int))] 5)).alloc (by simp) (.cells #[.int .i64 ((n : Int) + 1), .string (nmD n), .int .i64 0, .int .i64 100, .bool false, .bool true, .int .i64 1, .int .i64 5] 33)))
            have hsz := H6.out.G.size
            have hnb := Blk.new (w5.alloc (.cells #[.int .u8 (97 + (n : Int))] 5)) 33 #[.int .i64 ((n : Int) + 1), .string (nmD n), .int .i64 0, .int .i64 100, .bool false, .bool true, .int .i64 1, .int .i64 5]
            rw [World.size_alloc] at hnb
            have HI := Lib.hid (app_is (x := clD n) I.out (clD_is n))
            go_wp2_with (at_builtin; (refine wpList_append_own _ rfl (.tmp 45) (.tmp 54) 24 rfl w.heap.size 33 t0 (.agg #[.int .i64 no.id, .string no.nm, .int .i64 no.lo, .int .i64 no.hi, .bool no.wo, .bool no.me, .int .i64 no.co, .int .i64 no.mo]) 8 64 Try.underlying24 hi0 hz0 hz1 hz2 rfl (by decide) _ n _ rfl ((hown.alloc _).alloc _) ⟨_, 0, none⟩ 1 1 [.int .i64 ((n : Int) + 1), .string (nmD n), .int .i64 0, .int .i64 100, .bool false, .bool true, .int .i64 1, .int .i64 5] rfl rfl (World.news_of_block hnb) (cells_one [clD n]) (by unfold maxLen; omega) (by omega) (by simp; omega) ?_; intro v' w3' hown3 hgr3 _; have HP := Lib.hid (HTa.out.put (clD n) (by rw [HNn.out]; exact hown3) (by rw [HNn.out]; exact hgr3)); clear hown3 hgr3))
            go_roundg (10 - (n + 1))
            case measure => omega
            case rel => exact ⟨ps ++ [clD n], by simp [HNn.out]; omega, by simp [HNn.out], by simp [HNn.out], HI.out, by
              have h1 := HP.out
              clear hwr hw2 hw3 hcv
              rw [List.length_append, HNn.out]
              have hnn := HNn.out
              exact h1.mono (by show _ ≤ m + 430 + 2 * (n + 1); omega)⟩
          · have hlt' : ¬ (n : Int) < 8 + (q : Int) := by omega
            go_wp2
            go_ret
            exact ⟨_, ps, rfl, by rw [HNn.out]; omega, I.out, by
              have h1 := H6.out
              rw [HNn.out] at h1
              have hnn := HNn.out
              exact h1.mono (by omega)⟩

end Go.Proofs.Ytleoljnofdajfaa.KlLs

namespace Go.Proofs.Ytleoljnofdajfaa.KlDl
open Go.RowKit Lb Bk Cur KlK KlDr CodB
set_option linter.unusedSimpArgs false
set_option linter.unusedVariables false

/-- A list that was drawn. -/
structure Lst (w W : World) (v : Value) (fs : List Kl) : Prop where
  le : fs.length ≤ 9
  is : ∀ i, i < fs.length → Is (at_ fs i)
  own : Own W w.heap.size v fs
  B : Below w.heap.size w W
theorem Lst.of {w w1 W : World} {b m : Nat} {v : Value} {fs : List Kl} (hle : fs.length ≤ 9) (his : ∀ i, i < fs.length → Is (at_ fs i)) (h : Rl w1 W b m v fs) (hb : Below w.heap.size w w1) (hw : w.heap.size ≤ b) : Lst w W v fs :=
  ⟨hle, his, h.L.rebase hb.size, hb.trans ⟨h.G.os, h.G.tape, h.G.output, h.G.size, fun k hk => h.G.block k (Nat.lt_of_lt_of_le hk hb.size) (fun e => by cases e; omega)⟩⟩
theorem Lst.step {w W W' : World} {b : Nat} {v : Value} {fs : List Kl} (h : Lst w W v fs) (hg : W.grownBy W' (some b)) (hw : w.heap.size ≤ b) (hv : v.ownBlock ≠ some b) : Lst w W' v fs :=
  ⟨h.le, h.is, World.ownsRow.kept h.own hg (.inr hv), h.B.grown hg h.B.size (fun k e => by cases e; exact hw)⟩
theorem Lst.drew {w W : World} {v : Value} {fs : List Kl} (h : Lst w W v fs) : Lst w W.drew v fs := ⟨h.le, h.is, h.own.below (Below.refl _ _).drew, h.B.trans ((Below.refl _ _).drew.mono h.B.size)⟩
theorem ru_rebase {w : World} {b b' : Nat} {v : Value} {rs : List Ru} (h : RuK.Own w b v rs) (hb : b' ≤ b) : RuK.Own w b' v rs := h.rebase hb

set_option maxHeartbeats 1000000 in
theorem list_any (a : Option Addr) (n cap : Nat) (xs : Nat → Nat) (w : World) (hc : Bytes w a n xs) :
    Calls Try.prog 38 #[.slice a n cap] w fun e w' => ∃ v fs, e = .returned v ∧ Lst w w' v fs := by
  have HR := Lib.hid (begin_ hc cap)
  clear hc
  go_enter Try.func38, Try.ntmps38
  go_wp2_with fail
  refine (KlLs.classes_any w.heap.size 0 _ (by omega) HR.out).mono ?_
  rintro e w1 ⟨v, fs, rfl, hle, his, hl⟩
  have HL := Lib.hid (Lst.of hle his hl ((Below.refl _ _).alloc (Nat.le_refl _) _) (Nat.le_refl _))
  clear hle his hl
  go_wp2
  go_ret
  exact ⟨_, fs, rfl, HL.out⟩
set_option maxHeartbeats 1000000 in
theorem shared_any (a : Option Addr) (n cap : Nat) (xs : Nat → Nat) (w : World) (hc : Bytes w a n xs) :
    Calls Try.prog 14 #[.slice a n cap] w fun e w' => ∃ v fs, e = .returned v ∧ Lst w w' v fs := by
  have c1 := Lib.hid (list_any a n cap xs w hc)
  clear hc
  go_enter Try.func14, Try.ntmps14
  go_wp2_with fail
  refine c1.out.mono ?_
  rintro e w1 ⟨v, fs, rfl, hl⟩
  have HL := Lib.hid hl
  clear hl
  go_wp2
  go_ret
  exact ⟨_, fs, rfl, HL.out⟩
set_option maxHeartbeats 1000000 in
theorem ages_any (a : Option Addr) (n cap : Nat) (xs : Nat → Nat) (w : World) (hc : Bytes w a n xs) :
    Calls Try.prog 10 #[.slice a n cap] w fun e w' => ∃ v fs t, e = .returned (.tuple #[v, .bool t]) ∧ Lst w w' v fs := by
  have HR := Lib.hid (begin_ hc cap)
  clear hc
  go_enter Try.func10, Try.ntmps10
  go_wp2_with fail
  refine (KlLs.classes_any w.heap.size 0 _ (by omega) HR.out).mono ?_
  rintro e w1 ⟨v, fs, rfl, hle, his, hl⟩
  have HL := Lib.hid (Lst.of hle his hl ((Below.refl _ _).alloc (Nat.le_refl _) _) (Nat.le_refl _))
  have HO := Lib.hid hl.ok
  have HV := Lib.hid (show v.ownBlock ≠ some w.heap.size from fun e => by
    have := (World.ownsRow.lt hl.L _ e).1
    have h2 := hl.lb
    omega)
  clear hle his hl
  go_wp2_with fail
  refine (one_any w.heap.size _ 2 _ (by omega) (by omega) (by omega) HO.out).mono ?_
  rintro e w2 ⟨⟨t, rfl⟩, hok, hg⟩
  have HL2 := Lib.hid (HL.out.step hg (Nat.le_refl _) HV.out)
  clear hok hg HV HL HO
  go_wp2
  go_ret2
  exact ⟨_, fs, t, rfl, HL2.out⟩
set_option maxHeartbeats 1000000 in
theorem fill_any (a : Option Addr) (n cap : Nat) (xs : Nat → Nat) (w : World) (hc : Bytes w a n xs) :
    Calls Try.prog 5 #[.slice a n cap] w fun e w' => ∃ v fs u rs, e = .returned (.tuple #[v, u]) ∧ Lst w w' v fs ∧ rs.length ≤ 11 ∧ (∀ i, i < rs.length → RuK.Is (RuK.at_ rs i)) ∧ RuK.Own w' w.heap.size u rs := by
  have HR := Lib.hid (begin_ hc cap)
  clear hc
  go_enter Try.func5, Try.ntmps5
  go_wp2_with fail
  refine (KlLs.classes_any w.heap.size 0 _ (by omega) HR.out).mono ?_
  rintro e w1 ⟨v, fs, rfl, hle, his, hl⟩
  have HL := Lib.hid (Lst.of hle his hl ((Below.refl _ _).alloc (Nat.le_refl _) _) (Nat.le_refl _))
  have HO := Lib.hid hl.ok
  have HV := Lib.hid (show v.ownBlock ≠ some w.heap.size from fun e => by
    have := (World.ownsRow.lt hl.L _ e).1
    have h2 := hl.lb
    omega)
  clear hle his hl
  go_wp2_with fail
  refine (RuLs.runners_any w.heap.size _ _ (by omega) HO.out).mono ?_
  rintro e w2 ⟨u, rs, rfl, hrl, hri, hr⟩
  have HL2 := Lib.hid (HL.out.step hr.G (Nat.le_refl _) HV.out)
  have HU := Lib.hid (ru_rebase hr.L HL.out.B.size)
  have HI := Lib.hid hri
  clear hr HV HL HO hri
  go_wp2
  go_ret2
  exact ⟨_, fs, _, rs, rfl, HL2.out, hrl, HI.out, HU.out⟩
set_option maxHeartbeats 2000000 in
theorem course_any (a : Option Addr) (n cap : Nat) (xs : Nat → Nat) (w : World) (hc : Bytes w a n xs) :
    Calls Try.prog 18 #[.slice a n cap] w fun e w' => ∃ v fs z, e = .returned (.tuple #[v, .int .i64 z]) ∧ Lst w w' v fs := by
  have HR := Lib.hid (begin_ hc cap)
  clear hc
  go_enter Try.func18, Try.ntmps18
  go_wp2_with fail
  refine (KlLs.classes_any w.heap.size 0 _ (by omega) HR.out).mono ?_
  rintro e w1 ⟨v, fs, rfl, hle, his, hl⟩
  have HL := Lib.hid (Lst.of hle his hl ((Below.refl _ _).alloc (Nat.le_refl _) _) (Nat.le_refl _))
  have HO := Lib.hid hl.ok
  have HV := Lib.hid (show v.ownBlock ≠ some w.heap.size from fun e => by
    have := (World.ownsRow.lt hl.L _ e).1
    have h2 := hl.lb
    omega)
  have HOw := Lib.hid hl.L
  obtain ⟨fa, fc, rfl, -, -⟩ := hl.L.slice
  clear his hl
  obtain ⟨q, hq⟩ : ∃ q, fs.length = q := ⟨_, rfl⟩
  have HQ := Lib.hid hq
  rw [hq] at hle ⊢
  by_cases h0 : 0 < q
  · have h0' : (0 : Int) < (q : Int) := by omega
    go_wp2_with fail
    refine (one_any w.heap.size _ 6 _ (by omega) (by omega) (by omega) HO.out).mono ?_
    rintro e w2 ⟨⟨t, rfl⟩, hok, hg⟩
    have HL2 := Lib.hid (HL.out.step hg (Nat.le_refl _) HV.out)
    have HO2 := Lib.hid hok
    clear hok hg HL HO
    cases t with
    | true =>
      go_wp2_with fail
      refine (among_new w.heap.size _ 3 [0, 1, 50] _ (by first | rfl | simp) (by omega) rfl (by decide) (by decide) HO2.out).mono ?_
      rintro e w3 ⟨⟨z, rfl, -⟩, hok, hg⟩
      have HL3 := Lib.hid (HL2.out.step hg (Nat.le_refl _) HV.out)
      clear hok hg HL2 HO2
      go_wp2
      go_ret2
      exact ⟨_, fs, z, by rw [HQ.out]; rfl, HL3.out⟩
    | false =>
      go_upto_region 4 with (fail)
      replace HL2 := Lib.hid HL2.out.drew
      replace HO2 := Lib.hid (HO2.out.below (Below.refl _ _).drew)
      refine wp_region_noPanic ?_
      refine wp_region_held_drew (S := (fun Wx : World => True)) (by kernel_rfl) trivial (fun hHeld => ?_)
      refine wpAnyH_take (i := 0) (oi := _) (v := ?_) rfl (by kernel_rfl) (by kernel_rfl) (by kernel_rfl) (fun _ _ _ h => h) (Or.inl ⟨by rfl, ?_⟩) (by assumption) ?_; rotate_left; focus (intro W hSw; (try dsimp only at hSw); go_simp; (first | done | with_reducible rfl))
      (try simp only [List.getElem_toArray, List.getElem_cons_succ, List.getElem_cons_zero, Act.put, List.setIfInBounds_toArray, List.set_cons_zero, List.set_cons_succ])
      refine wpAnyH_take (i := 1) (oi := _) (v := ?_) rfl (by kernel_rfl) (by kernel_rfl) (by kernel_rfl) (fun _ _ _ h => h) (Or.inl ⟨by rfl, ?_⟩) (by assumption) ?_; rotate_left; focus (intro W hSw; (try dsimp only at hSw); go_simp; (first | done | with_reducible rfl))
      (try simp only [List.getElem_toArray, List.getElem_cons_succ, List.getElem_cons_zero, Act.put, List.setIfInBounds_toArray, List.set_cons_zero, List.set_cons_succ])
      refine wpAnyH_take (i := 2) (oi := _) (v := ?_) rfl (by kernel_rfl) (by kernel_rfl) (by kernel_rfl) (fun _ _ _ h => h) (Or.inl ⟨by rfl, ?_⟩) (by assumption) ?_; rotate_left; focus (intro W hSw; (try dsimp only at hSw); go_simp; (first | done | with_reducible rfl))
      (try simp only [List.getElem_toArray, List.getElem_cons_succ, List.getElem_cons_zero, Act.put, List.setIfInBounds_toArray, List.set_cons_zero, List.set_cons_succ])
      refine wpAnyH_take (i := 3) (oi := _) (v := ?_) rfl (by kernel_rfl) (by kernel_rfl) (by kernel_rfl) (fun _ _ _ h => h) (Or.inl ⟨by rfl, ?_⟩) (by assumption) ?_; rotate_left; focus (intro W hSw; (try dsimp only at hSw); go_simp; (first | done | with_reducible rfl))
      (try simp only [List.getElem_toArray, List.getElem_cons_succ, List.getElem_cons_zero, Act.put, List.setIfInBounds_toArray, List.set_cons_zero, List.set_cons_succ])
      refine wpAnyH_take (i := 4) (oi := _) (v := ?_) rfl (by kernel_rfl) (by kernel_rfl) (by kernel_rfl) (fun _ _ _ h => h) (Or.inl ⟨by rfl, ?_⟩) (by assumption) ?_; rotate_left; focus (intro W hSw; (try dsimp only at hSw); go_simp; (first | done | with_reducible rfl))
      (try simp only [List.getElem_toArray, List.getElem_cons_succ, List.getElem_cons_zero, Act.put, List.setIfInBounds_toArray, List.set_cons_zero, List.set_cons_succ])
      refine wpAnyH_ready (rs := [5]) (by kernel_rfl) (by simp) ?_
      refine AllReadyH.cons (o := _) rfl (fun K hK => ?_) AllReadyH.nil
      go_simp
      go_at_call 41
      refine (pick_any w.heap.size _ q _ (by omega) (by omega) (by omega) HO2.out).mono ?_
      rintro e w3 ⟨⟨p, rfl, _, hp⟩, hok, hg⟩
      have HL3 := Lib.hid (HL2.out.step hg (Nat.le_refl _) HV.out)
      have hpq : p < q := by omega
      clear hok hg HL2 HO2
      obtain ⟨b1, off, rfl, e0, -⟩ := (Own.row HL3.out.own).cells (i := p) (by rw [HQ.out]; exact hpq)
      have hp1 : (p : Int) < (q : Int) := by omega
      go_wp2_with fail
      refine hK.out _ _ trivial (fun _ => ?_)
      clear hK K hHeld
      refine wpAnyH_take (i := 6) (oi := _) (v := ?_) rfl (by kernel_rfl) (by kernel_rfl) (by kernel_rfl) (fun _ _ _ h => h) (Or.inl ⟨by rfl, ?_⟩) (by assumption) ?_; rotate_left; focus (intro W hSw; (try dsimp only at hSw); go_simp; (first | done | with_reducible rfl))
      (try simp only [List.getElem_toArray, List.getElem_cons_succ, List.getElem_cons_zero, Act.put, List.setIfInBounds_toArray, List.set_cons_zero, List.set_cons_succ])
      refine wpAnyH_take (i := 7) (oi := _) (v := ?_) rfl (by kernel_rfl) (by kernel_rfl) (by kernel_rfl) (fun _ _ _ h => h) (Or.inl ⟨by rfl, ?_⟩) (by assumption) ?_; rotate_left; focus (intro W hSw; (try dsimp only at hSw); go_simp; (first | done | with_reducible rfl))
      (try simp only [List.getElem_toArray, List.getElem_cons_succ, List.getElem_cons_zero, Act.put, List.setIfInBounds_toArray, List.set_cons_zero, List.set_cons_succ])
      refine wpAnyH_take (i := 9) (oi := _) (v := ?_) rfl (by kernel_rfl) (by kernel_rfl) (by kernel_rfl) (fun _ _ _ h => h) (Or.inl ⟨by rfl, ?_⟩) (by assumption) ?_; rotate_left; focus (intro W hSw; (try dsimp only at hSw); go_simp; (first | done | with_reducible rfl))
      (try simp only [List.getElem_toArray, List.getElem_cons_succ, List.getElem_cons_zero, Act.put, List.setIfInBounds_toArray, List.set_cons_zero, List.set_cons_succ])
      refine wpAnyH_ready (rs := [8]) (by kernel_rfl) (by simp) ?_
      refine AllReadyH.cons (o := _) rfl (fun K hK => ?_) AllReadyH.nil
      go_simp
      refine hK.out _ _ trivial (fun _ => ?_)
      clear hK K
      refine wpAnyH_take (i := 10) (oi := _) (v := ?_) rfl (by kernel_rfl) (by kernel_rfl) (by kernel_rfl) (fun _ _ _ h => h) (Or.inl ⟨by rfl, ?_⟩) (by assumption) ?_; rotate_left; focus (intro W hSw; (try dsimp only at hSw); go_simp; (first | done | with_reducible rfl))
      (try simp only [List.getElem_toArray, List.getElem_cons_succ, List.getElem_cons_zero, Act.put, List.setIfInBounds_toArray, List.set_cons_zero, List.set_cons_succ])
      refine wpAnyH_done (by kernel_rfl) ?_ _
      refine NoPanic.normal ?_
      (try simp only [List.getElem_toArray, List.getElem_cons_succ, List.getElem_cons_zero, Act.put, List.setIfInBounds_toArray, List.set_cons_zero, List.set_cons_succ])
      go_wp2
      go_ret2
      exact ⟨_, fs, _, by rw [HQ.out]; rfl, HL3.out⟩
  · have h0' : ¬ (0 : Int) < (q : Int) := by omega
    go_wp2_with fail
    refine (among_new w.heap.size _ 3 [0, 1, 50] _ (by first | rfl | simp) (by omega) rfl (by decide) (by decide) HO.out).mono ?_
    rintro e w3 ⟨⟨z, rfl, -⟩, hok, hg⟩
    have HL3 := Lib.hid (HL.out.step hg (Nat.le_refl _) HV.out)
    clear hok hg HL HO
    go_wp2
    go_ret2
    exact ⟨_, fs, z, by rw [HQ.out]; rfl, HL3.out⟩
end Go.Proofs.Ytleoljnofdajfaa.KlDl
