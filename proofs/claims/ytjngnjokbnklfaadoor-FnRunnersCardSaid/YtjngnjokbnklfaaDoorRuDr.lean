/- What stands while a Runner is drawn, and a list of them. -/
import Derived.Test.YtjngnjokbnklfaaDoorRuM
import Derived.Test.YtjngnjokbnklfaaDoorCurA
import Derived.Deep.AppendLies
namespace Go.Proofs.YtjngnjokbnklfaaDoor.RuDr
open Go.RowKit Lb Bk Cur RuK
set_option linter.unusedSimpArgs false
set_option linter.unusedVariables false
variable {w W W' : World} {b m m' g : Nat} {f : Ru}

theorem blk_grown {t : TypeId} {cs : Array Value} {r : Option Nat} (h : Blk w g t cs) (hg : w.grownBy W r) (hr : r ≠ some g) : Blk W g t cs := (hg.block g h.lt (fun e => hr e.symm)).trans h
/-- The box of the answer, the reader. -/
structure Rd (w W : World) (b m : Nat) : Prop where
  R : Blk W w.heap.size 25 #[.int .i64 no.id, .string no.nm, .string no.cl, .int .i64 no.bo, .bool no.wo, .int .i64 no.ca]
  ok : Ok W b m
  G : w.grownBy W (some b)
  lt : b < w.heap.size
theorem Rd.start (h : Ok w b m) : Rd w (w.alloc (.cells #[.int .i64 no.id, .string no.nm, .string no.cl, .int .i64 no.bo, .bool no.wo, .int .i64 no.ca] 25)) b m :=
  ⟨Blk.new _ _ _, h.below ((Below.refl _ _).alloc (Nat.le_refl _) _), gbelow ((Below.refl _ _).alloc (Nat.le_refl _) _) _, h.lt⟩
theorem Rd.below (h : Rd w W b m) (hb : Below W.heap.size W W') : Rd w W' b m := ⟨h.R.later hb, h.ok.below hb, gtrans h.G (gbelow hb _), h.lt⟩
theorem Rd.step (h : Rd w W b m) (ho : Ok W' b m') (hg : W.grownBy W' (some b)) : Rd w W' b m' := ⟨blk_grown h.R hg (fun e => by have := h.lt; cases e; omega), ho, gtrans h.G hg, h.lt⟩
theorem Rd.mono (h : Rd w W b m) (hm : m ≤ m') : Rd w W b m' := ⟨h.R, h.ok.mono hm, h.G, h.lt⟩
theorem Rd.drew (h : Rd w W b m) : Rd w W.drew b m := h.below (Below.refl _ _).drew
/-- .. and the new one. -/
structure Re (w W : World) (b m g : Nat) (f : Ru) : Prop extends Rd w W b m where
  F : Blk W g 25 #[.int .i64 f.id, .string f.nm, .string f.cl, .int .i64 f.bo, .bool f.wo, .int .i64 f.ca]
  lg : w.heap.size < g
theorem Re.start (h : Rd w W b m) (f : Ru) : Re w (W.alloc (.cells #[.int .i64 f.id, .string f.nm, .string f.cl, .int .i64 f.bo, .bool f.wo, .int .i64 f.ca] 25)) b m W.heap.size f := ⟨h.below ((Below.refl _ _).alloc (Nat.le_refl _) _), Blk.new _ _ _, h.R.lt⟩
theorem Re.below (h : Re w W b m g f) (hb : Below W.heap.size W W') : Re w W' b m g f := ⟨h.toRd.below hb, h.F.later hb, h.lg⟩
theorem Re.drew (h : Re w W b m g f) : Re w W.drew b m g f := ⟨h.toRd.drew, h.F, h.lg⟩
theorem Re.mono (h : Re w W b m g f) (hm : m ≤ m') : Re w W b m' g f := ⟨h.toRd.mono hm, h.F, h.lg⟩
theorem Re.step (h : Re w W b m g f) (ho : Ok W' b m') (hg : W.grownBy W' (some b)) : Re w W' b m' g f :=
  ⟨h.toRd.step ho hg, blk_grown h.F hg (fun e => by have := h.lt; have := h.lg; cases e; omega), h.lg⟩
theorem Re.put_id (h : Re w W b m g f) (x : Int) : Re w (W.setCell ⟨g, 0, none⟩ (.int .i64 x)) b m g ⟨x, f.nm, f.cl, f.bo, f.wo, f.ca⟩ := by
  have hb : Below (w.heap.size + 1) W (W.setCell ⟨g, 0, none⟩ (.int .i64 x)) := (Below.refl _ _).setCell (p := ⟨g, 0, none⟩) h.lg _
  exact ⟨⟨h.R.below hb (Nat.lt_succ_self _), ok_belowB h.ok hb (Nat.lt_succ_of_lt h.lt), grown_B h.G hb (Nat.le_succ _), h.lt⟩, by simpa using Blk.set_ h.F 0 (.int .i64 x), h.lg⟩
theorem Re.put_nm (h : Re w W b m g f) (x : ByteArray) : Re w (W.setCell ⟨g, 1, none⟩ (.string x)) b m g ⟨f.id, x, f.cl, f.bo, f.wo, f.ca⟩ := by
  have hb : Below (w.heap.size + 1) W (W.setCell ⟨g, 1, none⟩ (.string x)) := (Below.refl _ _).setCell (p := ⟨g, 1, none⟩) h.lg _
  exact ⟨⟨h.R.below hb (Nat.lt_succ_self _), ok_belowB h.ok hb (Nat.lt_succ_of_lt h.lt), grown_B h.G hb (Nat.le_succ _), h.lt⟩, by simpa using Blk.set_ h.F 1 (.string x), h.lg⟩
theorem Re.put_cl (h : Re w W b m g f) (x : ByteArray) : Re w (W.setCell ⟨g, 2, none⟩ (.string x)) b m g ⟨f.id, f.nm, x, f.bo, f.wo, f.ca⟩ := by
  have hb : Below (w.heap.size + 1) W (W.setCell ⟨g, 2, none⟩ (.string x)) := (Below.refl _ _).setCell (p := ⟨g, 2, none⟩) h.lg _
  exact ⟨⟨h.R.below hb (Nat.lt_succ_self _), ok_belowB h.ok hb (Nat.lt_succ_of_lt h.lt), grown_B h.G hb (Nat.le_succ _), h.lt⟩, by simpa using Blk.set_ h.F 2 (.string x), h.lg⟩
theorem Re.put_bo (h : Re w W b m g f) (x : Int) : Re w (W.setCell ⟨g, 3, none⟩ (.int .i64 x)) b m g ⟨f.id, f.nm, f.cl, x, f.wo, f.ca⟩ := by
  have hb : Below (w.heap.size + 1) W (W.setCell ⟨g, 3, none⟩ (.int .i64 x)) := (Below.refl _ _).setCell (p := ⟨g, 3, none⟩) h.lg _
  exact ⟨⟨h.R.below hb (Nat.lt_succ_self _), ok_belowB h.ok hb (Nat.lt_succ_of_lt h.lt), grown_B h.G hb (Nat.le_succ _), h.lt⟩, by simpa using Blk.set_ h.F 3 (.int .i64 x), h.lg⟩
theorem Re.put_wo (h : Re w W b m g f) (x : Bool) : Re w (W.setCell ⟨g, 4, none⟩ (.bool x)) b m g ⟨f.id, f.nm, f.cl, f.bo, x, f.ca⟩ := by
  have hb : Below (w.heap.size + 1) W (W.setCell ⟨g, 4, none⟩ (.bool x)) := (Below.refl _ _).setCell (p := ⟨g, 4, none⟩) h.lg _
  exact ⟨⟨h.R.below hb (Nat.lt_succ_self _), ok_belowB h.ok hb (Nat.lt_succ_of_lt h.lt), grown_B h.G hb (Nat.le_succ _), h.lt⟩, by simpa using Blk.set_ h.F 4 (.bool x), h.lg⟩
theorem Re.put_ca (h : Re w W b m g f) (x : Int) : Re w (W.setCell ⟨g, 5, none⟩ (.int .i64 x)) b m g ⟨f.id, f.nm, f.cl, f.bo, f.wo, x⟩ := by
  have hb : Below (w.heap.size + 1) W (W.setCell ⟨g, 5, none⟩ (.int .i64 x)) := (Below.refl _ _).setCell (p := ⟨g, 5, none⟩) h.lg _
  exact ⟨⟨h.R.below hb (Nat.lt_succ_self _), ok_belowB h.ok hb (Nat.lt_succ_of_lt h.lt), grown_B h.G hb (Nat.le_succ _), h.lt⟩, by simpa using Blk.set_ h.F 5 (.int .i64 x), h.lg⟩
/-- The answer handed out. -/
theorem Re.fin (h : Re w W b m g f) : Blk (((((((W.setCell ⟨w.heap.size, 0, none⟩ (.int .i64 f.id)).setCell ⟨w.heap.size, 1, none⟩ (.string f.nm)).setCell ⟨w.heap.size, 2, none⟩ (.string f.cl)).setCell ⟨w.heap.size, 3, none⟩ (.int .i64 f.bo)).setCell ⟨w.heap.size, 4, none⟩ (.bool f.wo)).setCell ⟨w.heap.size, 5, none⟩ (.int .i64 f.ca))) w.heap.size 25 #[.int .i64 f.id, .string f.nm, .string f.cl, .int .i64 f.bo, .bool f.wo, .int .i64 f.ca] ∧ Ok ((((((W.setCell ⟨w.heap.size, 0, none⟩ (.int .i64 f.id)).setCell ⟨w.heap.size, 1, none⟩ (.string f.nm)).setCell ⟨w.heap.size, 2, none⟩ (.string f.cl)).setCell ⟨w.heap.size, 3, none⟩ (.int .i64 f.bo)).setCell ⟨w.heap.size, 4, none⟩ (.bool f.wo)).setCell ⟨w.heap.size, 5, none⟩ (.int .i64 f.ca)) b m ∧ w.grownBy ((((((W.setCell ⟨w.heap.size, 0, none⟩ (.int .i64 f.id)).setCell ⟨w.heap.size, 1, none⟩ (.string f.nm)).setCell ⟨w.heap.size, 2, none⟩ (.string f.cl)).setCell ⟨w.heap.size, 3, none⟩ (.int .i64 f.bo)).setCell ⟨w.heap.size, 4, none⟩ (.bool f.wo)).setCell ⟨w.heap.size, 5, none⟩ (.int .i64 f.ca)) (some b) := by
  have hz := blk_all h.R f
  exact ⟨hz.1, ok_belowB h.ok (hz.2 _ (Nat.le_refl _)) h.lt, grown_B h.G (hz.2 _ (Nat.le_refl _)) (Nat.le_refl _)⟩

/-- A list that grows beside the reader. -/
structure Rl (w W : World) (b m : Nat) (v : Value) (fs : List Ru) : Prop where
  ok : Ok W b m
  lb : b < w.heap.size
  G : w.grownBy W (some b)
  L : Own W w.heap.size v fs
theorem Rl.step {v : Value} {fs : List Ru} (h : Rl w W b m v fs) (ho : Ok W' b m') (hg : W.grownBy W' (some b)) : Rl w W' b m' v fs :=
  ⟨ho, h.lb, gtrans h.G hg, World.ownsRow.kept h.L hg (.inr (fun e => by have := (World.ownsRow.lt h.L b e).1; have := h.lb; omega))⟩
theorem Rl.mono {v : Value} {fs : List Ru} (h : Rl w W b m v fs) (hm : m ≤ m') : Rl w W b m' v fs := ⟨h.ok.mono hm, h.lb, h.G, h.L⟩
theorem Rl.below {v : Value} {fs : List Ru} (h : Rl w W b m v fs) (hb : Below W.heap.size W W') : Rl w W' b m v fs := ⟨h.ok.below hb, h.lb, gtrans h.G (gbelow hb _), h.L.below hb⟩
/-- Another list in its place. -/
theorem Rl.other {v v' : Value} {fs fs' : List Ru} (h : Rl w W b m v fs) (hb : Below W.heap.size W W') (ho : Own W' W.heap.size v' fs') : Rl w W' b m v' fs' := ⟨h.ok.below hb, h.lb, gtrans h.G (gbelow hb _), ho.rebase h.G.size⟩
theorem Rl.start (h : Ok w b m) : Rl w (w.alloc (.cells #[] 25)) b m (.slice (some ⟨w.heap.size, 0, none⟩) 0 0) [] :=
  ⟨h.below ((Below.refl _ _).alloc (Nat.le_refl _) _), h.lt, gbelow ((Below.refl _ _).alloc (Nat.le_refl _) _) _, World.ownsRow_made w #[] 0 (Nat.le_refl _) (Nat.zero_le _) rfl⟩
theorem Rl.new {v : Value} {fs : List Ru} (h : Rl w W b m v fs) : Rl w (W.alloc (.cells #[] 25)) b m (.slice (some ⟨W.heap.size, 0, none⟩) 0 0) [] :=
  h.other ((Below.refl _ _).alloc (Nat.le_refl _) _) (World.ownsRow_made W #[] 0 (Nat.le_refl _) (Nat.zero_le _) rfl)
theorem Rl.put {v v' : Value} {fs : List Ru} (h : Rl w W b m v fs) (x : Ru) (ho : W'.ownsRow w.heap.size 25 6 v' (fs.length + 1) (cells fs ++ cells [x])) (hg : W.grownBy W' v.ownBlock) : Rl w W' b m v' (fs ++ [x]) := by
  refine ⟨?_, h.lb, ?_, ?_⟩
  · have hB : Below w.heap.size W W' := ⟨hg.os, hg.tape, hg.output, hg.size, fun k hk => hg.block k (Nat.lt_of_lt_of_le hk h.G.size) (fun e => by have := (World.ownsRow.lt h.L k e.symm).1; omega)⟩
    exact ok_belowB h.ok hB h.lb
  · refine ⟨hg.os.trans h.G.os, hg.tape.trans h.G.tape, hg.output.trans h.G.output, Nat.le_trans h.G.size hg.size, fun k hk hr => (hg.block k (Nat.lt_of_lt_of_le hk h.G.size) (fun e => ?_)).trans (h.G.block k hk hr)⟩
    have := (World.ownsRow.lt h.L k e.symm).1
    omega
  · unfold Own
    rw [List.length_append, cells_cat]
    exact ho
end Go.Proofs.YtjngnjokbnklfaaDoor.RuDr
