/- The drawing of a feature: some feature is drawn. -/
import Derived.Test.YtpfjdlaaakkimaaDoorCurO
import Derived.Test.YtpfjdlaaakkimaaDoorSpO
import Derived.Deep.RegionHeld3
import Derived.Deep.CutRange
namespace Go.Proofs.YtpfjdlaaakkimaaDoor.FtD
open Go.RowKit Lb Bk Word Cur SpF SpO
set_option linter.unusedSimpArgs false
set_option linter.unusedVariables false

theorem blk_grown {w w' : World} {g : Nat} {t : TypeId} {cs : Array Value} {r : Option Nat} (h : Blk w g t cs) (hg : w.grownBy w' r) (hr : r ≠ some g) : Blk w' g t cs := (hg.block g h.lt (fun e => hr e.symm)).trans h
theorem ok_belowB {w w' : World} {b m B : Nat} (h : Ok w b m) (hb : Below B w w') (hB : b < B) : Ok w' b m := by
  obtain ⟨a, n, cap, xs, p, seed, hb0, hp, hn, hs, hr, hx, hne⟩ := h
  refine ⟨a, n, cap, xs, p, seed, (hb.block b hB).trans hb0, hp, hn, hs, ?_, hx, hne⟩
  rcases hr with h0 | ⟨g, off, rfl, hc⟩
  · exact .inl h0
  · have := hne _ rfl
    exact .inr ⟨g, off, rfl, fun k hk => (hb.cell (p := ⟨g, off + k, none⟩) (by show g < B; simp at this; omega)).trans (hc k hk)⟩
theorem grown_B {w wr w2 : World} {r : Option Nat} {B : Nat} (h : w.grownBy wr r) (hB : Below B wr w2) (hw : w.heap.size ≤ B) : w.grownBy w2 r :=
  ⟨hB.os.trans h.os, hB.tape.trans h.tape, hB.output.trans h.output, Nat.le_trans h.size hB.size, fun k hk hne => (hB.block k (by omega)).trans (h.block k hk hne)⟩

/-- One of some numbers. -/
def ZRow (w : World) (a : Option Addr) (zs : List Int) : Prop := RowAt w a zs.length (fun k => .int .i64 (zs.getD k 0))
set_option maxHeartbeats 400000 in
theorem among_any (b m : Nat) (a : Option Addr) (n cap : Nat) (zs : List Int) (w : World) (hm : m ≤ 1152921504606846970) (hn : n ≤ zs.length) (hpos : 0 < n) (hl : n ≤ 65536) (hr : ZRow w a zs) (hne : ∀ x, a = some x → x.block ≠ b) (hok : Ok w b m) :
    Calls Tryd.prog 64 #[.pointer (some ⟨b, 0, none⟩), .slice a n cap] w fun e w' => (∃ r, r < n ∧ e = .returned (.int .i64 (zs.getD r 0))) ∧ Ok w' b (m + 2) ∧ w.grownBy w' (some b) := by
  have c1 := Lib.hid (pick_any b m n w hm (by omega) (by omega) hok)
  rcases hr with hr | ⟨g, off, rfl, hc⟩
  · omega
  have HC := Lib.hid hc
  have HN := Lib.hid (hne _ rfl)
  clear hok hne hc
  go_enter Tryd.func64, Tryd.ntmps64
  go_wp2_with fail
  refine c1.out.mono ?_
  rintro e w1 ⟨⟨r, rfl, _, hr⟩, hok1, hg1⟩
  have hlt : r < n := by omega
  obtain ⟨z, hz⟩ : ∃ z, zs.getD r 0 = z := ⟨_, rfl⟩
  have g1 : w1.cell? ⟨g, off + r, none⟩ = some (.int .i64 z) := by rw [← hz]; exact hg1.cell (HC.out r (by omega)) (fun e => HN.out (by simpa using e))
  have HG := Lib.hid hg1
  have HO := Lib.hid hok1
  have HZ := Lib.hid hz
  clear hok1 hg1 hr hz
  go_wp2_with fail
  go_ret
  exact ⟨⟨r, hlt, by rw [HZ.out]; rfl⟩, HO.out, HG.out⟩

/-- One of some texts that the call has just laid. -/
theorem of_blk (b m g n cap : Nat) (L : List ByteArray) (w : World) (hm : m ≤ 1152921504606846970) (hn : L.length = n) (h0 : 0 < n) (h1 : n ≤ 65536) (hb : StrB w g L) (hg : g ≠ b) (hok : Ok w b m) :
    Calls Tryd.prog 82 #[.pointer (some ⟨b, 0, none⟩), .slice (some ⟨g, 0, none⟩) n cap] w fun e w' => (∃ x, x ∈ L ∧ e = .returned (.string x)) ∧ Ok w' b (m + 2) ∧ w.grownBy w' (some b) := by
  subst hn
  refine (of_any b m _ cap L w hm h0 h1 hb.row (fun x e => by cases e; exact hg) hok).mono ?_
  rintro e w' ⟨⟨r, hr, rfl⟩, h2, h3⟩
  exact ⟨⟨_, mem_sAt.2 ⟨r, hr, rfl⟩, rfl⟩, h2, h3⟩

abbrev nilF : Array Value := #[.int .i64 0, .string ⟨#[]⟩, .string ⟨#[]⟩, .string ⟨#[]⟩, .string ⟨#[]⟩]
/-- What stands: the result's box, the reader. -/
structure Fd (w W : World) (b m : Nat) : Prop where
  R : Blk W w.heap.size 25 nilF
  ok : Ok W b m
  G : w.grownBy W (some b)
  L : b < w.heap.size
  lt : w.heap.size < W.heap.size
section
variable {w W W' : World} {b m m' g : Nat} {f f' : Ft}
theorem Fd.start (h : Ok w b m) : Fd w (w.alloc (.cells nilF 25)) b m :=
  ⟨Blk.new w _ _, h.below ((Below.refl _ _).alloc (Nat.le_refl _) _), gbelow ((Below.refl _ _).alloc (Nat.le_refl _) _) _, h.lt, by simp⟩
theorem Fd.below (h : Fd w W b m) (hb : Below W.heap.size W W') : Fd w W' b m := ⟨h.R.later hb, h.ok.below hb, gtrans h.G (gbelow hb _), h.L, Nat.lt_of_lt_of_le h.lt hb.size⟩
theorem Fd.step (h : Fd w W b m) (ho : Ok W' b m') (hg : W.grownBy W' (some b)) : Fd w W' b m' := by
  have h1 := h.L
  refine ⟨blk_grown h.R hg ?_, ho, gtrans h.G hg, h.L, Nat.lt_of_lt_of_le h.lt hg.size⟩
  intro e
  have : b = w.heap.size := by simpa using e
  omega
theorem Fd.mono (h : Fd w W b m) (hm : m ≤ m') : Fd w W b m' := ⟨h.R, h.ok.mono hm, h.G, h.L, h.lt⟩
theorem Fd.drew (h : Fd w W b m) : Fd w W.drew b m := h.below (Below.refl _ _).drew
/-- The model's words stand, too. -/
structure Fw (w W : World) (b m B : Nat) : Prop extends Fd w W b m where
  T : WAt W B
  lb : w.heap.size < B
theorem Fw.step {B : Nat} (h : Fw w W b m B) (ho : Ok W' b m') (hg : W.grownBy W' (some b)) : Fw w W' b m' B := by
  have h1 := h.L
  have h2 := h.lb
  refine ⟨h.toFd.step ho hg, ⟨fun i hi => blk_grown (h.T.W i hi) hg ?_, blk_grown h.T.T hg ?_⟩, h.lb⟩
  · intro e
    have : b = B + i := by simpa using e
    omega
  · intro e
    have : b = B + 5 := by simpa using e
    omega
theorem Fw.drew {B : Nat} (h : Fw w W b m B) : Fw w W.drew b m B := ⟨h.toFd.drew, ⟨fun i hi => (h.T.W i hi), h.T.T⟩, h.lb⟩
/-- The drawn feature's box, too. -/
structure Fe (w W : World) (b m g : Nat) (f : Ft) : Prop extends Fd w W b m where
  F : Blk W g 25 #[.int .i64 f.c, .string f.wh, .string f.wt, .string f.lk, .string f.sd]
  lg : w.heap.size < g
theorem Fe.below (h : Fe w W b m g f) (hb : Below W.heap.size W W') : Fe w W' b m g f := ⟨h.toFd.below hb, h.F.later hb, h.lg⟩
theorem Fe.drew (h : Fe w W b m g f) : Fe w W.drew b m g f := ⟨h.toFd.drew, h.F, h.lg⟩
theorem Fe.mono (h : Fe w W b m g f) (hm : m ≤ m') : Fe w W b m' g f := ⟨h.toFd.mono hm, h.F, h.lg⟩
theorem Fe.step (h : Fe w W b m g f) (ho : Ok W' b m') (hg : W.grownBy W' (some b)) : Fe w W' b m' g f := by
  have h1 := h.L
  have h2 := h.lg
  refine ⟨h.toFd.step ho hg, blk_grown h.F hg ?_, h.lg⟩
  intro e
  have : b = g := by simpa using e
  omega
theorem Fe.put (h : Fe w W b m g f) (i : Nat) (v : Value) (e : (#[.int .i64 f.c, .string f.wh, .string f.wt, .string f.lk, .string f.sd]).setIfInBounds i v = #[.int .i64 f'.c, .string f'.wh, .string f'.wt, .string f'.lk, .string f'.sd]) : Fe w (W.setCell ⟨g, i, none⟩ v) b m g f' := by
  have hB : Below (w.heap.size + 1) W (W.setCell ⟨g, i, none⟩ v) := (Below.refl _ _).setCell (p := ⟨g, i, none⟩) h.lg v
  refine ⟨⟨h.R.far (p := ⟨g, i, none⟩) (by have := h.lg; show w.heap.size ≠ g; omega) v, ok_belowB h.ok hB (by have := h.L; omega), grown_B h.G hB (by omega), h.L, Nat.lt_of_lt_of_le h.lt hB.size⟩, ?_, h.lg⟩
  have := h.F.set_ i v
  rwa [e] at this
theorem Fe.put_c (h : Fe w W b m g f) (x : Int) : Fe w (W.setCell ⟨g, 0, none⟩ (.int .i64 x)) b m g ⟨x, f.wh, f.wt, f.lk, f.sd⟩ := h.put 0 _ rfl
theorem Fe.put_wh (h : Fe w W b m g f) (x : ByteArray) : Fe w (W.setCell ⟨g, 1, none⟩ (.string x)) b m g ⟨f.c, x, f.wt, f.lk, f.sd⟩ := h.put 1 _ rfl
theorem Fe.put_wt (h : Fe w W b m g f) (x : ByteArray) : Fe w (W.setCell ⟨g, 2, none⟩ (.string x)) b m g ⟨f.c, f.wh, x, f.lk, f.sd⟩ := h.put 2 _ rfl
theorem Fe.put_lk (h : Fe w W b m g f) (x : ByteArray) : Fe w (W.setCell ⟨g, 3, none⟩ (.string x)) b m g ⟨f.c, f.wh, f.wt, x, f.sd⟩ := h.put 3 _ rfl
theorem Fe.put_sd (h : Fe w W b m g f) (x : ByteArray) : Fe w (W.setCell ⟨g, 4, none⟩ (.string x)) b m g ⟨f.c, f.wh, f.wt, f.lk, x⟩ := h.put 4 _ rfl
/-- The feature's box, if it has been made. -/
structure Fo (w W : World) (b m B : Nat) (o : Option Nat) : Prop extends Fw w W b m B where
  box : ∀ g, o = some g → Blk W g 25 nilF ∧ w.heap.size < g
theorem Fw.below {B : Nat} (h : Fw w W b m B) (hb : Below W.heap.size W W') : Fw w W' b m B := ⟨h.toFd.below hb, ⟨fun i hi => (h.T.W i hi).later hb, h.T.T.later hb⟩, h.lb⟩
theorem Fo.step {B : Nat} {o : Option Nat} (h : Fo w W b m B o) (ho : Ok W' b m') (hg : W.grownBy W' (some b)) : Fo w W' b m' B o := by
  refine ⟨h.toFw.step ho hg, fun g e => ⟨blk_grown (h.box g e).1 hg ?_, (h.box g e).2⟩⟩
  intro e'
  have h1 := h.L
  have h2 := (h.box g e).2
  have : b = g := by simpa using e'
  omega
theorem Fo.drew {B : Nat} {o : Option Nat} (h : Fo w W b m B o) : Fo w W.drew b m B o := ⟨h.toFw.drew, fun g e => h.box g e⟩
theorem Fo.alloc {B : Nat} (h : Fo w W b m B none) : Fo w (W.alloc (.cells nilF 25)) b m B (some W.heap.size) :=
  ⟨h.toFw.below ((Below.refl _ _).alloc (Nat.le_refl _) _), fun g e => by cases e; exact ⟨Blk.new W _ _, h.lt⟩⟩
theorem Fo.dalloc {B : Nat} (h : Fo w W b m B none) : Fo w (W.drew.alloc (.cells nilF 25)) b m B (some W.heap.size) := h.drew.alloc
theorem Fo.cell {B : Nat} {o : Option Nat} (h : Fo w W b m B o) (k : Nat) (hk : k < 5) : W.cell? ⟨B + 5, k, none⟩ = some (.slice (some ⟨B + k, 0, none⟩) (famW k).length (famW k).length) := h.T.cell k hk
theorem Fo.cellA {B : Nat} {o : Option Nat} (h : Fo w W b m B o) (k : Nat) (hk : k < 5) (x : Obj) : (W.alloc x).cell? ⟨B + 5, k, none⟩ = some (.slice (some ⟨B + k, 0, none⟩) (famW k).length (famW k).length) := by
  rw [← h.T.cell k hk]
  exact Below.cell (B := W.heap.size) ((Below.refl _ _).alloc (Nat.le_refl _) x) h.T.T.lt
theorem far5 {W : World} {g g' k : Nat} (hne : g' ≠ g) (y0 y1 y2 y3 y4 : Value) : (((((W.setCell ⟨g, 0, none⟩ y0).setCell ⟨g, 1, none⟩ y1).setCell ⟨g, 2, none⟩ y2).setCell ⟨g, 3, none⟩ y3).setCell ⟨g, 4, none⟩ y4).cell? ⟨g', k, none⟩ = W.cell? ⟨g', k, none⟩ := by
  simp only [World.cell?, World.setCell, Array.getElem?_modify, if_neg (Ne.symm hne)]
theorem Fo.cell5 {B : Nat} (h : Fo w W b m B (some g)) (k : Nat) (hk : k < 5) (y0 y1 y2 y3 y4 : Value) : (((((W.setCell ⟨g, 0, none⟩ y0).setCell ⟨g, 1, none⟩ y1).setCell ⟨g, 2, none⟩ y2).setCell ⟨g, 3, none⟩ y3).setCell ⟨g, 4, none⟩ y4).cell? ⟨B + 5, k, none⟩ = some (.slice (some ⟨B + k, 0, none⟩) (famW k).length (famW k).length) := by
  rw [far5 ?_, h.T.cell k hk]
  intro e
  have h1 := (h.box g rfl).1
  have h2 := h.T.T
  rw [e] at h2
  unfold Blk at h1 h2
  rw [h1] at h2
  simp at h2
theorem Fo.five {B : Nat} (h : Fo w W b m B (some g)) : W.cell? ⟨g, 0, none⟩ = some (.int .i64 0) ∧ W.cell? ⟨g, 1, none⟩ = some (.string ⟨#[]⟩) ∧ W.cell? ⟨g, 2, none⟩ = some (.string ⟨#[]⟩) ∧ W.cell? ⟨g, 3, none⟩ = some (.string ⟨#[]⟩) ∧ W.cell? ⟨g, 4, none⟩ = some (.string ⟨#[]⟩) ∧ W.frozen? ⟨g, 0, none⟩ = false ∧ W.frozen? ⟨g, 1, none⟩ = false ∧ W.frozen? ⟨g, 2, none⟩ = false ∧ W.frozen? ⟨g, 3, none⟩ = false ∧ W.frozen? ⟨g, 4, none⟩ = false := (h.box g rfl).1.five
theorem Fo.fin1 {B : Nat} {o : Option Nat} (h : Fo w W b m B o) (f : Ft) : Fe w (W.alloc (.cells #[.int .i64 f.c, .string f.wh, .string f.wt, .string f.lk, .string f.sd] 25)) b m W.heap.size f :=
  ⟨h.toFd.below ((Below.refl _ _).alloc (Nat.le_refl _) _), Blk.new W _ _, h.lt⟩
theorem Fo.fe {B : Nat} (h : Fo w W b m B (some g)) : Fe w W b m g ⟨0, ⟨#[]⟩, ⟨#[]⟩, ⟨#[]⟩, ⟨#[]⟩⟩ := ⟨h.toFd, (h.box g rfl).1, (h.box g rfl).2⟩
theorem Fo.fin5 {B : Nat} (h : Fo w W b m B (some g)) (f : Ft) : Fe w (((((W.setCell ⟨g, 0, none⟩ (.int .i64 f.c)).setCell ⟨g, 1, none⟩ (.string f.wh)).setCell ⟨g, 2, none⟩ (.string f.wt)).setCell ⟨g, 3, none⟩ (.string f.lk)).setCell ⟨g, 4, none⟩ (.string f.sd)) b m g f :=
  ((((h.fe.put_c f.c).put_wh f.wh).put_wt f.wt).put_lk f.lk).put_sd f.sd
end
end Go.Proofs.YtpfjdlaaakkimaaDoor.FtD
