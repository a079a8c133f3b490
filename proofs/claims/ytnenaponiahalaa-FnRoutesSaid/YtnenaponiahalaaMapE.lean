/- The laws' own helpers over maps: contracts (without 'held'). -/
import Derived.Test.YtnenaponiahalaaIntS
namespace Go.Proofs.Ytnenaponiahalaa.MapS
open Go.RowKit Lb IntS
set_option linter.unusedSimpArgs false
set_option linter.unusedVariables false

/-- A map in memory of the call's own. -/
def OwnM (w : World) (base : Nat) (v : Value) (m : Mp) : Prop :=
  ∃ a ca b cb, v = .agg #[.int .i64 m.W, .int .i64 m.H, .slice a m.R.length ca, .slice b m.C.length cb] ∧ OwnI w base (.slice a m.R.length ca) m.R ∧ OwnI w base (.slice b m.C.length cb) m.C ∧ ∀ x y, a = some x → b = some y → x.block ≠ y.block

/-- A map that can be read. -/
def MapAt (w : World) (v : Value) (m : Mp) : Prop := ∃ a ca b cb, v = .agg #[.int .i64 m.W, .int .i64 m.H, .slice a m.R.length ca, .slice b m.C.length cb] ∧ IRow w a m.R ∧ IRow w b m.C

theorem OwnI.row {w : World} {base : Nat} {a : Option Addr} {cap : Nat} {zs : List Int} (h : OwnI w base (.slice a zs.length cap) zs) : IRow w a zs := by
  obtain ⟨a', c', e, hr, _⟩ := OwnI.slice h
  cases e; exact hr
theorem OwnI.lt {w : World} {base : Nat} {a : Option Addr} {cap n : Nat} {zs : List Int} (h : OwnI w base (.slice a n cap) zs) : ∀ x, a = some x → base ≤ x.block ∧ x.block < w.heap.size := by
  obtain ⟨a', c', e, _, hk⟩ := OwnI.slice h
  cases e; exact hk
theorem OwnM.at_ {w : World} {base : Nat} {v : Value} {m : Mp} (h : OwnM w base v m) : MapAt w v m := by
  obtain ⟨a, ca, b, cb, rfl, h1, h2, _⟩ := h
  exact ⟨a, ca, b, cb, rfl, OwnI.row h1, OwnI.row h2⟩
theorem OwnM.below {B : Nat} {w w' : World} {base : Nat} {v : Value} {m : Mp} (h : OwnM w base v m) (hb : Below B w w') (hB : w.heap.size ≤ B) : OwnM w' base v m := by
  obtain ⟨a, ca, b, cb, rfl, h1, h2, h3⟩ := h
  exact ⟨a, ca, b, cb, rfl, OwnI.belowB h1 hb hB, OwnI.belowB h2 hb hB, h3⟩
theorem MapAt.below {B : Nat} {w w' : World} {v : Value} {m : Mp} (h : MapAt w v m) (hb : Below B w w') (hB : w.heap.size ≤ B) : MapAt w' v m := by
  obtain ⟨a, ca, b, cb, rfl, h1, h2⟩ := h
  exact ⟨a, ca, b, cb, rfl, RowAt.belowB h1 hb hB, RowAt.belowB h2 hb hB⟩

theorem bcell {W w1 : World} (hb : Below W.heap.size W w1) : (∀ b o, b < W.heap.size → w1.cell? ⟨b, o, none⟩ = W.cell? ⟨b, o, none⟩) ∧ (∀ b o, b < W.heap.size → w1.frozen? ⟨b, o, none⟩ = W.frozen? ⟨b, o, none⟩) :=
  ⟨fun b o h => hb.cell (p := ⟨b, o, none⟩) h, fun b o h => hb.frozen (p := ⟨b, o, none⟩) h⟩

/-- A block known whole. -/
def Blk (w : World) (g : Nat) (t : TypeId) (cs : Array Value) : Prop := w.heap[g]? = some (.cells cs t (0, 0))
theorem Blk.lt {w : World} {g : Nat} {t : TypeId} {cs : Array Value} (h : Blk w g t cs) : g < w.heap.size := by
  rcases Nat.lt_or_ge g w.heap.size with hlt | hge
  · exact hlt
  · unfold Blk at h; rw [Array.getElem?_eq_none hge] at h; cases h
theorem Blk.new (w : World) (t : TypeId) (cs : Array Value) : Blk (w.alloc (.cells cs t)) w.heap.size t cs := heap_alloc_new w _
theorem Blk.alloc {w : World} {g : Nat} {t : TypeId} {cs : Array Value} (h : Blk w g t cs) (o : Obj) : Blk (w.alloc o) g t cs := (Below.heap_alloc w o g h.lt).trans h
theorem Blk.set_ {w : World} {g : Nat} {t : TypeId} {cs : Array Value} (h : Blk w g t cs) (i : Nat) (u : Value) : Blk (w.setCell ⟨g, i, none⟩ u) g t (cs.setIfInBounds i u) := by
  unfold Blk at h ⊢
  simp [World.setCell, Array.getElem?_modify, h]
theorem Blk.far {w : World} {g : Nat} {t : TypeId} {cs : Array Value} (h : Blk w g t cs) {p : Addr} (hp : g ≠ p.block) (u : Value) : Blk (w.setCell p u) g t cs := (Below.heap_setCell w p u g hp).trans h
theorem Blk.below {B : Nat} {w w' : World} {g : Nat} {t : TypeId} {cs : Array Value} (h : Blk w g t cs) (hb : Below B w w') (hg : g < B) : Blk w' g t cs := (hb.block g hg).trans h
theorem Blk.later {w w' : World} {g : Nat} {t : TypeId} {cs : Array Value} (h : Blk w g t cs) (hb : Below w.heap.size w w') : Blk w' g t cs := h.below hb h.lt
theorem Blk.four {w : World} {g : Nat} {t : TypeId} {x0 x1 x2 x3 : Value} (h : Blk w g t #[x0, x1, x2, x3]) :
    w.cell? ⟨g, 0, none⟩ = some x0 ∧ w.cell? ⟨g, 1, none⟩ = some x1 ∧ w.cell? ⟨g, 2, none⟩ = some x2 ∧ w.cell? ⟨g, 3, none⟩ = some x3 ∧ w.frozen? ⟨g, 0, none⟩ = false ∧ w.frozen? ⟨g, 1, none⟩ = false ∧ w.frozen? ⟨g, 2, none⟩ = false ∧ w.frozen? ⟨g, 3, none⟩ = false := by
  unfold Blk at h
  simp [World.cell?, World.frozen?, h]
theorem Blk.one {w : World} {g : Nat} {t : TypeId} {x : Value} (h : Blk w g t #[x]) : w.cell? ⟨g, 0, none⟩ = some x ∧ w.frozen? ⟨g, 0, none⟩ = false := by
  unfold Blk at h
  simp [World.cell?, World.frozen?, h]

/-- What has turned lies in blocks from 'lo' to 'hi', and in new ones. -/
structure Chg (lo hi : Nat) (w w' : World) : Prop where
  os : w'.os = w.os
  tape : w'.tape = w.tape
  output : w'.output = w.output
  size : w.heap.size ≤ w'.heap.size
  block : ∀ k, k < w.heap.size → (k < lo ∨ hi ≤ k) → w'.heap[k]? = w.heap[k]?
theorem Chg.refl (lo hi : Nat) (w : World) : Chg lo hi w w := ⟨rfl, rfl, rfl, Nat.le_refl _, fun _ _ _ => rfl⟩
theorem Chg.trans {lo hi : Nat} {a b c : World} (h : Chg lo hi a b) (k : Chg lo hi b c) : Chg lo hi a c :=
  ⟨k.os.trans h.os, k.tape.trans h.tape, k.output.trans h.output, Nat.le_trans h.size k.size, fun i hi hr => (k.block i (Nat.lt_of_lt_of_le hi h.size) hr).trans (h.block i hi hr)⟩
theorem Chg.of_below {a b : World} (h : Below a.heap.size a b) (lo hi : Nat) : Chg lo hi a b := ⟨h.os, h.tape, h.output, h.size, fun k hk _ => h.block k hk⟩
theorem Chg.of_grown {a b : World} {r : Option Nat} {lo hi : Nat} (h : a.grownBy b r) (hr : ∀ k, r = some k → lo ≤ k ∧ k < hi) : Chg lo hi a b :=
  ⟨h.os, h.tape, h.output, h.size, fun k hk hc => h.block k hk (fun e => by have := hr k e.symm; omega)⟩
theorem Chg.below {a b : World} {lo hi : Nat} (h : Chg lo hi a b) (hB : lo ≤ a.heap.size) : Below lo a b := ⟨h.os, h.tape, h.output, h.size, fun k hk => h.block k (by omega) (.inl hk)⟩
theorem Chg.row {a b : World} {lo hi : Nat} (h : Chg lo hi a b) {x : Option Addr} {n : Nat} {f : Nat → Value} (hr : RowAt a x n f) (hx : ∀ p, x = some p → p.block < lo ∨ hi ≤ p.block) : RowAt b x n f := by
  rcases hr with h0 | ⟨g, o, rfl, hc⟩
  · exact .inl h0
  · refine .inr ⟨g, o, rfl, fun k hk => ?_⟩
    have hl := World.block_lt_of_cell? a _ (hc k hk)
    exact (World.cell?_of_block (h.block g hl (hx _ rfl))).trans (hc k hk)
theorem Chg.own {a b : World} {lo hi base : Nat} (h : Chg lo hi a b) {x : Option Addr} {n cap : Nat} {zs : List Int} (hr : OwnI a base (.slice x n cap) zs) (hx : ∀ p, x = some p → p.block < lo ∨ hi ≤ p.block) : OwnI b base (.slice x n cap) zs := by
  have hlt := OwnI.lt hr
  unfold OwnI at hr ⊢
  refine ⟨hr.1, ?_⟩
  rcases hr.2 with h2 | ⟨g, c, cur, hv, hg, hh, r⟩
  · exact .inl h2
  · refine .inr ⟨g, c, cur, hv, hg, ?_, r⟩
    have e : x = some ⟨g, 0, none⟩ := (Value.slice.inj hv).1
    exact (h.block g (hlt _ e).2 (hx _ e)).trans hh

/-- The map after marking. -/
def markM (m : Mp) : Mp := ⟨m.W, m.H, markZ 1 m.R.length, markZ (1 + m.R.length) m.C.length⟩

end Go.Proofs.Ytnenaponiahalaa.MapS
