/- What the laws' helper of tables answers at equal tables. -/
import Derived.Test.YtleoljnofdajfaaGreatDoorProg
import Derived.Test.YtleoljnofdajfaaGreatDoorIntE
import Derived.WalkLawsBesides
import Derived.WalkSpells
import Derived.Deep.RegionWith
import Derived.Test.YtleoljnofdajfaaGreatDoorMapM
import Derived.Deep.CutRange
import Derived.Deep.DeepCutAuto
import Derived.Deep.LoopGhost
import Derived.Deep.RegionLaw
import Derived.Deep.AppendLies
import Derived.IntWalk
import Derived.Test.YtleoljnofdajfaaGreatDoorMark
import Derived.Test.YtleoljnofdajfaaGreatDoorBk
import Derived.Test.YtleoljnofdajfaaGreatDoorCodB
import Derived.Test.YtleoljnofdajfaaGreatDoorIntA
import Derived.Deep.QuietTactic
namespace Go.Proofs.YtleoljnofdajfaaGreatDoor.IntS
open Go.RowKit Lb
set_option linter.unusedSimpArgs false
set_option linter.unusedVariables false

/-- The first 'k' numbers are there, behind them zeros. -/
def upTo (zs : List Int) (k : Nat) : List Value := (zs.take k).map (Value.int .i64) ++ List.replicate (zs.length - k) (.int .i64 0)
theorem upTo_zero (zs : List Int) : upTo zs 0 = List.replicate zs.length (.int .i64 0) := by simp [upTo]
theorem upTo_all (zs : List Int) : upTo zs zs.length = zs.map (Value.int .i64) := by simp [upTo]
theorem upTo_length (zs : List Int) (k : Nat) (h : k ≤ zs.length) : (upTo zs k).length = zs.length := by simp [upTo]; omega
theorem upTo_at (zs : List Int) (k : Nat) (h : k < zs.length) : (upTo zs k)[k]? = some (.int .i64 0) := by
  unfold upTo
  have e : ((zs.take k).map (Value.int .i64)).length = k := by simp; omega
  rw [List.getElem?_append_right (by omega), e, Nat.sub_self, List.getElem?_replicate, if_pos (by omega)]
theorem upTo_set (zs : List Int) (k : Nat) (h : k < zs.length) : (upTo zs k).set k (.int .i64 (zAt zs k)) = upTo zs (k + 1) := by
  unfold upTo
  rw [List.set_append_right _ _ (by simp; omega), zAt_take zs k h]
  have e : zs.length - k = (zs.length - (k + 1)) + 1 := by omega
  rw [e, List.replicate_succ]
  simp [Nat.min_eq_left (Nat.le_of_lt h)]

end Go.Proofs.YtleoljnofdajfaaGreatDoor.IntS

namespace Go.Proofs.YtleoljnofdajfaaGreatDoor.MapS
open Go.RowKit Lb IntS
set_option linter.unusedSimpArgs false
set_option linter.unusedVariables false

/-- A map in memory of the call's own. -/
def OwnM (w : World) (base : Nat) (v : Value) (m : Mp) : Prop :=
  ∃ a ca b cb, v = .agg #[.int .i64 m.W, .int .i64 m.H, .slice a m.R.length ca, .slice b m.C.length cb] ∧ OwnI w base (.slice a m.R.length ca) m.R ∧ OwnI w base (.slice b m.C.length cb) m.C ∧ ∀ x y, a = some x → b = some y → x.block ≠ y.block

/-- A map that can be read. -/
def MapAt (w : World) (v : Value) (m : Mp) : Prop := ∃ a ca b cb, v = .agg #[.int .i64 m.W, .int .i64 m.H, .slice a m.R.length ca, .slice b m.C.length cb] ∧ IRow w a m.R ∧ IRow w b m.C

theorem OwnI.row {w : World} {base : Nat} {a : Option Addr} {cap : Nat} {zs : List Int} (h : OwnI w base (.slice a zs.length cap) zs) : IRow w a zs := by
  obtain ⟨a', c', e, hr, _⟩ := OwnI.slice h
  cases e; exact hr
theorem OwnI.lt {w : World} {base : Nat} {a : Option Addr} {cap n : Nat} {zs : List Int} (h : OwnI w base (.slice a n cap) zs) : ∀ x, a = some x → base ≤ x.block ∧ x.block < w.heap.size := by
  obtain ⟨a', c', e, _, hk⟩ := OwnI.slice h
  cases e; exact hk
theorem OwnM.at_ {w : World} {base : Nat} {v : Value} {m : Mp} (h : OwnM w base v m) : MapAt w v m := by
  obtain ⟨a, ca, b, cb, rfl, h1, h2, _⟩ := h
  exact ⟨a, ca, b, cb, rfl, OwnI.row h1, OwnI.row h2⟩
theorem OwnM.below {B : Nat} {w w' : World} {base : Nat} {v : Value} {m : Mp} (h : OwnM w base v m) (hb : Below B w w') (hB : w.heap.size ≤ B) : OwnM w' base v m := by
  obtain ⟨a, ca, b, cb, rfl, h1, h2, h3⟩ := h
  exact ⟨a, ca, b, cb, rfl, OwnI.belowB h1 hb hB, OwnI.belowB h2 hb hB, h3⟩
theorem MapAt.below {B : Nat} {w w' : World} {v : Value} {m : Mp} (h : MapAt w v m) (hb : Below B w w') (hB : w.heap.size ≤ B) : MapAt w' v m := by
  obtain ⟨a, ca, b, cb, rfl, h1, h2⟩ := h
  exact ⟨a, ca, b, cb, rfl, RowAt.belowB h1 hb hB, RowAt.belowB h2 hb hB⟩

theorem bcell {W w1 : World} (hb : Below W.heap.size W w1) : (∀ b o, b < W.heap.size → w1.cell? ⟨b, o, none⟩ = W.cell? ⟨b, o, none⟩) ∧ (∀ b o, b < W.heap.size → w1.frozen? ⟨b, o, none⟩ = W.frozen? ⟨b, o, none⟩) :=
  ⟨fun b o h => hb.cell (p := ⟨b, o, none⟩) h, fun b o h => hb.frozen (p := ⟨b, o, none⟩) h⟩

/-- A block known whole. -/
def Blk (w : World) (g : Nat) (t : TypeId) (cs : Array Value) : Prop := w.heap[g]? = some (.cells cs t (0, 0))
theorem Blk.lt {w : World} {g : Nat} {t : TypeId} {cs : Array Value} (h : Blk w g t cs) : g < w.heap.size := by
  rcases Nat.lt_or_ge g w.heap.size with hlt | hge
  · exact hlt
  · unfold Blk at h; rw [Array.getElem?_eq_none hge] at h; cases h
theorem Blk.new (w : World) (t : TypeId) (cs : Array Value) : Blk (w.alloc (.cells cs t)) w.heap.size t cs := heap_alloc_new w _
theorem Blk.alloc {w : World} {g : Nat} {t : TypeId} {cs : Array Value} (h : Blk w g t cs) (o : Obj) : Blk (w.alloc o) g t cs := (Below.heap_alloc w o g h.lt).trans h
theorem Blk.set_ {w : World} {g : Nat} {t : TypeId} {cs : Array Value} (h : Blk w g t cs) (i : Nat) (u : Value) : Blk (w.setCell ⟨g, i, none⟩ u) g t (cs.setIfInBounds i u) := by
  unfold Blk at h ⊢
  simp [World.setCell, Array.getElem?_modify, h]
theorem Blk.far {w : World} {g : Nat} {t : TypeId} {cs : Array Value} (h : Blk w g t cs) {p : Addr} (hp : g ≠ p.block) (u : Value) : Blk (w.setCell p u) g t cs := (Below.heap_setCell w p u g hp).trans h
theorem Blk.below {B : Nat} {w w' : World} {g : Nat} {t : TypeId} {cs : Array Value} (h : Blk w g t cs) (hb : Below B w w') (hg : g < B) : Blk w' g t cs := (hb.block g hg).trans h
theorem Blk.later {w w' : World} {g : Nat} {t : TypeId} {cs : Array Value} (h : Blk w g t cs) (hb : Below w.heap.size w w') : Blk w' g t cs := h.below hb h.lt
theorem Blk.four {w : World} {g : Nat} {t : TypeId} {x0 x1 x2 x3 : Value} (h : Blk w g t #[x0, x1, x2, x3]) :
    w.cell? ⟨g, 0, none⟩ = some x0 ∧ w.cell? ⟨g, 1, none⟩ = some x1 ∧ w.cell? ⟨g, 2, none⟩ = some x2 ∧ w.cell? ⟨g, 3, none⟩ = some x3 ∧ w.frozen? ⟨g, 0, none⟩ = false ∧ w.frozen? ⟨g, 1, none⟩ = false ∧ w.frozen? ⟨g, 2, none⟩ = false ∧ w.frozen? ⟨g, 3, none⟩ = false := by
  unfold Blk at h
  simp [World.cell?, World.frozen?, h]
theorem Blk.one {w : World} {g : Nat} {t : TypeId} {x : Value} (h : Blk w g t #[x]) : w.cell? ⟨g, 0, none⟩ = some x ∧ w.frozen? ⟨g, 0, none⟩ = false := by
  unfold Blk at h
  simp [World.cell?, World.frozen?, h]

/-- What has turned lies in blocks from 'lo' to 'hi', and in new ones. -/
structure Chg (lo hi : Nat) (w w' : World) : Prop where
  os : w'.os = w.os
  tape : w'.tape = w.tape
  output : w'.output = w.output
  size : w.heap.size ≤ w'.heap.size
  block : ∀ k, k < w.heap.size → (k < lo ∨ hi ≤ k) → w'.heap[k]? = w.heap[k]?
theorem Chg.refl (lo hi : Nat) (w : World) : Chg lo hi w w := ⟨rfl, rfl, rfl, Nat.le_refl _, fun _ _ _ => rfl⟩
theorem Chg.trans {lo hi : Nat} {a b c : World} (h : Chg lo hi a b) (k : Chg lo hi b c) : Chg lo hi a c :=
  ⟨k.os.trans h.os, k.tape.trans h.tape, k.output.trans h.output, Nat.le_trans h.size k.size, fun i hi hr => (k.block i (Nat.lt_of_lt_of_le hi h.size) hr).trans (h.block i hi hr)⟩
theorem Chg.of_below {a b : World} (h : Below a.heap.size a b) (lo hi : Nat) : Chg lo hi a b := ⟨h.os, h.tape, h.output, h.size, fun k hk _ => h.block k hk⟩
theorem Chg.of_grown {a b : World} {r : Option Nat} {lo hi : Nat} (h : a.grownBy b r) (hr : ∀ k, r = some k → lo ≤ k ∧ k < hi) : Chg lo hi a b :=
  ⟨h.os, h.tape, h.output, h.size, fun k hk hc => h.block k hk (fun e => by have := hr k e.symm; omega)⟩
theorem Chg.below {a b : World} {lo hi : Nat} (h : Chg lo hi a b) (hB : lo ≤ a.heap.size) : Below lo a b := ⟨h.os, h.tape, h.output, h.size, fun k hk => h.block k (by omega) (.inl hk)⟩
theorem Chg.row {a b : World} {lo hi : Nat} (h : Chg lo hi a b) {x : Option Addr} {n : Nat} {f : Nat → Value} (hr : RowAt a x n f) (hx : ∀ p, x = some p → p.block < lo ∨ hi ≤ p.block) : RowAt b x n f := by
  rcases hr with h0 | ⟨g, o, rfl, hc⟩
  · exact .inl h0
  · refine .inr ⟨g, o, rfl, fun k hk => ?_⟩
    have hl := World.block_lt_of_cell? a _ (hc k hk)
    exact (World.cell?_of_block (h.block g hl (hx _ rfl))).trans (hc k hk)
theorem Chg.own {a b : World} {lo hi base : Nat} (h : Chg lo hi a b) {x : Option Addr} {n cap : Nat} {zs : List Int} (hr : OwnI a base (.slice x n cap) zs) (hx : ∀ p, x = some p → p.block < lo ∨ hi ≤ p.block) : OwnI b base (.slice x n cap) zs := by
  have hlt := OwnI.lt hr
  unfold OwnI at hr ⊢
  refine ⟨hr.1, ?_⟩
  rcases hr.2 with h2 | ⟨g, c, cur, hv, hg, hh, r⟩
  · exact .inl h2
  · refine .inr ⟨g, c, cur, hv, hg, ?_, r⟩
    have e : x = some ⟨g, 0, none⟩ := (Value.slice.inj hv).1
    exact (h.block g (hlt _ e).2 (hx _ e)).trans hh

/-- The map after marking. -/
def markM (m : Mp) : Mp := ⟨m.W, m.H, markZ 1 m.R.length, markZ (1 + m.R.length) m.C.length⟩

end Go.Proofs.YtleoljnofdajfaaGreatDoor.MapS

namespace Go.Proofs.YtleoljnofdajfaaGreatDoor.MapV
open Go.RowKit Lb IntS MapS
set_option linter.unusedSimpArgs false
set_option linter.unusedVariables false

theorem in_yes (x a b : Int) (w : World) (h1 : a ≤ x) (h2 : x ≤ b) : Calls Tryz.prog 56 #[.int .i64 x, .int .i64 a, .int .i64 b] w fun e w' => e = .returned (.bool true) ∧ w' = w := by
  go_enter Tryz.func56, Tryz.ntmps56
  go_wp2
  go_ret
  exact ⟨rfl, rfl⟩
theorem in_no (x a b : Int) (w : World) (h : x < a ∨ b < x) : Calls Tryz.prog 56 #[.int .i64 x, .int .i64 a, .int .i64 b] w fun e w' => e = .returned (.bool false) ∧ w' = w := by
  by_cases h1 : x < a
  · go_enter Tryz.func56, Tryz.ntmps56
    go_wp2
    go_ret
    exact ⟨rfl, rfl⟩
  · have h2 : b < x := by omega
    have h3 : decide (x ≤ b) = false := by simpa using h2
    go_enter Tryz.func56, Tryz.ntmps56
    go_wp2
    go_ret
    exact ⟨rfl, rfl⟩

theorem not_cell {m : Mp} {k : Nat} (h : ¬ CellOk m k) : (zAt m.R k < 0 ∨ 9 < zAt m.R k) ∨ ((0 ≤ zAt m.R k ∧ zAt m.R k ≤ 9) ∧ (zAt m.C k < 0 ∨ 9 < zAt m.C k)) := by
  unfold CellOk at h
  omega

end Go.Proofs.YtleoljnofdajfaaGreatDoor.MapV

namespace Go.Proofs.YtleoljnofdajfaaGreatDoor.Lb
open Go.RowKit
set_option linter.unusedVariables false

theorem len_le_of_sub : ∀ (a b : List Nat), a.Nodup → (∀ x ∈ a, x ∈ b) → a.length ≤ b.length
  | [], b, _, _ => by simp
  | x :: a, b, hn, hs => by
    have hx : x ∈ b := hs x (by simp)
    have hn' := List.nodup_cons.1 hn
    have := len_le_of_sub a (b.erase x) hn'.2 (fun y hy => by
      have hne : y ≠ x := fun e => hn'.1 (e ▸ hy)
      exact (List.mem_erase_of_ne hne).2 (hs y (by simp [hy])))
    rw [List.length_erase_of_mem hx] at this
    have : 0 < b.length := List.length_pos_of_mem hx
    simp only [List.length_cons]
    omega
theorem len_le_of_lt (a : List Nat) (n : Nat) (hn : a.Nodup) (hs : ∀ x ∈ a, x < n) : a.length ≤ n := by
  have := len_le_of_sub a (List.range n) hn (fun x hx => by simpa using hs x hx)
  simpa using this
theorem len_eq_of_mem (a b : List Nat) (ha : a.Nodup) (hb : b.Nodup) (h : ∀ x, x ∈ a ↔ x ∈ b) : a.length = b.length :=
  Nat.le_antisymm (len_le_of_sub a b ha fun x hx => (h x).1 hx) (len_le_of_sub b a hb fun x hx => (h x).2 hx)

theorem sorted_ext : ∀ (a b : List Nat), a.Pairwise (· < ·) → b.Pairwise (· < ·) → (∀ x, x ∈ a ↔ x ∈ b) → a = b
  | [], [], _, _, _ => rfl
  | [], y :: b, _, _, h => absurd ((h y).2 (by simp)) (by simp)
  | x :: a, [], _, _, h => absurd ((h x).1 (by simp)) (by simp)
  | x :: a, y :: b, ha, hb, h => by
    obtain ⟨ha1, ha2⟩ := List.pairwise_cons.1 ha
    obtain ⟨hb1, hb2⟩ := List.pairwise_cons.1 hb
    have hxy : x = y := by
      have h1 := (h x).1 (by simp)
      have h2 := (h y).2 (by simp)
      simp only [List.mem_cons] at h1 h2
      rcases h1 with h1 | h1
      · exact h1
      · rcases h2 with h2 | h2
        · exact h2.symm
        · have := ha1 _ h2
          have := hb1 _ h1
          omega
    subst hxy
    rw [sorted_ext a b ha2 hb2 fun z => ⟨fun hz => by
      have h1 := (h z).1 (by simp [hz])
      simp only [List.mem_cons] at h1
      rcases h1 with h1 | h1
      · have := ha1 z hz; omega
      · exact h1, fun hz => by
      have h1 := (h z).2 (by simp [hz])
      simp only [List.mem_cons] at h1
      rcases h1 with h1 | h1
      · have := hb1 z hz; omega
      · exact h1⟩]

/-- The cells to which one comes from a cell. -/
inductive Rch (m : Mp) (c : Nat) : Nat → Prop
  | here : Rch m c c
  | next {x y : Nat} : Rch m c x → y ∈ nx m x → Rch m c y

theorem Rch.trans {m : Mp} {a b c : Nat} (h1 : Rch m a b) (h2 : Rch m b c) : Rch m a c := by
  induction h2 with
  | here => exact h1
  | next _ hy ih => exact .next ih hy
/-- A cell that is not forbidden. -/
def Opn (m : Mp) (n c : Nat) : Prop := c < n ∧ 0 < zAt m.C c
theorem Rch.opn {m : Mp} {w h : Nat} (g : GoodM m w h) {c x : Nat} (hc : Opn m (w * h) c) (hr : Rch m c x) : Opn m (w * h) x := by
  induction hr with
  | here => exact hc
  | next _ hy ih => exact nx_lt g ih.1 hy
theorem Rch.sym {m : Mp} {w h : Nat} (g : GoodM m w h) {c x : Nat} (hc : Opn m (w * h) c) (hr : Rch m c x) : Rch m x c := by
  induction hr with
  | here => exact .here
  | next hr' hy ih =>
    have ho := hr'.opn g hc
    exact Rch.trans (.next .here (nx_sym g ho.1 ho.2 hy)) ih

def IsPart (m : Mp) (c : Nat) (p : List Nat) : Prop := p.Pairwise (· < ·) ∧ ∀ x, x ∈ p ↔ Rch m c x
theorem IsPart.unique {m : Mp} {c : Nat} {p q : List Nat} (hp : IsPart m c p) (hq : IsPart m c q) : p = q :=
  sorted_ext p q hp.1 hq.1 fun x => (hp.2 x).trans (hq.2 x).symm
theorem nodup_of_sorted {p : List Nat} (h : p.Pairwise (· < ·)) : p.Nodup := h.imp fun h => by omega
theorem IsPart.length {m : Mp} {w h : Nat} (g : GoodM m w h) {c : Nat} (hc : Opn m (w * h) c) {p : List Nat} (hp : IsPart m c p) : p.length ≤ w * h :=
  len_le_of_lt p _ (nodup_of_sorted hp.1) fun x hx => (((hp.2 x).1 hx).opn g hc).1

/-- Whether the parts up to a cell have a part that begins at it. -/
def Heads (m : Mp) (n c : Nat) : Prop := Opn m n c ∧ ∀ x, Rch m c x → c ≤ x
inductive PartsTo (m : Mp) (n : Nat) : Nat → List (List Nat) → Prop
  | zero : PartsTo m n 0 []
  | yes {k : Nat} {ps : List (List Nat)} {p : List Nat} : PartsTo m n k ps → Heads m n k → IsPart m k p → PartsTo m n (k + 1) (ps ++ [p])
  | no {k : Nat} {ps : List (List Nat)} : PartsTo m n k ps → ¬ Heads m n k → PartsTo m n (k + 1) ps

theorem PartsTo.unique {m : Mp} {n k : Nat} {ps qs : List (List Nat)} (hp : PartsTo m n k ps) (hq : PartsTo m n k qs) : ps = qs := by
  induction hp generalizing qs with
  | zero => cases hq; rfl
  | yes _ hh hpp ih =>
    cases hq with
    | yes hq' _ hq2 => rw [ih hq', hpp.unique hq2]
    | no _ hn => exact absurd hh hn
  | no _ hn ih =>
    cases hq with
    | yes _ hh _ => exact absurd hh hn
    | no hq' _ => exact ih hq'
theorem PartsTo.length {m : Mp} {n k : Nat} {ps : List (List Nat)} (hp : PartsTo m n k ps) : ps.length ≤ k := by
  induction hp with
  | zero => simp
  | yes _ _ _ ih => simp; omega
  | no _ _ ih => omega
theorem PartsTo.parts {m : Mp} {n k : Nat} {ps : List (List Nat)} (hp : PartsTo m n k ps) : ∀ p ∈ ps, ∃ c, Opn m n c ∧ IsPart m c p := by
  induction hp with
  | zero => simp
  | yes _ hh hq ih =>
    intro p hp
    rcases List.mem_append.1 hp with hp | hp
    · exact ih p hp
    · simp only [List.mem_singleton] at hp
      subst hp
      exact ⟨_, hh.1, hq⟩
  | no _ _ ih => exact ih

/-- What has been seen by a cell: all parts of the cells ahead of it. -/
def Seen (m : Mp) (n k i : Nat) : Prop := ∃ c, c < k ∧ Opn m n c ∧ Rch m c i
theorem seen_zero {m : Mp} {n i : Nat} : ¬ Seen m n 0 i := fun ⟨_, h, _⟩ => by omega
theorem seen_forb {m : Mp} {n k i : Nat} (h : ¬ Opn m n k) : Seen m n (k + 1) i ↔ Seen m n k i := by
  constructor
  · rintro ⟨c, hc, ho, hr⟩
    by_cases e : c = k
    · subst e; exact absurd ho h
    · exact ⟨c, by omega, ho, hr⟩
  · rintro ⟨c, hc, ho, hr⟩; exact ⟨c, by omega, ho, hr⟩
theorem seen_old {m : Mp} {n k i : Nat} (h : Seen m n k k) : Seen m n (k + 1) i ↔ Seen m n k i := by
  constructor
  · rintro ⟨c, hc, ho, hr⟩
    by_cases e : c = k
    · subst e
      obtain ⟨d, hd, hod, hrd⟩ := h
      exact ⟨d, hd, hod, hrd.trans hr⟩
    · exact ⟨c, by omega, ho, hr⟩
  · rintro ⟨c, hc, ho, hr⟩; exact ⟨c, by omega, ho, hr⟩
theorem seen_new {m : Mp} {n k i : Nat} (h : Opn m n k) : Seen m n (k + 1) i ↔ Seen m n k i ∨ Rch m k i := by
  constructor
  · rintro ⟨c, hc, ho, hr⟩
    by_cases e : c = k
    · subst e; exact .inr hr
    · exact .inl ⟨c, by omega, ho, hr⟩
  · rintro (⟨c, hc, ho, hr⟩ | hr)
    · exact ⟨c, by omega, ho, hr⟩
    · exact ⟨k, by omega, h, hr⟩
theorem not_heads_forb {m : Mp} {n k : Nat} (h : ¬ Opn m n k) : ¬ Heads m n k := fun hh => h hh.1
theorem not_heads_seen {m : Mp} {w h k : Nat} (g : GoodM m w h) (hs : Seen m (w * h) k k) : ¬ Heads m (w * h) k := by
  rintro ⟨_, hall⟩
  obtain ⟨c, hc, ho, hr⟩ := hs
  have := hall c (hr.sym g ho)
  omega
theorem heads_new {m : Mp} {w h k : Nat} (g : GoodM m w h) (ho : Opn m (w * h) k) (hs : ¬ Seen m (w * h) k k) : Heads m (w * h) k := by
  refine ⟨ho, fun x hx => ?_⟩
  by_cases hlt : x < k
  · exact absurd ⟨x, hlt, hx.opn g ho, hx.sym g ho⟩ hs
  · omega
/-- What has been seen is closed. -/
theorem seen_closed {m : Mp} {w h k x y : Nat} (g : GoodM m w h) (hs : Seen m (w * h) k x) (hy : Rch m x y) : Seen m (w * h) k y := by
  obtain ⟨c, hc, ho, hr⟩ := hs
  exact ⟨c, hc, ho, hr.trans hy⟩
theorem seen_opn {m : Mp} {w h k x : Nat} (g : GoodM m w h) (hs : Seen m (w * h) k x) : Opn m (w * h) x := by
  obtain ⟨c, hc, ho, hr⟩ := hs
  exact hr.opn g ho

/-- The search from a cell: what it has found, up to the place where it looks. -/
structure Bfs (m : Mp) (n k : Nat) (p : List Nat) (d : Nat) : Prop where
  nodup : p.Nodup
  head : k ∈ p
  rch : ∀ x ∈ p, Rch m k x
  unseen : ∀ x ∈ p, ¬ Seen m n k x
  done : ∀ j, j < d → j < p.length → ∀ y ∈ nx m (p.getD j 0), Seen m n k y ∨ y ∈ p

theorem Bfs.start {m : Mp} {n k : Nat} (hs : ¬ Seen m n k k) : Bfs m n k [k] 0 :=
  ⟨by simp, by simp, fun x hx => by simp at hx; subst hx; exact .here, fun x hx => by simp at hx; subst hx; exact hs, fun j hj => by omega⟩

/-- The search is at its end: all cells of the part are found. -/
theorem Bfs.full {m : Mp} {w h k : Nat} (g : GoodM m w h) (ho : Opn m (w * h) k) {p : List Nat} {d : Nat} (b : Bfs m (w * h) k p d) (hd : p.length ≤ d) :
    ∀ x, x ∈ p ↔ Rch m k x := by
  intro x
  refine ⟨b.rch x, fun hr => ?_⟩
  induction hr with
  | here => exact b.head
  | next hr' hy ih =>
    rename_i x y
    obtain ⟨j, hj, e⟩ := List.mem_iff_getElem.1 ih
    have he : p.getD j 0 = x := by simp [hj, e]
    rcases b.done j (by omega) hj y (by rw [he]; exact hy) with hs | hm
    · have ho' := hr'.opn g ho
      have : Rch m y x := .next .here (nx_sym g ho'.1 ho'.2 hy)
      exact absurd (seen_closed g hs this) (b.unseen _ ih)
    · exact hm

theorem Bfs.length {m : Mp} {w h k : Nat} (g : GoodM m w h) (ho : Opn m (w * h) k) {p : List Nat} {d : Nat} (b : Bfs m (w * h) k p d) : p.length ≤ w * h :=
  len_le_of_lt p _ b.nodup fun x hx => ((b.rch x hx).opn g ho).1

/-- One look: the cells next to one that has been found, the first 'i' of which have been looked at. -/
structure Look (m : Mp) (n k : Nat) (p : List Nat) (d x i : Nat) : Prop where
  bfs : Bfs m n k p d
  at_ : p.getD d 0 = x
  lt : d < p.length
  looked : ∀ j, j < i → j < (nx m x).length → Seen m n k ((nx m x).getD j 0) ∨ (nx m x).getD j 0 ∈ p

theorem Look.start {m : Mp} {n k d : Nat} {p : List Nat} (b : Bfs m n k p d) (h : d < p.length) : Look m n k p d (p.getD d 0) 0 :=
  ⟨b, rfl, h, fun j hj => by omega⟩
theorem getD_mem {l : List Nat} {i : Nat} (h : i < l.length) : l.getD i 0 ∈ l := by simp [h]
theorem Look.skip {m : Mp} {n k d x i : Nat} {p : List Nat} (l : Look m n k p d x i) (h : Seen m n k ((nx m x).getD i 0) ∨ (nx m x).getD i 0 ∈ p) : Look m n k p d x (i + 1) :=
  ⟨l.bfs, l.at_, l.lt, fun j hj hl => by
    by_cases e : j = i
    · subst e; exact h
    · exact l.looked j (by omega) hl⟩
theorem Look.put {m : Mp} {n k d x i : Nat} {p : List Nat} (l : Look m n k p d x i) (hi : i < (nx m x).length) (h1 : ¬ Seen m n k ((nx m x).getD i 0)) (h2 : (nx m x).getD i 0 ∉ p) :
    Look m n k (p ++ [(nx m x).getD i 0]) d x (i + 1) := by
  have hx : x ∈ p := by rw [← l.at_]; exact getD_mem l.lt
  refine ⟨⟨?_, ?_, ?_, ?_, ?_⟩, ?_, ?_, ?_⟩
  · rw [List.nodup_append]
    exact ⟨l.bfs.nodup, by simp, fun a ha b hb => by intro e; exact h2 (by rw [← List.mem_singleton.1 hb, ← e]; exact ha)⟩
  · exact List.mem_append.2 (.inl l.bfs.head)
  · intro y hy
    rcases List.mem_append.1 hy with hy | hy
    · exact l.bfs.rch y hy
    · simp only [List.mem_singleton] at hy
      subst hy
      exact .next (l.bfs.rch x hx) (getD_mem hi)
  · intro y hy
    rcases List.mem_append.1 hy with hy | hy
    · exact l.bfs.unseen y hy
    · simp only [List.mem_singleton] at hy
      subst hy; exact h1
  · intro j hj hl y hy
    have hjp : j < p.length := by have := l.lt; omega
    have e : (p ++ [(nx m x).getD i 0]).getD j 0 = p.getD j 0 := by simp [List.getD, List.getElem?_append_left hjp]
    rw [e] at hy
    rcases l.bfs.done j hj hjp y hy with h | h
    · exact .inl h
    · exact .inr (List.mem_append.2 (.inl h))
  · have := l.lt
    rw [← l.at_]
    simp [List.getD, List.getElem?_append_left this]
  · have := l.lt
    simp; omega
  · intro j hj hl
    by_cases e : j = i
    · subst e; exact .inr (List.mem_append.2 (.inr (by simp)))
    · rcases l.looked j (by omega) hl with h | h
      · exact .inl h
      · exact .inr (List.mem_append.2 (.inl h))
theorem Look.full {m : Mp} {n k d x i : Nat} {p : List Nat} (l : Look m n k p d x i) (hi : (nx m x).length ≤ i) : Bfs m n k p (d + 1) :=
  ⟨l.bfs.nodup, l.bfs.head, l.bfs.rch, l.bfs.unseen, fun j hj hl y hy => by
    by_cases e : j = d
    · subst e
      rw [l.at_] at hy
      obtain ⟨q, hq, e⟩ := List.mem_iff_getElem.1 hy
      have := l.looked q (by omega) hq
      rwa [show (nx m x).getD q 0 = y by simp [hq, e]] at this
    · exact l.bfs.done j (by omega) hl y hy⟩

/-! The model's way: a list that grows until nothing is new. -/
structure Grow (m : Mp) (c : Nat) (p : List Nat) : Prop where
  sorted : p.Pairwise (· < ·)
  head : c ∈ p
  rch : ∀ x ∈ p, Rch m c x
theorem Grow.start (m : Mp) (c : Nat) : Grow m c [c] := ⟨by simp, by simp, fun x hx => by simp at hx; subst hx; exact .here⟩
theorem Grow.length {m : Mp} {w h c : Nat} (g : GoodM m w h) (ho : Opn m (w * h) c) {p : List Nat} (b : Grow m c p) : p.length ≤ w * h :=
  len_le_of_lt p _ (nodup_of_sorted b.sorted) fun x hx => ((b.rch x hx).opn g ho).1
theorem Grow.full {m : Mp} {w h c : Nat} (g : GoodM m w h) (ho : Opn m (w * h) c) {p : List Nat} (b : Grow m c p) (hc : ∀ i, i < w * h → i ∈ p → ∀ y ∈ nx m i, y ∈ p) : IsPart m c p := by
  refine ⟨b.sorted, fun x => ⟨b.rch x, fun hr => ?_⟩⟩
  induction hr with
  | here => exact b.head
  | next hr' hy ih => exact hc _ (hr'.opn g ho).1 ih _ hy

/-- A number put to its place. -/
def put (l : List Nat) (n : Nat) : List Nat := l.filter (· < n) ++ n :: l.filter (fun x => n < x)
theorem mem_put {l : List Nat} {n x : Nat} : x ∈ put l n ↔ x = n ∨ (x ∈ l ∧ x ≠ n) := by
  unfold put
  simp only [List.mem_append, List.mem_filter, List.mem_cons, decide_eq_true_eq]
  by_cases h : x ∈ l <;> simp only [h, true_and, false_and, false_or, or_false] <;> omega
theorem put_sorted {l : List Nat} {n : Nat} (h : l.Pairwise (· < ·)) : (put l n).Pairwise (· < ·) := by
  unfold put
  rw [List.pairwise_append]
  refine ⟨h.filter _, List.pairwise_cons.2 ⟨fun x hx => by simpa using (List.mem_filter.1 hx).2, h.filter _⟩, fun a ha b hb => ?_⟩
  have h1 : a < n := by simpa using (List.mem_filter.1 ha).2
  rcases List.mem_cons.1 hb with rfl | hb
  · exact h1
  · have : n < b := by simpa using (List.mem_filter.1 hb).2
    omega
theorem Grow.put {m : Mp} {c x y : Nat} {p : List Nat} (b : Grow m c p) (hx : x ∈ p) (hy : y ∈ nx m x) : Grow m c (put p y) :=
  ⟨put_sorted b.sorted, by rw [mem_put]; have := b.head; by_cases e : c = y <;> simp [e, this], fun z hz => by
    rcases mem_put.1 hz with rfl | hz
    · exact .next (b.rch x hx) hy
    · exact b.rch z hz.1⟩
theorem put_mem_old {l : List Nat} {n x : Nat} (h : x ∈ l) : x ∈ put l n := by
  rw [mem_put]
  by_cases e : x = n
  · exact .inl e
  · exact .inr ⟨h, e⟩
theorem put_length {l : List Nat} {n : Nat} (hs : l.Pairwise (· < ·)) (h : n ∉ l) : (put l n).length = l.length + 1 := by
  have h1 := len_eq_of_mem (put l n) (n :: l) (nodup_of_sorted (put_sorted hs)) (List.nodup_cons.2 ⟨h, nodup_of_sorted hs⟩) fun x => by
    rw [mem_put, List.mem_cons]
    constructor
    · rintro (h | h)
      · exact .inl h
      · exact .inr h.1
    · rintro (h' | h')
      · exact .inl h'
      · exact .inr ⟨h', fun e => h (e ▸ h')⟩
  simpa using h1
/-- The list parts where the number belongs. -/
theorem put_split {l : List Nat} {n k : Nat} (hs : l.Pairwise (· < ·)) (hk : k ≤ l.length) (h1 : ∀ i, i < k → l.getD i 0 < n) (h2 : k < l.length → n < l.getD k 0) :
    put l n = l.take k ++ n :: l.drop k := by
  have e : l = l.take k ++ l.drop k := (List.take_append_drop k l).symm
  have ht : ∀ x ∈ l.take k, x < n := by
    intro x hx
    obtain ⟨i, hi, rfl⟩ := List.mem_iff_getElem.1 hx
    have hi' : i < k := by simp at hi; omega
    have := h1 i hi'
    rw [List.getElem_take]
    simpa [show i < l.length by omega] using this
  have hd : ∀ x ∈ l.drop k, n < x := by
    intro x hx
    obtain ⟨i, hi, rfl⟩ := List.mem_iff_getElem.1 hx
    simp only [List.length_drop] at hi
    have h3 := h2 (by omega)
    rw [List.getElem_drop]
    by_cases h0 : i = 0
    · subst h0
      simpa [show k < l.length by omega] using h3
    · have := (List.pairwise_iff_getElem.1 hs) k (k + i) (by omega) (by omega) (by omega)
      have h4 : n < l[k]'(by omega) := by simpa [show k < l.length by omega] using h3
      omega
  unfold Lb.put
  conv => lhs; rw [e]
  rw [List.filter_append, List.filter_append]
  rw [List.filter_eq_self.2 (fun x hx => by simpa using ht x hx), List.filter_eq_nil_iff.2 (fun x hx => by have := hd x hx; simp; omega),
    List.filter_eq_nil_iff.2 (fun x hx => by have := ht x hx; simp; omega), List.filter_eq_self.2 (fun x hx => by simpa using hd x hx)]
  simp

/-- Whether the part begins at its cell. -/
theorem part_head {m : Mp} {n c : Nat} {p : List Nat} (ho : Opn m n c) (hp : IsPart m c p) : p.getD 0 0 = c ↔ Heads m n c := by
  have hc : c ∈ p := (hp.2 c).2 .here
  obtain ⟨a, q, rfl⟩ : ∃ a q, p = a :: q := by
    cases p with
    | nil => cases hc
    | cons a q => exact ⟨a, q, rfl⟩
  have hq := List.pairwise_cons.1 hp.1
  simp only [List.getD_cons_zero]
  constructor
  · rintro rfl
    refine ⟨ho, fun x hx => ?_⟩
    rcases List.mem_cons.1 ((hp.2 x).2 hx) with rfl | hm
    · exact Nat.le_refl _
    · exact Nat.le_of_lt (hq.1 x hm)
  · rintro ⟨_, hall⟩
    have h1 := hall a ((hp.2 a).1 (by simp))
    rcases List.mem_cons.1 hc with e | hm
    · exact e.symm
    · have := hq.1 c hm; omega

/-! All parts together. -/
theorem PartsTo.all {m : Mp} {w h k : Nat} (g : GoodM m w h) {ps : List (List Nat)} (hp : PartsTo m (w * h) k ps) : ps.flatten.Nodup ∧ ∀ x, x ∈ ps.flatten ↔ Seen m (w * h) k x := by
  induction hp with
  | zero => exact ⟨by simp, fun x => by simp [seen_zero]⟩
  | yes hp' hh hq ih =>
    rename_i k ps p
    refine ⟨?_, fun x => ?_⟩
    · rw [List.flatten_append, List.nodup_append]
      refine ⟨ih.1, by simpa using nodup_of_sorted hq.1, fun a ha b hb => ?_⟩
      intro e
      subst e
      have h1 := (ih.2 a).1 ha
      have h2 : a ∈ p := by simpa using hb
      obtain ⟨c, hc, ho, hr⟩ := h1
      have hka := (hq.2 a).1 h2
      have := hh.2 c (hka.trans (hr.sym g ho))
      omega
    · rw [List.flatten_append, List.mem_append, ih.2, seen_new hh.1]
      simp [hq.2]
  | no hp' hn ih =>
    rename_i k ps
    refine ⟨ih.1, fun x => ?_⟩
    rw [ih.2]
    by_cases ho : Opn m (w * h) k
    · by_cases hs : Seen m (w * h) k k
      · exact (seen_old hs).symm
      · exact absurd (heads_new g ho hs) hn
    · exact (seen_forb ho).symm

theorem PartsTo.count {m : Mp} {w h : Nat} (g : GoodM m w h) {ps : List (List Nat)} (hp : PartsTo m (w * h) (w * h) ps) :
    (ps.map List.length).sum = ((List.range (w * h)).filter (opn m)).length := by
  have ha := hp.all g
  rw [← List.length_flatten]
  refine len_eq_of_mem _ _ ha.1 (List.nodup_range.filter _) fun x => ?_
  rw [ha.2, List.mem_filter, List.mem_range]
  unfold opn
  simp only [decide_eq_true_eq]
  constructor
  · intro hs
    exact seen_opn g hs
  · intro ho
    exact ⟨x, ho.1, ho, .here⟩

end Go.Proofs.YtleoljnofdajfaaGreatDoor.Lb

namespace Go.Proofs.YtleoljnofdajfaaGreatDoor.Lb
set_option linter.unusedVariables false

/-- The numbers at the places that a function tells. -/
def gath (f : Nat → Nat) (n : Nat) (l : List Int) : List Int := (List.range n).map fun k => zAt l (f k)
theorem gath_length (f : Nat → Nat) (n : Nat) (l : List Int) : (gath f n l).length = n := by simp [gath]
theorem gath_at (f : Nat → Nat) (n : Nat) (l : List Int) (k : Nat) (h : k < n) : zAt (gath f n l) k = zAt l (f k) := by simp [gath, zAt, h]
theorem gath_take (f : Nat → Nat) (n : Nat) (l : List Int) (k : Nat) (h : k < n) : (gath f n l).take (k + 1) = (gath f n l).take k ++ [zAt l (f k)] := by
  rw [zAt_take _ k (by rw [gath_length]; exact h), gath_at f n l k h]
theorem gath_take_all (f : Nat → Nat) (n : Nat) (l : List Int) : (gath f n l).take n = gath f n l := by rw [List.take_of_length_le (by rw [gath_length]; exact Nat.le_refl n)]
theorem gath_take_length (f : Nat → Nat) (n : Nat) (l : List Int) (k : Nat) (h : k ≤ n) : ((gath f n l).take k).length = k := by simp [gath]; omega

/-- The place in the given map of a place in the turned one; in the mirrored one. -/
def fromT (w h k : Nat) : Nat := (h - 1 - k % h) * w + k / h
def fromM (w k : Nat) : Nat := (k / w) * w + (w - 1 - k % w)
/-- The place in the turned map of a place in the given one. -/
def toT (w h c : Nat) : Nat := (c % w) * h + (h - 1 - c / w)

theorem fromT_at {w h x y : Nat} (hx : x < w) (hy : y < h) : fromT w h (x * h + (h - 1 - y)) = y * w + x := by
  have h1 : h - 1 - y < h := by omega
  unfold fromT
  rw [mod_mk h1, div_mk h1]
  congr 2
  omega
theorem toT_lt {w h c : Nat} (hw : 1 ≤ w) (hc : c < w * h) : toT w h c < w * h := by
  have hy := div_lt_of hw hc
  have hx : c % w < w := Nat.mod_lt _ hw
  unfold toT
  have hq : h - 1 - c / w < h := by
    generalize c / w = q at hy ⊢
    omega
  have := lt_mk (w := h) (h := w) (x := h - 1 - c / w) (y := c % w) hq hx
  rwa [Nat.mul_comm h w] at this
theorem from_to {w h c : Nat} (hw : 1 ≤ w) (hc : c < w * h) : fromT w h (toT w h c) = c := by
  unfold toT
  rw [fromT_at (Nat.mod_lt _ hw) (div_lt_of hw hc), Nat.mul_comm]
  exact (cell_split w c).symm
theorem to_from {w h k : Nat} (hh : 1 ≤ h) (hk : k < w * h) : fromT w h k < w * h ∧ toT w h (fromT w h k) = k := by
  have hx : k / h < w := Nat.div_lt_of_lt_mul (by rwa [Nat.mul_comm])
  have hy : k % h < h := Nat.mod_lt _ hh
  have e : k = (k / h) * h + (h - 1 - (h - 1 - k % h)) := by
    have := cell_split h k
    rw [Nat.mul_comm] at this
    omega
  have h1 : fromT w h k = (h - 1 - k % h) * w + k / h := rfl
  constructor
  · rw [h1]; exact lt_mk hx (by omega)
  · rw [h1]
    unfold toT
    rw [mod_mk hx, div_mk hx]
    omega
theorem fromM_at {w x y : Nat} (hx : x < w) : fromM w (y * w + (w - 1 - x)) = y * w + x := by
  have h1 : w - 1 - x < w := by omega
  unfold fromM
  rw [mod_mk h1, div_mk h1]
  omega
theorem fromM_lt {w h k : Nat} (hw : 1 ≤ w) (hk : k < w * h) : fromM w k < w * h := by
  unfold fromM
  exact lt_mk (by omega) (div_lt_of hw hk)

/-- The turned map; the mirrored one. -/
def turnM (m : Mp) : Mp := ⟨m.H, m.W, gath (fromT m.W.toNat m.H.toNat) (m.W.toNat * m.H.toNat) m.R, gath (fromT m.W.toNat m.H.toNat) (m.W.toNat * m.H.toNat) m.C⟩
def mirM (m : Mp) : Mp := ⟨m.W, m.H, gath (fromM m.W.toNat) (m.W.toNat * m.H.toNat) m.R, gath (fromM m.W.toNat) (m.W.toNat * m.H.toNat) m.C⟩

/-- What is there when the places up to 'c' have been written. -/
def part (f : Nat → Nat) (n : Nat) (l : List Int) (c : Nat) : List Int := (List.range n).map fun j => if f j < c then zAt l (f j) else 0
theorem part_length (f : Nat → Nat) (n : Nat) (l : List Int) (c : Nat) : (part f n l c).length = n := by simp [part]
theorem part_zero (f : Nat → Nat) (n : Nat) (l : List Int) : part f n l 0 = List.replicate n 0 := by
  apply List.ext_getElem
  · simp [part]
  · intro i h1 h2; simp [part]
theorem part_all (f : Nat → Nat) (n : Nat) (l : List Int) (hf : ∀ j, j < n → f j < n) : part f n l n = gath f n l := by
  apply List.ext_getElem
  · simp [part, gath]
  · intro i h1 h2
    have : i < n := by simpa [part] using h1
    simp [part, gath, hf i this]
theorem part_set (f : Nat → Nat) (n : Nat) (l : List Int) (c t : Nat) (ht : t < n) (h1 : f t = c) (h2 : ∀ j, j < n → f j = c → j = t) : (part f n l c).set t (zAt l c) = part f n l (c + 1) := by
  apply List.ext_getElem
  · simp [part]
  · intro i hi1 hi2
    have hi : i < n := by simpa [part] using hi2
    rw [List.getElem_set]
    by_cases e : t = i
    · subst e
      simp [part, h1]
    · have hne : f i ≠ c := fun e2 => e (h2 i hi e2).symm
      simp only [e, if_false]
      simp only [part, List.getElem_map, List.getElem_range]
      by_cases hlt : f i < c
      · rw [if_pos hlt, if_pos (by omega)]
      · rw [if_neg hlt, if_neg (by omega)]

/-- What is there when 'r' rows have been turned round. -/
def rows (w n : Nat) (l : List Int) (r : Nat) : List Int := (List.range n).map fun j => if j / w < r then zAt l (fromM w j) else zAt l j
theorem rows_length (w n : Nat) (l : List Int) (r : Nat) : (rows w n l r).length = n := by simp [rows]
theorem rows_zero (w n : Nat) (l : List Int) (h : l.length = n) : rows w n l 0 = l := by
  apply List.ext_getElem
  · simp [rows, h]
  · intro i h1 h2; simp [rows, zAt, h2]
theorem rows_all (w h : Nat) (hw : 1 ≤ w) (l : List Int) : rows w (w * h) l h = gath (fromM w) (w * h) l := by
  apply List.ext_getElem
  · simp [rows, gath]
  · intro i h1 h2
    have : i < w * h := by simpa [rows] using h1
    simp [rows, gath, div_lt_of hw this]
theorem turn_ok {m : Mp} {w h : Nat} (g : GoodM m w h) : GoodM (turnM m) h w ∧ turnM m = ⟨h, w, gath (fromT w h) (w * h) m.R, gath (fromT w h) (w * h) m.C⟩ := by
  have e1 : m.W.toNat = w := by rw [g.W]; rfl
  have e2 : m.H.toNat = h := by rw [g.H]; rfl
  have e3 : turnM m = ⟨h, w, gath (fromT w h) (w * h) m.R, gath (fromT w h) (w * h) m.C⟩ := by unfold turnM; rw [e1, e2, g.W, g.H]
  refine ⟨?_, e3⟩
  rw [e3]
  have n36 := g.n36
  have n1 := g.n1
  have hc : h * w = w * h := Nat.mul_comm h w
  refine ⟨rfl, rfl, g.h1, g.h6, g.w1, g.w6, by rw [gath_length, hc], by rw [gath_length, hc], by omega, by omega, fun i hi => ?_⟩
  have hi' : i < w * h := by omega
  unfold CellOk
  simp only
  rw [gath_at _ _ _ _ hi', gath_at _ _ _ _ hi']
  exact g.cell _ (to_from g.h1 hi').1
theorem mir_ok {m : Mp} {w h : Nat} (g : GoodM m w h) : GoodM (mirM m) w h ∧ mirM m = ⟨w, h, gath (fromM w) (w * h) m.R, gath (fromM w) (w * h) m.C⟩ := by
  have e1 : m.W.toNat = w := by rw [g.W]; rfl
  have e2 : m.H.toNat = h := by rw [g.H]; rfl
  have e3 : mirM m = ⟨w, h, gath (fromM w) (w * h) m.R, gath (fromM w) (w * h) m.C⟩ := by unfold mirM; rw [e1, e2, g.W, g.H]
  refine ⟨?_, e3⟩
  rw [e3]
  refine ⟨rfl, rfl, g.w1, g.w6, g.h1, g.h6, by rw [gath_length], by rw [gath_length], g.n1, g.n36, fun i hi => ?_⟩
  unfold CellOk
  simp only
  rw [gath_at _ _ _ _ hi, gath_at _ _ _ _ hi]
  exact g.cell _ (fromM_lt g.w1 hi)

end Go.Proofs.YtleoljnofdajfaaGreatDoor.Lb

namespace Go.Proofs.YtleoljnofdajfaaGreatDoor.SpecB
open Go.RowKit Lb IntS MapS MapV
set_option linter.unusedSimpArgs false
set_option linter.unusedVariables false

theorem mp_eq {m : Mp} {ww hh : Nat} (g : GoodM m ww hh) : m = ⟨ww, hh, m.R, m.C⟩ := by
  have h1 := g.W
  have h2 := g.H
  cases m
  simp only at h1 h2
  subst h1 h2
  rfl
theorem below_drewN {B : Nat} {a w : World} (h : Below B a w) (n : Nat) : Below B a (w.drewN n) := ⟨h.os, h.tape, h.output, h.size, h.block⟩
/-- A row stands beside a store into a block of another kind. -/
theorem own_far {w : World} {base : Nat} {e t : TypeId} {v : Value} {n g i : Nat} {xs : List Value} {cs : Array Value} (h : w.ownsRow base e 1 v n xs) (hb : Blk w g t cs) (hne : e ≠ t) (u : Value) : (w.setCell ⟨g, i, none⟩ u).ownsRow base e 1 v n xs := by
  refine ⟨h.1, ?_⟩
  rcases h.2 with h2 | ⟨g', cap, cur, hv, hg, hh, r⟩
  · exact .inl h2
  · refine .inr ⟨g', cap, cur, hv, hg, ?_, r⟩
    refine (Below.heap_setCell w _ u g' ?_).trans hh
    rintro rfl
    have h3 := hb
    unfold Blk at h3
    rw [hh] at h3
    injection h3 with h3
    injection h3 with _ h4
    exact hne h4
theorem own_ne {w : World} {base : Nat} {e t : TypeId} {v : Value} {n g : Nat} {xs : List Value} {cs : Array Value} (h : w.ownsRow base e 1 v n xs) (hb : Blk w g t cs) (hne : e ≠ t) : v.ownBlock ≠ some g := by
  rcases h.2 with ⟨rfl, _⟩ | ⟨g', cap, cur, rfl, hg, hh, r⟩
  · simp [Value.ownBlock]
  · intro e2
    obtain rfl : g' = g := by simpa [Value.ownBlock] using e2
    have h3 := hb
    unfold Blk at h3
    rw [hh] at h3
    injection h3 with h3
    injection h3 with _ h4
    exact hne h4
theorem own_grown {w w' : World} {base : Nat} {e : TypeId} {v : Value} {n : Nat} {xs : List Value} {r : Option Nat} (h : w.ownsRow base e 1 v n xs) (hg : w.grownBy w' r) (hr : ∀ p q, v.ownBlock = some p → r = some q → p ≠ q) : w'.ownsRow base e 1 v n xs := by
  refine h.kept hg ?_
  cases hv : v.ownBlock with
  | none => exact .inl rfl
  | some p => exact .inr (fun e => hr p p hv e.symm rfl)
theorem blk_grown {w w' : World} {g : Nat} {t : TypeId} {cs : Array Value} {r : Option Nat} (h : Blk w g t cs) (hg : w.grownBy w' r) (hr : r ≠ some g) : Blk w' g t cs := (hg.block g h.lt (fun e => hr e.symm)).trans h

/-- A map and whether there is one. -/
def MPost (w : World) (m : Mp) (ok : Bool) (e : Ending) (w' : World) : Prop := ∃ v, e = .returned (.tuple #[v, .bool ok]) ∧ OwnM w' w.heap.size v m ∧ Below w.heap.size w w'


end Go.Proofs.YtleoljnofdajfaaGreatDoor.SpecB

namespace Go.Proofs.YtleoljnofdajfaaGreatDoor.TblS
open Go.RowKit Lb IntS MapS SpecB
set_option linter.unusedSimpArgs false
set_option linter.unusedVariables false

theorem rInfo : (Tryz.prog.info? 40).map (fun i => (i.zero, i.size, i.bytes)) = some (some (.slice none 0 0), 1, 24) := by kernel_rfl

/-- 'n' lists of numbers that can be read. -/
def Rd (w : World) (a : Option Addr) (n : Nat) (zs : Nat → List Int) : Prop :=
  ∃ rs : Nat → Value, RowAt w a n rs ∧ ∀ i, i < n → ∃ ai ci, rs i = .slice ai (zs i).length ci ∧ IRow w ai (zs i)
theorem Rd.below {w w' : World} {a : Option Addr} {n : Nat} {zs : Nat → List Int} (h : Rd w a n zs) (hb : Below w.heap.size w w') : Rd w' a n zs := by
  obtain ⟨rs, h1, h2⟩ := h
  refine ⟨rs, RowAt.below h1 hb, fun i hi => ?_⟩
  obtain ⟨ai, ci, e, h3⟩ := h2 i hi
  exact ⟨ai, ci, e, RowAt.below h3 hb⟩
theorem Rd.belowB {B : Nat} {w w' : World} {a : Option Addr} {n : Nat} {zs : Nat → List Int} (h : Rd w a n zs) (hb : Below B w w') (hB : w.heap.size ≤ B) : Rd w' a n zs := h.below (hb.mono hB)

/-- Lists of the call's own: a row of rows, all in blocks of their own. -/
structure OwnP (w : World) (base : Nat) (v : Value) (n : Nat) (zs : Nat → List Int) (rs : Nat → Value) : Prop where
  tbl : w.ownsRow base 40 1 v n ((List.range n).map rs)
  row : ∀ i, i < n → OwnI w base (rs i) (zs i)
  ne : ∀ i j, i < j → j < n → ∀ x, (rs i).ownBlock = some x → (rs j).ownBlock ≠ some x
theorem OwnP.below {w w' : World} {base n : Nat} {v : Value} {zs : Nat → List Int} {rs : Nat → Value} (h : OwnP w base v n zs rs) (hb : Below w.heap.size w w') : OwnP w' base v n zs rs :=
  ⟨owns_below h.tbl hb, fun i hi => owns_below (h.row i hi) hb, h.ne⟩
theorem OwnP.rebase {w : World} {b b' n : Nat} {v : Value} {zs : Nat → List Int} {rs : Nat → Value} (h : OwnP w b v n zs rs) (hb : b' ≤ b) : OwnP w b' v n zs rs :=
  ⟨IntS.rebase h.tbl hb, fun i hi => IntS.rebase (h.row i hi) hb, h.ne⟩
theorem OwnP.rd {w : World} {base n cap : Nat} {a : Option Addr} {zs : Nat → List Int} {rs : Nat → Value} (h : OwnP w base (.slice a n cap) n zs rs) : Rd w a n zs := by
  refine ⟨rs, ?_, fun i hi => ?_⟩
  · rcases h.tbl.2 with ⟨_, h0⟩ | ⟨g, c, cur, hv, _⟩
    · exact .inl h0
    · obtain rfl : a = some ⟨g, 0, none⟩ := by simpa using (Value.slice.inj hv).1
      exact (RowAt.of_owns h.tbl).congr fun k hk => by simp [hk]
  · obtain ⟨ai, ci, e, hr, _⟩ := OwnI.slice (h.row i hi)
    exact ⟨ai, ci, e, hr⟩
theorem OwnP.slice {w : World} {base n : Nat} {v : Value} {zs : Nat → List Int} {rs : Nat → Value} (h : OwnP w base v n zs rs) : ∃ a cap, v = .slice a n cap := by
  rcases h.tbl.2 with ⟨rfl, h0⟩ | ⟨g, cap, cur, rfl, _⟩
  · exact ⟨none, 0, by rw [h0]⟩
  · exact ⟨_, cap, rfl⟩
/-- Two rows of different kinds lie apart. -/
theorem own_own_ne {w : World} {b b' : Nat} {e e' : TypeId} {v v' : Value} {n n' : Nat} {xs xs' : List Value} (h : w.ownsRow b e 1 v n xs) (h' : w.ownsRow b' e' 1 v' n' xs') (hne : e ≠ e') : ∀ x y, v.ownBlock = some x → v'.ownBlock = some y → x ≠ y := by
  rintro x y hx hy rfl
  rcases h.2 with ⟨rfl, _⟩ | ⟨g, cap, cur, rfl, hg, hh, _⟩
  · simp [Value.ownBlock] at hx
  · rcases h'.2 with ⟨rfl, _⟩ | ⟨g', cap', cur', rfl, hg', hh', _⟩
    · simp [Value.ownBlock] at hy
    · obtain rfl : g = x := by simpa [Value.ownBlock] using hx
      obtain rfl : g' = g := by simpa [Value.ownBlock] using hy
      rw [hh] at hh'
      injection hh' with h3
      injection h3 with _ h4
      exact hne h4
theorem own_lt {w : World} {b : Nat} {e : TypeId} {v : Value} {n : Nat} {xs : List Value} (h : w.ownsRow b e 1 v n xs) : ∀ x, v.ownBlock = some x → b ≤ x ∧ x < w.heap.size := h.lt
/-- The sum of the lengths ahead of a list. -/
def tot (zs : Nat → List Int) : Nat → Nat
  | 0 => 0
  | n + 1 => tot zs n + (zs n).length
theorem tot_le {zs : Nat → List Int} {c n : Nat} (h : ∀ i, i < n → (zs i).length ≤ c) : tot zs n ≤ c * n := by
  induction n with
  | zero => simp [tot]
  | succ n ih =>
    have h1 := ih fun i hi => h i (by omega)
    have h2 := h n (by omega)
    rw [tot, Nat.mul_succ]
    omega
theorem tot_mono {zs : Nat → List Int} {i n : Nat} (h : i ≤ n) : tot zs i ≤ tot zs n := by
  induction n with
  | zero => simp [show i = 0 by omega]
  | succ n ih =>
    by_cases e : i = n + 1
    · subst e; exact Nat.le_refl _
    · have := ih (by omega)
      rw [tot]; omega
/-- What stands in the lists when the first 'i' are marked. -/
def mk (k : Int) (zs : Nat → List Int) (i : Nat) : Nat → List Int := fun j => if j < i then markZ (k + tot zs j) (zs j).length else zs j
theorem mk_zero (k : Int) (zs : Nat → List Int) : mk k zs 0 = zs := by funext j; simp [mk]
theorem mk_length (k : Int) (zs : Nat → List Int) (i j : Nat) : (mk k zs i j).length = (zs j).length := by
  unfold mk; split <;> simp [markZ_length]
theorem mk_succ_ne (k : Int) (zs : Nat → List Int) {i j : Nat} (h : j ≠ i) : mk k zs (i + 1) j = mk k zs i j := by
  unfold mk
  by_cases e : j < i
  · rw [if_pos e, if_pos (by omega)]
  · rw [if_neg e, if_neg (by omega)]
theorem mk_succ_at (k : Int) (zs : Nat → List Int) (i : Nat) : mk k zs (i + 1) i = markZ (k + tot zs i) (zs i).length := by
  unfold mk; rw [if_pos (by omega)]
theorem mk_at (k : Int) (zs : Nat → List Int) (i : Nat) : mk k zs i i = zs i := by unfold mk; rw [if_neg (by omega)]

/-- One list of the table has been written. -/
theorem OwnP.set_ {w w' : World} {base n : Nat} {v : Value} {zs : Nat → List Int} {rs : Nat → Value} (h : OwnP w base v n zs rs) {i : Nat} (hi : i < n) {zs' : Nat → List Int} (hz : ∀ j, j ≠ i → zs' j = zs j) (ho : OwnI w' base (rs i) (zs' i)) (hg : w.grownBy w' (rs i).ownBlock) : OwnP w' base v n zs' rs := by
  refine ⟨own_grown h.tbl hg (own_own_ne h.tbl (h.row i hi) (by decide)), fun j hj => ?_, h.ne⟩
  by_cases e : j = i
  · subst e; exact ho
  · rw [hz j e]
    refine own_grown (h.row j hj) hg (fun x y hx hy => ?_)
    rcases Nat.lt_or_gt_of_ne e with hlt | hgt
    · rintro rfl; exact h.ne j i hlt hi x hx hy
    · rintro rfl; exact h.ne i j hgt hj x hy hx

end Go.Proofs.YtleoljnofdajfaaGreatDoor.TblS

namespace Go.Proofs.YtleoljnofdajfaaGreatDoor.StrK
open Go.RowKit Lb Mrk Bk
set_option linter.unusedVariables false

def Row (w : World) (a : Option Addr) (rs : List ByteArray) : Prop := StrRow w a rs
def Own (w : World) (base : Nat) (v : Value) (rs : List ByteArray) : Prop := w.ownsRow base 9 1 v rs.length (rs.map Value.string)
theorem Row.later {w w' : World} {a : Option Addr} {rs : List ByteArray} (H : Row w a rs) (hb : Below w.heap.size w w') : Row w' a rs := RowAt.below H hb
theorem Row.drew {w : World} {a : Option Addr} {rs : List ByteArray} (H : Row w a rs) : Row w.drew a rs := H
theorem Row.beside {w w' : World} {a : Option Addr} {rs : List ByteArray} (H : Row w a rs) {r : Option Nat} (hg : w.grownBy w' r) (hr : ∀ x, a = some x → r ≠ some x.block) : Row w' a rs := by
  rcases H with h | ⟨b, o, rfl, hc⟩
  · exact .inl h
  · exact RowAt.grown (.inr ⟨b, o, rfl, hc⟩) hg (hr _ rfl)
theorem Own.slice {w : World} {base : Nat} {v : Value} {rs : List ByteArray} (h : Own w base v rs) :
    ∃ a cap, v = .slice a rs.length cap ∧ Row w a rs ∧ ∀ x, a = some x → base ≤ x.block ∧ x.block < w.heap.size := by
  have h' := h
  unfold Own at h
  rcases h.2 with ⟨rfl, h0⟩ | ⟨g, cap, cur, rfl, hb, _⟩
  · exact ⟨none, 0, by rw [h0], .inl h0, fun x e => by cases e⟩
  · refine ⟨some ⟨g, 0, none⟩, cap, rfl, (RowAt.of_owns h).congr fun k hk => ?_, fun x e => ?_⟩
    · simp [sAt, hk]
    · cases e; exact h.lt g rfl
theorem Own.row {w : World} {base cap : Nat} {a : Option Addr} {rs : List ByteArray} (h : Own w base (.slice a rs.length cap) rs) : Row w a rs := by
  obtain ⟨a', c', e, hr, _⟩ := h.slice
  cases e; exact hr
theorem Own.le {w : World} {base n cap : Nat} {a : Option Addr} {rs : List ByteArray} (h : Own w base (.slice a n cap) rs) : rs.length ≤ cap := by
  unfold Own at h
  rcases h.2 with ⟨h1, h0⟩ | ⟨g', c', cur, hv, _, _, h3, _⟩
  · omega
  · obtain ⟨-, -, rfl⟩ := Value.slice.inj hv
    omega
theorem Own.below {w w' : World} {base : Nat} {v : Value} {rs : List ByteArray} (h : Own w base v rs) (hb : Below w.heap.size w w') : Own w' base v rs := Bk.owns_below h hb
theorem Own.drew {w : World} {base : Nat} {v : Value} {rs : List ByteArray} (h : Own w base v rs) : Own w.drew base v rs := h.below (Below.refl _ _).drew
def mkL (k n : Nat) : List ByteArray := (List.range n).map fun j => markOf (k + j)
theorem mkL_len (k n : Nat) : (mkL k n).length = n := by simp [mkL]
end Go.Proofs.YtleoljnofdajfaaGreatDoor.StrK

namespace Go.Proofs.YtleoljnofdajfaaGreatDoor.SamH
open Go.RowKit Lb Bk
set_option linter.unusedSimpArgs false
set_option linter.unusedVariables false

set_option maxHeartbeats 1000000 in
theorem ints_same (a b : Option Addr) (cap cap' n : Nat) (zs : List Int) (w : World) (hn : zs.length = n) (hr : IntRow w a zs) (hr' : IntRow w b zs) (hl : n ≤ 1048576) :
    Calls Tryz.prog 17 #[.slice a n cap, .slice b n cap'] w fun e w' => e = .returned (.bool true) ∧ Below w.heap.size w w' := by
  go_enter Tryz.func17, Tryz.ntmps17
  go_wp2
  go_loopw [5] (fun i wr => ∃ k : Nat, k ≤ n ∧ i = .int .i64 k ∧ Still w wr) (fun i _ => n - (intOf i).toNat)
  case atStart => exact ⟨0, Nat.zero_le _, rfl, Still.refl _⟩
  case round =>
    obtain ⟨k, hk, rfl, hst⟩ := hrel
    obtain ⟨q, rfl⟩ := hst
    by_cases hlt : k < n
    · rcases hr with hr | ⟨b1, off1, rfl, hc1⟩
      · omega
      rcases hr' with hr' | ⟨b2, off2, rfl, hc2⟩
      · omega
      obtain ⟨z, hz⟩ : ∃ z : Int, zs.getD k 0 = z := ⟨_, rfl⟩
      have g1 : w.cell? ⟨b1, off1 + k, none⟩ = some (.int .i64 z) := by rw [← hz]; exact hc1 k (by omega)
      have g2 : w.cell? ⟨b2, off2 + k, none⟩ = some (.int .i64 z) := by rw [← hz]; exact hc2 k (by omega)
      clear hc1 hc2 hz
      go_wp2
      go_quiet (fail)
      go_wp2
      go_roundw
      case rel => exact ⟨k + 1, by omega, by go_num, ⟨_, rfl⟩⟩
      case measure => simp [intOf]; omega
    · go_wp2
      go_ret
      exact ⟨rfl, Still.below ⟨_, rfl⟩ _⟩

theorem int_row {w : World} {base : Nat} {v : Value} {zs : List Int} (h : IntK.Own w base v zs) : ∃ a cap, v = .slice a zs.length cap ∧ IntRow w a zs := by
  have h' : w.ownsRow base 3 1 v zs.length (zs.map (Value.int .i64)) := h
  rcases h'.2 with ⟨rfl, h0⟩ | ⟨g, cap, cur, rfl, hb, _⟩
  · exact ⟨none, 0, by rw [h0], .inl h0⟩
  · refine ⟨some ⟨g, 0, none⟩, cap, rfl, .inr ⟨g, 0, rfl, fun k hk => ?_⟩⟩
    rw [Nat.zero_add, World.ownsRow.cellAt h' k (by omega)]
    simp [hk]
theorem IntRow.later {w w' : World} {a : Option Addr} {zs : List Int} (h : IntRow w a zs) (hb : Below w.heap.size w w') : IntRow w' a zs := RowAt.below h hb
end Go.Proofs.YtleoljnofdajfaaGreatDoor.SamH

namespace Go.Proofs.YtleoljnofdajfaaGreatDoor.RHas
open Go.RowKit Lb IntS
set_option linter.unusedSimpArgs false
set_option linter.unusedVariables false

set_option maxHeartbeats 1000000 in
theorem rhas_any (a : Option Addr) (cap n : Nat) (zs : List Int) (x : Int) (t : Bool) (w : World) (hn : zs.length = n) (ht : decide (x ∈ zs) = t) (hr : IRow w a zs) (hl : n ≤ 1048576) :
    Calls Tryz.prog 18 #[.slice a n cap, .int .i64 x] w fun e w' => e = .returned (.bool t) ∧ w' = w := by
  have HT := Lib.hid ht
  clear ht
  go_enter Tryz.func18, Tryz.ntmps18
  go_wp2
  go_loop [5] (fun i => ∃ k : Nat, k ≤ n ∧ i = .int .i64 k ∧ ∀ j, j < k → zAt zs j ≠ x) (fun i => n - (intOf i).toNat)
  case atStart => exact ⟨0, Nat.zero_le _, rfl, fun j h => by omega⟩
  case round =>
    obtain ⟨k, hk, rfl, hno⟩ := hrel
    by_cases hlt : k < n
    · rcases hr with h0 | ⟨b, off, rfl, hc⟩
      · omega
      have g := hc k (by omega)
      clear hc
      by_cases he : zAt zs k = x
      · have hb : (zAt zs k == x) = true := by simpa using he
        have HH := Lib.hid (show t = true from by
          rw [← HT.out, decide_eq_true_iff, ← he]
          have : k < zs.length := by omega
          simp [zAt, this])
        clear hno he
        go_wp2
        go_ret
        exact ⟨ret_bool HH.out.symm, rfl⟩
      · have hb : (zAt zs k == x) = false := by simpa using he
        have HN := Lib.hid (all_succ (p := fun j => zAt zs j ≠ x) hno he)
        clear hno he
        go_wp2
        go_round
        case rel => exact ⟨k + 1, by omega, by go_num, HN.out⟩
        case measure => simp [intOf]; omega
    · have HH := Lib.hid (show t = false from by
        rw [← HT.out, decide_eq_false_iff_not]
        intro h
        obtain ⟨j, hj, e⟩ := List.mem_iff_getElem.1 h
        exact hno j (by omega) (by simp [zAt, hj, e]))
      clear hno
      go_wp2
      go_ret
      exact ⟨ret_bool HH.out.symm, rfl⟩
end Go.Proofs.YtleoljnofdajfaaGreatDoor.RHas

namespace Go.Proofs.YtleoljnofdajfaaGreatDoor.TabH
open Go.RowKit Lb Bk IntS TblS
set_option linter.unusedSimpArgs false
set_option linter.unusedVariables false

theorem int_row {w : World} {a : Option Addr} {zs : List Int} (h : IRow w a zs) : IntRow w a zs := by
  rcases h with h | ⟨b, off, e, hc⟩
  · exact .inl h
  · exact .inr ⟨b, off, e, hc⟩
end Go.Proofs.YtleoljnofdajfaaGreatDoor.TabH
