/- Lists of lists of numbers: what they are in memory, and the laws' own helpers over them. -/
import Derived.Test.YtleoljnofdajfaaProg
import Derived.Test.YtleoljnofdajfaaIntE
import Derived.WalkLawsBesides
import Derived.WalkSpells
import Derived.Deep.RegionWith
import Derived.Test.YtleoljnofdajfaaPartM
import Derived.Deep.CutRange
import Derived.Deep.DeepCutAuto
import Derived.Deep.LoopGhost
import Derived.Deep.RegionLaw
import Derived.Deep.AppendLies
import Derived.IntWalk
namespace Go.Proofs.Ytleoljnofdajfaa.IntS
open Go.RowKit Lb
set_option linter.unusedSimpArgs false
set_option linter.unusedVariables false

/-- The first 'k' numbers are there, behind them zeros. -/
def upTo (zs : List Int) (k : Nat) : List Value := (zs.take k).map (Value.int .i64) ++ List.replicate (zs.length - k) (.int .i64 0)
theorem upTo_zero (zs : List Int) : upTo zs 0 = List.replicate zs.length (.int .i64 0) := by simp [upTo]
theorem upTo_all (zs : List Int) : upTo zs zs.length = zs.map (Value.int .i64) := by simp [upTo]
theorem upTo_length (zs : List Int) (k : Nat) (h : k ≤ zs.length) : (upTo zs k).length = zs.length := by simp [upTo]; omega
theorem upTo_at (zs : List Int) (k : Nat) (h : k < zs.length) : (upTo zs k)[k]? = some (.int .i64 0) := by
  unfold upTo
  have e : ((zs.take k).map (Value.int .i64)).length = k := by simp; omega
  rw [List.getElem?_append_right (by omega), e, Nat.sub_self, List.getElem?_replicate, if_pos (by omega)]
theorem upTo_set (zs : List Int) (k : Nat) (h : k < zs.length) : (upTo zs k).set k (.int .i64 (zAt zs k)) = upTo zs (k + 1) := by
  unfold upTo
  rw [List.set_append_right _ _ (by simp; omega), zAt_take zs k h]
  have e : zs.length - k = (zs.length - (k + 1)) + 1 := by omega
  rw [e, List.replicate_succ]
  simp [Nat.min_eq_left (Nat.le_of_lt h)]

end Go.Proofs.Ytleoljnofdajfaa.IntS

namespace Go.Proofs.Ytleoljnofdajfaa.MapS
open Go.RowKit Lb IntS
set_option linter.unusedSimpArgs false
set_option linter.unusedVariables false

/-- A map in memory of the call's own. -/
def OwnM (w : World) (base : Nat) (v : Value) (m : Mp) : Prop :=
  ∃ a ca b cb, v = .agg #[.int .i64 m.W, .int .i64 m.H, .slice a m.R.length ca, .slice b m.C.length cb] ∧ OwnI w base (.slice a m.R.length ca) m.R ∧ OwnI w base (.slice b m.C.length cb) m.C ∧ ∀ x y, a = some x → b = some y → x.block ≠ y.block

/-- A map that can be read. -/
def MapAt (w : World) (v : Value) (m : Mp) : Prop := ∃ a ca b cb, v = .agg #[.int .i64 m.W, .int .i64 m.H, .slice a m.R.length ca, .slice b m.C.length cb] ∧ IRow w a m.R ∧ IRow w b m.C

theorem OwnI.row {w : World} {base : Nat} {a : Option Addr} {cap : Nat} {zs : List Int} (h : OwnI w base (.slice a zs.length cap) zs) : IRow w a zs := by
  obtain ⟨a', c', e, hr, _⟩ := OwnI.slice h
  cases e; exact hr
theorem OwnI.lt {w : World} {base : Nat} {a : Option Addr} {cap n : Nat} {zs : List Int} (h : OwnI w base (.slice a n cap) zs) : ∀ x, a = some x → base ≤ x.block ∧ x.block < w.heap.size := by
  obtain ⟨a', c', e, _, hk⟩ := OwnI.slice h
  cases e; exact hk
theorem OwnM.at_ {w : World} {base : Nat} {v : Value} {m : Mp} (h : OwnM w base v m) : MapAt w v m := by
  obtain ⟨a, ca, b, cb, rfl, h1, h2, _⟩ := h
  exact ⟨a, ca, b, cb, rfl, OwnI.row h1, OwnI.row h2⟩
theorem OwnM.below {B : Nat} {w w' : World} {base : Nat} {v : Value} {m : Mp} (h : OwnM w base v m) (hb : Below B w w') (hB : w.heap.size ≤ B) : OwnM w' base v m := by
  obtain ⟨a, ca, b, cb, rfl, h1, h2, h3⟩ := h
  exact ⟨a, ca, b, cb, rfl, OwnI.belowB h1 hb hB, OwnI.belowB h2 hb hB, h3⟩
theorem MapAt.below {B : Nat} {w w' : World} {v : Value} {m : Mp} (h : MapAt w v m) (hb : Below B w w') (hB : w.heap.size ≤ B) : MapAt w' v m := by
  obtain ⟨a, ca, b, cb, rfl, h1, h2⟩ := h
  exact ⟨a, ca, b, cb, rfl, RowAt.belowB h1 hb hB, RowAt.belowB h2 hb hB⟩

theorem bcell {W w1 : World} (hb : Below W.heap.size W w1) : (∀ b o, b < W.heap.size → w1.cell? ⟨b, o, none⟩ = W.cell? ⟨b, o, none⟩) ∧ (∀ b o, b < W.heap.size → w1.frozen? ⟨b, o, none⟩ = W.frozen? ⟨b, o, none⟩) :=
  ⟨fun b o h => hb.cell (p := ⟨b, o, none⟩) h, fun b o h => hb.frozen (p := ⟨b, o, none⟩) h⟩

/-- A block known whole. -/
def Blk (w : World) (g : Nat) (t : TypeId) (cs : Array Value) : Prop := w.heap[g]? = some (.cells cs t (0, 0))
theorem Blk.lt {w : World} {g : Nat} {t : TypeId} {cs : Array Value} (h : Blk w g t cs) : g < w.heap.size := by
  rcases Nat.lt_or_ge g w.heap.size with hlt | hge
  · exact hlt
  · unfold Blk at h; rw [Array.getElem?_eq_none hge] at h; cases h
theorem Blk.new (w : World) (t : TypeId) (cs : Array Value) : Blk (w.alloc (.cells cs t)) w.heap.size t cs := heap_alloc_new w _
theorem Blk.alloc {w : World} {g : Nat} {t : TypeId} {cs : Array Value} (h : Blk w g t cs) (o : Obj) : Blk (w.alloc o) g t cs := (Below.heap_alloc w o g h.lt).trans h
theorem Blk.set_ {w : World} {g : Nat} {t : TypeId} {cs : Array Value} (h : Blk w g t cs) (i : Nat) (u : Value) : Blk (w.setCell ⟨g, i, none⟩ u) g t (cs.setIfInBounds i u) := by
  unfold Blk at h ⊢
  simp [World.setCell, Array.getElem?_modify, h]
theorem Blk.far {w : World} {g : Nat} {t : TypeId} {cs : Array Value} (h : Blk w g t cs) {p : Addr} (hp : g ≠ p.block) (u : Value) : Blk (w.setCell p u) g t cs := (Below.heap_setCell w p u g hp).trans h
theorem Blk.below {B : Nat} {w w' : World} {g : Nat} {t : TypeId} {cs : Array Value} (h : Blk w g t cs) (hb : Below B w w') (hg : g < B) : Blk w' g t cs := (hb.block g hg).trans h
theorem Blk.later {w w' : World} {g : Nat} {t : TypeId} {cs : Array Value} (h : Blk w g t cs) (hb : Below w.heap.size w w') : Blk w' g t cs := h.below hb h.lt
theorem Blk.four {w : World} {g : Nat} {t : TypeId} {x0 x1 x2 x3 : Value} (h : Blk w g t #[x0, x1, x2, x3]) :
    w.cell? ⟨g, 0, none⟩ = some x0 ∧ w.cell? ⟨g, 1, none⟩ = some x1 ∧ w.cell? ⟨g, 2, none⟩ = some x2 ∧ w.cell? ⟨g, 3, none⟩ = some x3 ∧ w.frozen? ⟨g, 0, none⟩ = false ∧ w.frozen? ⟨g, 1, none⟩ = false ∧ w.frozen? ⟨g, 2, none⟩ = false ∧ w.frozen? ⟨g, 3, none⟩ = false := by
  unfold Blk at h
  simp [World.cell?, World.frozen?, h]
theorem Blk.one {w : World} {g : Nat} {t : TypeId} {x : Value} (h : Blk w g t #[x]) : w.cell? ⟨g, 0, none⟩ = some x ∧ w.frozen? ⟨g, 0, none⟩ = false := by
  unfold Blk at h
  simp [World.cell?, World.frozen?, h]

/-- What has turned lies in blocks from 'lo' to 'hi', and in new ones. -/
structure Chg (lo hi : Nat) (w w' : World) : Prop where
  os : w'.os = w.os
  tape : w'.tape = w.tape
  output : w'.output = w.output
  size : w.heap.size ≤ w'.heap.size
  block : ∀ k, k < w.heap.size → (k < lo ∨ hi ≤ k) → w'.heap[k]? = w.heap[k]?
theorem Chg.refl (lo hi : Nat) (w : World) : Chg lo hi w w := ⟨rfl, rfl, rfl, Nat.le_refl _, fun _ _ _ => rfl⟩
theorem Chg.trans {lo hi : Nat} {a b c : World} (h : Chg lo hi a b) (k : Chg lo hi b c) : Chg lo hi a c :=
  ⟨k.os.trans h.os, k.tape.trans h.tape, k.output.trans h.output, Nat.le_trans h.size k.size, fun i hi hr => (k.block i (Nat.lt_of_lt_of_le hi h.size) hr).trans (h.block i hi hr)⟩
theorem Chg.of_below {a b : World} (h : Below a.heap.size a b) (lo hi : Nat) : Chg lo hi a b := ⟨h.os, h.tape, h.output, h.size, fun k hk _ => h.block k hk⟩
theorem Chg.of_grown {a b : World} {r : Option Nat} {lo hi : Nat} (h : a.grownBy b r) (hr : ∀ k, r = some k → lo ≤ k ∧ k < hi) : Chg lo hi a b :=
  ⟨h.os, h.tape, h.output, h.size, fun k hk hc => h.block k hk (fun e => by have := hr k e.symm; omega)⟩
theorem Chg.below {a b : World} {lo hi : Nat} (h : Chg lo hi a b) (hB : lo ≤ a.heap.size) : Below lo a b := ⟨h.os, h.tape, h.output, h.size, fun k hk => h.block k (by omega) (.inl hk)⟩
theorem Chg.row {a b : World} {lo hi : Nat} (h : Chg lo hi a b) {x : Option Addr} {n : Nat} {f : Nat → Value} (hr : RowAt a x n f) (hx : ∀ p, x = some p → p.block < lo ∨ hi ≤ p.block) : RowAt b x n f := by
  rcases hr with h0 | ⟨g, o, rfl, hc⟩
  · exact .inl h0
  · refine .inr ⟨g, o, rfl, fun k hk => ?_⟩
    have hl := World.block_lt_of_cell? a _ (hc k hk)
    exact (World.cell?_of_block (h.block g hl (hx _ rfl))).trans (hc k hk)
theorem Chg.own {a b : World} {lo hi base : Nat} (h : Chg lo hi a b) {x : Option Addr} {n cap : Nat} {zs : List Int} (hr : OwnI a base (.slice x n cap) zs) (hx : ∀ p, x = some p → p.block < lo ∨ hi ≤ p.block) : OwnI b base (.slice x n cap) zs := by
  have hlt := OwnI.lt hr
  unfold OwnI at hr ⊢
  refine ⟨hr.1, ?_⟩
  rcases hr.2 with h2 | ⟨g, c, cur, hv, hg, hh, r⟩
  · exact .inl h2
  · refine .inr ⟨g, c, cur, hv, hg, ?_, r⟩
    have e : x = some ⟨g, 0, none⟩ := (Value.slice.inj hv).1
    exact (h.block g (hlt _ e).2 (hx _ e)).trans hh

/-- The map after marking. -/
def markM (m : Mp) : Mp := ⟨m.W, m.H, markZ 1 m.R.length, markZ (1 + m.R.length) m.C.length⟩

end Go.Proofs.Ytleoljnofdajfaa.MapS

namespace Go.Proofs.Ytleoljnofdajfaa.MapV
open Go.RowKit Lb IntS MapS
set_option linter.unusedSimpArgs false
set_option linter.unusedVariables false

theorem in_yes (x a b : Int) (w : World) (h1 : a ≤ x) (h2 : x ≤ b) : Calls Try.prog 50 #[.int .i64 x, .int .i64 a, .int .i64 b] w fun e w' => e = .returned (.bool true) ∧ w' = w := by
  go_enter Try.func50, Try.ntmps50
  go_wp2
  go_ret
  exact ⟨rfl, rfl⟩
theorem in_no (x a b : Int) (w : World) (h : x < a ∨ b < x) : Calls Try.prog 50 #[.int .i64 x, .int .i64 a, .int .i64 b] w fun e w' => e = .returned (.bool false) ∧ w' = w := by
  by_cases h1 : x < a
  · go_enter Try.func50, Try.ntmps50
    go_wp2
    go_ret
    exact ⟨rfl, rfl⟩
  · have h2 : b < x := by omega
    have h3 : decide (x ≤ b) = false := by simpa using h2
    go_enter Try.func50, Try.ntmps50
    go_wp2
    go_ret
    exact ⟨rfl, rfl⟩

theorem not_cell {m : Mp} {k : Nat} (h : ¬ CellOk m k) : (zAt m.R k < 0 ∨ 9 < zAt m.R k) ∨ ((0 ≤ zAt m.R k ∧ zAt m.R k ≤ 9) ∧ (zAt m.C k < 0 ∨ 9 < zAt m.C k)) := by
  unfold CellOk at h
  omega

end Go.Proofs.Ytleoljnofdajfaa.MapV

namespace Go.Proofs.Ytleoljnofdajfaa.Lb
set_option linter.unusedVariables false

/-- The numbers at the places that a function tells. -/
def gath (f : Nat → Nat) (n : Nat) (l : List Int) : List Int := (List.range n).map fun k => zAt l (f k)
theorem gath_length (f : Nat → Nat) (n : Nat) (l : List Int) : (gath f n l).length = n := by simp [gath]
theorem gath_at (f : Nat → Nat) (n : Nat) (l : List Int) (k : Nat) (h : k < n) : zAt (gath f n l) k = zAt l (f k) := by simp [gath, zAt, h]
theorem gath_take (f : Nat → Nat) (n : Nat) (l : List Int) (k : Nat) (h : k < n) : (gath f n l).take (k + 1) = (gath f n l).take k ++ [zAt l (f k)] := by
  rw [zAt_take _ k (by rw [gath_length]; exact h), gath_at f n l k h]
theorem gath_take_all (f : Nat → Nat) (n : Nat) (l : List Int) : (gath f n l).take n = gath f n l := by rw [List.take_of_length_le (by rw [gath_length]; exact Nat.le_refl n)]
theorem gath_take_length (f : Nat → Nat) (n : Nat) (l : List Int) (k : Nat) (h : k ≤ n) : ((gath f n l).take k).length = k := by simp [gath]; omega

/-- The place in the given map of a place in the turned one; in the mirrored one. -/
def fromT (w h k : Nat) : Nat := (h - 1 - k % h) * w + k / h
def fromM (w k : Nat) : Nat := (k / w) * w + (w - 1 - k % w)
/-- The place in the turned map of a place in the given one. -/
def toT (w h c : Nat) : Nat := (c % w) * h + (h - 1 - c / w)

theorem fromT_at {w h x y : Nat} (hx : x < w) (hy : y < h) : fromT w h (x * h + (h - 1 - y)) = y * w + x := by
  have h1 : h - 1 - y < h := by omega
  unfold fromT
  rw [mod_mk h1, div_mk h1]
  congr 2
  omega
theorem toT_lt {w h c : Nat} (hw : 1 ≤ w) (hc : c < w * h) : toT w h c < w * h := by
  have hy := div_lt_of hw hc
  have hx : c % w < w := Nat.mod_lt _ hw
  unfold toT
  have hq : h - 1 - c / w < h := by
    generalize c / w = q at hy ⊢
    omega
  have := lt_mk (w := h) (h := w) (x := h - 1 - c / w) (y := c % w) hq hx
  rwa [Nat.mul_comm h w] at this
theorem from_to {w h c : Nat} (hw : 1 ≤ w) (hc : c < w * h) : fromT w h (toT w h c) = c := by
  unfold toT
  rw [fromT_at (Nat.mod_lt _ hw) (div_lt_of hw hc), Nat.mul_comm]
  exact (cell_split w c).symm
theorem to_from {w h k : Nat} (hh : 1 ≤ h) (hk : k < w * h) : fromT w h k < w * h ∧ toT w h (fromT w h k) = k := by
  have hx : k / h < w := Nat.div_lt_of_lt_mul (by rwa [Nat.mul_comm])
  have hy : k % h < h := Nat.mod_lt _ hh
  have e : k = (k / h) * h + (h - 1 - (h - 1 - k % h)) := by
    have := cell_split h k
    rw [Nat.mul_comm] at this
    omega
  have h1 : fromT w h k = (h - 1 - k % h) * w + k / h := rfl
  constructor
  · rw [h1]; exact lt_mk hx (by omega)
  · rw [h1]
    unfold toT
    rw [mod_mk hx, div_mk hx]
    omega
theorem fromM_at {w x y : Nat} (hx : x < w) : fromM w (y * w + (w - 1 - x)) = y * w + x := by
  have h1 : w - 1 - x < w := by omega
  unfold fromM
  rw [mod_mk h1, div_mk h1]
  omega
theorem fromM_lt {w h k : Nat} (hw : 1 ≤ w) (hk : k < w * h) : fromM w k < w * h := by
  unfold fromM
  exact lt_mk (by omega) (div_lt_of hw hk)

/-- The turned map; the mirrored one. -/
def turnM (m : Mp) : Mp := ⟨m.H, m.W, gath (fromT m.W.toNat m.H.toNat) (m.W.toNat * m.H.toNat) m.R, gath (fromT m.W.toNat m.H.toNat) (m.W.toNat * m.H.toNat) m.C⟩
def mirM (m : Mp) : Mp := ⟨m.W, m.H, gath (fromM m.W.toNat) (m.W.toNat * m.H.toNat) m.R, gath (fromM m.W.toNat) (m.W.toNat * m.H.toNat) m.C⟩

/-- What is there when the places up to 'c' have been written. -/
def part (f : Nat → Nat) (n : Nat) (l : List Int) (c : Nat) : List Int := (List.range n).map fun j => if f j < c then zAt l (f j) else 0
theorem part_length (f : Nat → Nat) (n : Nat) (l : List Int) (c : Nat) : (part f n l c).length = n := by simp [part]
theorem part_zero (f : Nat → Nat) (n : Nat) (l : List Int) : part f n l 0 = List.replicate n 0 := by
  apply List.ext_getElem
  · simp [part]
  · intro i h1 h2; simp [part]
theorem part_all (f : Nat → Nat) (n : Nat) (l : List Int) (hf : ∀ j, j < n → f j < n) : part f n l n = gath f n l := by
  apply List.ext_getElem
  · simp [part, gath]
  · intro i h1 h2
    have : i < n := by simpa [part] using h1
    simp [part, gath, hf i this]
theorem part_set (f : Nat → Nat) (n : Nat) (l : List Int) (c t : Nat) (ht : t < n) (h1 : f t = c) (h2 : ∀ j, j < n → f j = c → j = t) : (part f n l c).set t (zAt l c) = part f n l (c + 1) := by
  apply List.ext_getElem
  · simp [part]
  · intro i hi1 hi2
    have hi : i < n := by simpa [part] using hi2
    rw [List.getElem_set]
    by_cases e : t = i
    · subst e
      simp [part, h1]
    · have hne : f i ≠ c := fun e2 => e (h2 i hi e2).symm
      simp only [e, if_false]
      simp only [part, List.getElem_map, List.getElem_range]
      by_cases hlt : f i < c
      · rw [if_pos hlt, if_pos (by omega)]
      · rw [if_neg hlt, if_neg (by omega)]

/-- What is there when 'r' rows have been turned round. -/
def rows (w n : Nat) (l : List Int) (r : Nat) : List Int := (List.range n).map fun j => if j / w < r then zAt l (fromM w j) else zAt l j
theorem rows_length (w n : Nat) (l : List Int) (r : Nat) : (rows w n l r).length = n := by simp [rows]
theorem rows_zero (w n : Nat) (l : List Int) (h : l.length = n) : rows w n l 0 = l := by
  apply List.ext_getElem
  · simp [rows, h]
  · intro i h1 h2; simp [rows, zAt, h2]
theorem rows_all (w h : Nat) (hw : 1 ≤ w) (l : List Int) : rows w (w * h) l h = gath (fromM w) (w * h) l := by
  apply List.ext_getElem
  · simp [rows, gath]
  · intro i h1 h2
    have : i < w * h := by simpa [rows] using h1
    simp [rows, gath, div_lt_of hw this]
theorem turn_ok {m : Mp} {w h : Nat} (g : GoodM m w h) : GoodM (turnM m) h w ∧ turnM m = ⟨h, w, gath (fromT w h) (w * h) m.R, gath (fromT w h) (w * h) m.C⟩ := by
  have e1 : m.W.toNat = w := by rw [g.W]; rfl
  have e2 : m.H.toNat = h := by rw [g.H]; rfl
  have e3 : turnM m = ⟨h, w, gath (fromT w h) (w * h) m.R, gath (fromT w h) (w * h) m.C⟩ := by unfold turnM; rw [e1, e2, g.W, g.H]
  refine ⟨?_, e3⟩
  rw [e3]
  have n36 := g.n36
  have n1 := g.n1
  have hc : h * w = w * h := Nat.mul_comm h w
  refine ⟨rfl, rfl, g.h1, g.h6, g.w1, g.w6, by rw [gath_length, hc], by rw [gath_length, hc], by omega, by omega, fun i hi => ?_⟩
  have hi' : i < w * h := by omega
  unfold CellOk
  simp only
  rw [gath_at _ _ _ _ hi', gath_at _ _ _ _ hi']
  exact g.cell _ (to_from g.h1 hi').1
theorem mir_ok {m : Mp} {w h : Nat} (g : GoodM m w h) : GoodM (mirM m) w h ∧ mirM m = ⟨w, h, gath (fromM w) (w * h) m.R, gath (fromM w) (w * h) m.C⟩ := by
  have e1 : m.W.toNat = w := by rw [g.W]; rfl
  have e2 : m.H.toNat = h := by rw [g.H]; rfl
  have e3 : mirM m = ⟨w, h, gath (fromM w) (w * h) m.R, gath (fromM w) (w * h) m.C⟩ := by unfold mirM; rw [e1, e2, g.W, g.H]
  refine ⟨?_, e3⟩
  rw [e3]
  refine ⟨rfl, rfl, g.w1, g.w6, g.h1, g.h6, by rw [gath_length], by rw [gath_length], g.n1, g.n36, fun i hi => ?_⟩
  unfold CellOk
  simp only
  rw [gath_at _ _ _ _ hi, gath_at _ _ _ _ hi]
  exact g.cell _ (fromM_lt g.w1 hi)

end Go.Proofs.Ytleoljnofdajfaa.Lb

namespace Go.Proofs.Ytleoljnofdajfaa.SpecB
open Go.RowKit Lb IntS MapS MapV
set_option linter.unusedSimpArgs false
set_option linter.unusedVariables false

theorem mp_eq {m : Mp} {ww hh : Nat} (g : GoodM m ww hh) : m = ⟨ww, hh, m.R, m.C⟩ := by
  have h1 := g.W
  have h2 := g.H
  cases m
  simp only at h1 h2
  subst h1 h2
  rfl
theorem below_drewN {B : Nat} {a w : World} (h : Below B a w) (n : Nat) : Below B a (w.drewN n) := ⟨h.os, h.tape, h.output, h.size, h.block⟩
/-- A row stands beside a store into a block of another kind. -/
theorem own_far {w : World} {base : Nat} {e t : TypeId} {v : Value} {n g i : Nat} {xs : List Value} {cs : Array Value} (h : w.ownsRow base e 1 v n xs) (hb : Blk w g t cs) (hne : e ≠ t) (u : Value) : (w.setCell ⟨g, i, none⟩ u).ownsRow base e 1 v n xs := by
  refine ⟨h.1, ?_⟩
  rcases h.2 with h2 | ⟨g', cap, cur, hv, hg, hh, r⟩
  · exact .inl h2
  · refine .inr ⟨g', cap, cur, hv, hg, ?_, r⟩
    refine (Below.heap_setCell w _ u g' ?_).trans hh
    rintro rfl
    have h3 := hb
    unfold Blk at h3
    rw [hh] at h3
    injection h3 with h3
    injection h3 with _ h4
    exact hne h4
theorem own_ne {w : World} {base : Nat} {e t : TypeId} {v : Value} {n g : Nat} {xs : List Value} {cs : Array Value} (h : w.ownsRow base e 1 v n xs) (hb : Blk w g t cs) (hne : e ≠ t) : v.ownBlock ≠ some g := by
  rcases h.2 with ⟨rfl, _⟩ | ⟨g', cap, cur, rfl, hg, hh, r⟩
  · simp [Value.ownBlock]
  · intro e2
    obtain rfl : g' = g := by simpa [Value.ownBlock] using e2
    have h3 := hb
    unfold Blk at h3
    rw [hh] at h3
    injection h3 with h3
    injection h3 with _ h4
    exact hne h4
theorem own_grown {w w' : World} {base : Nat} {e : TypeId} {v : Value} {n : Nat} {xs : List Value} {r : Option Nat} (h : w.ownsRow base e 1 v n xs) (hg : w.grownBy w' r) (hr : ∀ p q, v.ownBlock = some p → r = some q → p ≠ q) : w'.ownsRow base e 1 v n xs := by
  refine h.kept hg ?_
  cases hv : v.ownBlock with
  | none => exact .inl rfl
  | some p => exact .inr (fun e => hr p p hv e.symm rfl)
theorem blk_grown {w w' : World} {g : Nat} {t : TypeId} {cs : Array Value} {r : Option Nat} (h : Blk w g t cs) (hg : w.grownBy w' r) (hr : r ≠ some g) : Blk w' g t cs := (hg.block g h.lt (fun e => hr e.symm)).trans h

/-- A map and whether there is one. -/
def MPost (w : World) (m : Mp) (ok : Bool) (e : Ending) (w' : World) : Prop := ∃ v, e = .returned (.tuple #[v, .bool ok]) ∧ OwnM w' w.heap.size v m ∧ Below w.heap.size w w'


end Go.Proofs.Ytleoljnofdajfaa.SpecB

namespace Go.Proofs.Ytleoljnofdajfaa.TblS
open Go.RowKit Lb IntS MapS SpecB
set_option linter.unusedSimpArgs false
set_option linter.unusedVariables false

theorem rInfo : (Try.prog.info? 28).map (fun i => (i.zero, i.size, i.bytes)) = some (some (.slice none 0 0), 1, 24) := by kernel_rfl

/-- 'n' lists of numbers that can be read. -/
def Rd (w : World) (a : Option Addr) (n : Nat) (zs : Nat → List Int) : Prop :=
  ∃ rs : Nat → Value, RowAt w a n rs ∧ ∀ i, i < n → ∃ ai ci, rs i = .slice ai (zs i).length ci ∧ IRow w ai (zs i)
theorem Rd.below {w w' : World} {a : Option Addr} {n : Nat} {zs : Nat → List Int} (h : Rd w a n zs) (hb : Below w.heap.size w w') : Rd w' a n zs := by
  obtain ⟨rs, h1, h2⟩ := h
  refine ⟨rs, RowAt.below h1 hb, fun i hi => ?_⟩
  obtain ⟨ai, ci, e, h3⟩ := h2 i hi
  exact ⟨ai, ci, e, RowAt.below h3 hb⟩
theorem Rd.belowB {B : Nat} {w w' : World} {a : Option Addr} {n : Nat} {zs : Nat → List Int} (h : Rd w a n zs) (hb : Below B w w') (hB : w.heap.size ≤ B) : Rd w' a n zs := h.below (hb.mono hB)

/-- Lists of the call's own: a row of rows, all in blocks of their own. -/
structure OwnP (w : World) (base : Nat) (v : Value) (n : Nat) (zs : Nat → List Int) (rs : Nat → Value) : Prop where
  tbl : w.ownsRow base 28 1 v n ((List.range n).map rs)
  row : ∀ i, i < n → OwnI w base (rs i) (zs i)
  ne : ∀ i j, i < j → j < n → ∀ x, (rs i).ownBlock = some x → (rs j).ownBlock ≠ some x
theorem OwnP.below {w w' : World} {base n : Nat} {v : Value} {zs : Nat → List Int} {rs : Nat → Value} (h : OwnP w base v n zs rs) (hb : Below w.heap.size w w') : OwnP w' base v n zs rs :=
  ⟨owns_below h.tbl hb, fun i hi => owns_below (h.row i hi) hb, h.ne⟩
theorem OwnP.rebase {w : World} {b b' n : Nat} {v : Value} {zs : Nat → List Int} {rs : Nat → Value} (h : OwnP w b v n zs rs) (hb : b' ≤ b) : OwnP w b' v n zs rs :=
  ⟨IntS.rebase h.tbl hb, fun i hi => IntS.rebase (h.row i hi) hb, h.ne⟩
theorem OwnP.rd {w : World} {base n cap : Nat} {a : Option Addr} {zs : Nat → List Int} {rs : Nat → Value} (h : OwnP w base (.slice a n cap) n zs rs) : Rd w a n zs := by
  refine ⟨rs, ?_, fun i hi => ?_⟩
  · rcases h.tbl.2 with ⟨_, h0⟩ | ⟨g, c, cur, hv, _⟩
    · exact .inl h0
    · obtain rfl : a = some ⟨g, 0, none⟩ := by simpa using (Value.slice.inj hv).1
      exact (RowAt.of_owns h.tbl).congr fun k hk => by simp [hk]
  · obtain ⟨ai, ci, e, hr, _⟩ := OwnI.slice (h.row i hi)
    exact ⟨ai, ci, e, hr⟩
theorem OwnP.slice {w : World} {base n : Nat} {v : Value} {zs : Nat → List Int} {rs : Nat → Value} (h : OwnP w base v n zs rs) : ∃ a cap, v = .slice a n cap := by
  rcases h.tbl.2 with ⟨rfl, h0⟩ | ⟨g, cap, cur, rfl, _⟩
  · exact ⟨none, 0, by rw [h0]⟩
  · exact ⟨_, cap, rfl⟩
/-- Two rows of different kinds lie apart. -/
theorem own_own_ne {w : World} {b b' : Nat} {e e' : TypeId} {v v' : Value} {n n' : Nat} {xs xs' : List Value} (h : w.ownsRow b e 1 v n xs) (h' : w.ownsRow b' e' 1 v' n' xs') (hne : e ≠ e') : ∀ x y, v.ownBlock = some x → v'.ownBlock = some y → x ≠ y := by
  rintro x y hx hy rfl
  rcases h.2 with ⟨rfl, _⟩ | ⟨g, cap, cur, rfl, hg, hh, _⟩
  · simp [Value.ownBlock] at hx
  · rcases h'.2 with ⟨rfl, _⟩ | ⟨g', cap', cur', rfl, hg', hh', _⟩
    · simp [Value.ownBlock] at hy
    · obtain rfl : g = x := by simpa [Value.ownBlock] using hx
      obtain rfl : g' = g := by simpa [Value.ownBlock] using hy
      rw [hh] at hh'
      injection hh' with h3
      injection h3 with _ h4
      exact hne h4
theorem own_lt {w : World} {b : Nat} {e : TypeId} {v : Value} {n : Nat} {xs : List Value} (h : w.ownsRow b e 1 v n xs) : ∀ x, v.ownBlock = some x → b ≤ x ∧ x < w.heap.size := h.lt
/-- The sum of the lengths ahead of a list. -/
def tot (zs : Nat → List Int) : Nat → Nat
  | 0 => 0
  | n + 1 => tot zs n + (zs n).length
theorem tot_le {zs : Nat → List Int} {c n : Nat} (h : ∀ i, i < n → (zs i).length ≤ c) : tot zs n ≤ c * n := by
  induction n with
  | zero => simp [tot]
  | succ n ih =>
    have h1 := ih fun i hi => h i (by omega)
    have h2 := h n (by omega)
    rw [tot, Nat.mul_succ]
    omega
theorem tot_mono {zs : Nat → List Int} {i n : Nat} (h : i ≤ n) : tot zs i ≤ tot zs n := by
  induction n with
  | zero => simp [show i = 0 by omega]
  | succ n ih =>
    by_cases e : i = n + 1
    · subst e; exact Nat.le_refl _
    · have := ih (by omega)
      rw [tot]; omega
/-- What stands in the lists when the first 'i' are marked. -/
def mk (k : Int) (zs : Nat → List Int) (i : Nat) : Nat → List Int := fun j => if j < i then markZ (k + tot zs j) (zs j).length else zs j
theorem mk_zero (k : Int) (zs : Nat → List Int) : mk k zs 0 = zs := by funext j; simp [mk]
theorem mk_length (k : Int) (zs : Nat → List Int) (i j : Nat) : (mk k zs i j).length = (zs j).length := by
  unfold mk; split <;> simp [markZ_length]
theorem mk_succ_ne (k : Int) (zs : Nat → List Int) {i j : Nat} (h : j ≠ i) : mk k zs (i + 1) j = mk k zs i j := by
  unfold mk
  by_cases e : j < i
  · rw [if_pos e, if_pos (by omega)]
  · rw [if_neg e, if_neg (by omega)]
theorem mk_succ_at (k : Int) (zs : Nat → List Int) (i : Nat) : mk k zs (i + 1) i = markZ (k + tot zs i) (zs i).length := by
  unfold mk; rw [if_pos (by omega)]
theorem mk_at (k : Int) (zs : Nat → List Int) (i : Nat) : mk k zs i i = zs i := by unfold mk; rw [if_neg (by omega)]

/-- One list of the table has been written. -/
theorem OwnP.set_ {w w' : World} {base n : Nat} {v : Value} {zs : Nat → List Int} {rs : Nat → Value} (h : OwnP w base v n zs rs) {i : Nat} (hi : i < n) {zs' : Nat → List Int} (hz : ∀ j, j ≠ i → zs' j = zs j) (ho : OwnI w' base (rs i) (zs' i)) (hg : w.grownBy w' (rs i).ownBlock) : OwnP w' base v n zs' rs := by
  refine ⟨own_grown h.tbl hg (own_own_ne h.tbl (h.row i hi) (by decide)), fun j hj => ?_, h.ne⟩
  by_cases e : j = i
  · subst e; exact ho
  · rw [hz j e]
    refine own_grown (h.row j hj) hg (fun x y hx hy => ?_)
    rcases Nat.lt_or_gt_of_ne e with hlt | hgt
    · rintro rfl; exact h.ne j i hlt hi x hx hy
    · rintro rfl; exact h.ne i j hgt hj x hy hx

end Go.Proofs.Ytleoljnofdajfaa.TblS
