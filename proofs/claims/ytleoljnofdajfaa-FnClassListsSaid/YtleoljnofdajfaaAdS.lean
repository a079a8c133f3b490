/- AddRunner: the model's text. -/
import Derived.Test.YtleoljnofdajfaaBk
import Derived.Laws.CopyOwn
import Derived.Lib.AppendZerosOnto
import Derived.Lib.Overlaps
import Derived.Shelf.Spec.SlicesInsert
import Derived.Test.YtleoljnofdajfaaRuM
import Derived.Maps.AppendAt
import Derived.Deep.RegionLaw
import Derived.OwnWalk
import Derived.Lib.Hide
import Derived.Test.YtleoljnofdajfaaRuP
import Derived.BigRegion
import Derived.Shelf.Abstract
import Derived.Lib.SliceRun
import Derived.Deep.RegionHeld3
import Derived.Deep.LoopGhost
namespace Go.Proofs.Ytleoljnofdajfaa.InsG
open Go.RowKit Bk
set_option linter.unusedSimpArgs false
set_option linter.unusedVariables false

/-- copy into a block that is known whole, elements of any size. -/
theorem run_copy_rowN {P : Program} (w : World) (dT sT ty elem : TypeId) (size : Nat) (g o dLen dCap : Nat) (a : Addr) (sLen sCap : Nat) (cur : Array Value) (t : TypeId) (cs : List Value)
    (hu : P.underlying dT = some (.slice elem)) (hs : (P.info? elem).map (·.size) = some size)
    (hg : w.heap[g]? = some (.cells cur t (0, 0))) (hn : cs.length = Nat.min sLen dLen * size)
    (hsrc : ∀ j v, cs[j]? = some v → w.cell? (a.add j) = some v) (hfit : o + cs.length ≤ cur.size) (h1 : ∀ v ∈ cs, v.oneCell' = true) :
    (Builtin.copy_ #[dT, sT] ty #[.slice (some ⟨g, o, none⟩) dLen dCap, .slice (some a) sLen sCap]).run P w =
      .ok (goInt (Nat.min sLen dLen)) (w.setRow g (cur.toList.take o ++ cs ++ cur.toList.drop (o + cs.length)).toArray) := by
  have hl := run_loadCells_list (P := P) w a cs hsrc
  have hst := run_storeCells_at P g o t cs 0 cur w hg (by simpa using hfit) h1
  cases hq : P.info? elem with
  | none => simp [hq] at hs
  | some i =>
    have hi : i.size = size := by simpa [hq] using hs
    simp [Builtin.copy_, run_underlying hu, Builtin.lenOf, Builtin.firstCells, sizeOf, typeInfo, hq, hi, ← hn, hl, hst]

/-- The row behind the copies: first the tail moves up. -/
theorem shift_take {xs news cur : List Value} {K M N : Nat} (hx : xs.length = N) (hk : K ≤ N) (hm : news.length = M) (hc : N + M ≤ cur.length) (h0 : cur.take N = xs) :
    let c1 := cur.take (K + M) ++ xs.drop K ++ cur.drop (K + M + (xs.drop K).length)
    let c2 := c1.take K ++ news ++ c1.drop (K + news.length)
    c2.take (N + M) = xs.take K ++ news ++ xs.drop K ∧ c2.length = cur.length ∧ c1.length = cur.length := by
  intro c1 c2
  have hcK : cur.take K = xs.take K := by rw [← h0, List.take_take, Nat.min_eq_left hk]
  have hd : (xs.drop K).length = N - K := by rw [List.length_drop, hx]
  have hkm : (cur.take (K + M)).length = K + M := by rw [List.length_take]; omega
  have hc1 : c1.length = cur.length := by simp only [c1, List.length_append, hkm, hd, List.length_drop]; omega
  have e1 : c1.take K = xs.take K := by
    show (cur.take (K + M) ++ xs.drop K ++ cur.drop (K + M + (xs.drop K).length)).take K = _
    rw [List.append_assoc, List.take_append_of_le_length (by omega), List.take_take, Nat.min_eq_left (by omega), hcK]
  have e2 : c1.drop (K + news.length) = xs.drop K ++ cur.drop (K + M + (xs.drop K).length) := by
    show (cur.take (K + M) ++ xs.drop K ++ cur.drop (K + M + (xs.drop K).length)).drop (K + news.length) = _
    rw [List.append_assoc, hm]
    exact List.drop_left' hkm
  refine ⟨?_, ?_, hc1⟩
  · show (c1.take K ++ news ++ c1.drop (K + news.length)).take (N + M) = _
    rw [e1, e2, ← List.append_assoc]
    refine List.take_left' ?_
    simp only [List.length_append, List.length_take, hm, hd, hx]
    omega
  · show (c1.take K ++ news ++ c1.drop (K + news.length)).length = _
    simp only [List.length_append, List.length_take, List.length_drop, hm, hc1]
    omega

/-- The row behind the copies: into a new row, first the new elements. -/
theorem grow_take {xs news cur : List Value} {K M N : Nat} (hx : xs.length = N) (hk : K ≤ N) (hm : news.length = M) (hc : N + M ≤ cur.length) (h0 : cur.take K = xs.take K) :
    let c1 := cur.take K ++ news ++ cur.drop (K + news.length)
    let c2 := c1.take (K + M) ++ xs.drop K ++ c1.drop (K + M + (xs.drop K).length)
    c2.take (N + M) = xs.take K ++ news ++ xs.drop K ∧ c2.length = cur.length ∧ c1.length = cur.length := by
  intro c1 c2
  have hd : (xs.drop K).length = N - K := by rw [List.length_drop, hx]
  have hc1 : c1.length = cur.length := by simp only [c1, List.length_append, List.length_take, List.length_drop, hm]; omega
  have hl : (cur.take K ++ news).length = K + M := by rw [List.length_append, List.length_take, hm]; omega
  have e1 : c1.take (K + M) = xs.take K ++ news := by
    show (cur.take K ++ news ++ cur.drop (K + news.length)).take (K + M) = _
    rw [List.take_left' hl, h0]
  refine ⟨?_, ?_, hc1⟩
  · show (c1.take (K + M) ++ xs.drop K ++ c1.drop (K + M + (xs.drop K).length)).take (N + M) = _
    rw [e1]
    refine List.take_left' ?_
    simp only [List.length_append, List.length_take, hm, hd, hx]
    omega
  · show (c1.take (K + M) ++ xs.drop K ++ c1.drop (K + M + (xs.drop K).length)).length = _
    simp only [List.length_append, List.length_take, List.length_drop, hd, hc1]
    omega

theorem owns_of_block {w : World} {base g n cap size : Nat} {e : TypeId} {cur xs : List Value} (hb : base ≤ g) (hg : w.heap[g]? = some (.cells cur.toArray e (0, 0))) (hn : n ≤ cap) (hc : cap ≤ maxLen) (hs : cur.length = cap * size) (ht : cur.take (n * size) = xs) (hx : xs.length = n * size) :
    w.ownsRow base e size (.slice (some ⟨g, 0, none⟩) n cap) n xs :=
  ⟨hx, .inr ⟨g, cap, cur.toArray, rfl, hb, hg, hn, hc, by simpa using hs, by simpa using ht⟩⟩

theorem grown_setRow (w : World) (g : Nat) (cs : Array Value) : w.grownBy (w.setRow g cs) (some g) :=
  ⟨rfl, rfl, rfl, by simp [World.setRow], fun k hk he => setRow_other w g k cs (fun e => he (by rw [e]))⟩
theorem setRow_size (w : World) (g : Nat) (cs : Array Value) : (w.setRow g cs).heap.size = w.heap.size := by simp [World.setRow]
theorem grown_two (w : World) (g : Nat) (c1 c2 : Array Value) : w.grownBy ((w.drew.setRow g c1).setRow g c2) (some g) :=
  ⟨rfl, rfl, rfl, by rw [setRow_size, setRow_size]; exact Nat.le_refl _, fun k hk he => (setRow_other _ g k c2 (fun e => he (by rw [e]))).trans (setRow_other w.drew g k c1 (fun e => he (by rw [e])))⟩
theorem grown_new (w : World) (e : TypeId) (c0 c1 c2 : Array Value) (r : Option Nat) : w.grownBy (((w.drew.alloc (.cells c0 e)).setRow w.heap.size c1).drew.setRow w.heap.size c2) r :=
  ⟨rfl, rfl, rfl, by
    rw [setRow_size]
    show w.heap.size ≤ ((w.drew.alloc (.cells c0 e)).setRow w.heap.size c1).heap.size
    rw [setRow_size]
    exact ((Below.refl w.heap.size w).drew.alloc (Nat.le_refl _) _).size, fun k hk _ => (setRow_other _ w.heap.size k c2 (Nat.ne_of_lt hk)).trans ((setRow_other (w.drew.alloc (.cells c0 e)) w.heap.size k c1 (Nat.ne_of_lt hk)).trans (Below.heap_alloc w.drew _ k hk))⟩
end Go.Proofs.Ytleoljnofdajfaa.InsG

namespace Go.Proofs.Ytleoljnofdajfaa.RuK
open Go.RowKit Lb Bk
set_option linter.unusedSimpArgs false
set_option linter.unusedVariables false

theorem cells_one : ∀ (rs : List Ru) (u : Value), u ∈ cells rs → u.oneCell' = true
  | [], u, h => by simp [cells] at h
  | f :: r, u, h => by
    simp only [cells, List.mem_cons] at h
    rcases h with rfl | rfl | rfl | rfl | rfl | rfl | h
    · rfl
    · rfl
    · rfl
    · rfl
    · rfl
    · rfl
    · exact cells_one r u h
theorem add_none (b o j : Nat) : (⟨b, o, none⟩ : Addr).add j = ⟨b, o + j, none⟩ := by unfold Addr.add; split <;> simp_all
theorem Row.news {w : World} {ad : Addr} {rs : List Ru} (H : Row w (some ad) rs) : ∀ j u, (RuK.cells rs)[j]? = some u → w.cell? (ad.add j) = some u := by
  intro j u h
  have hj : j < rs.length * 6 := by
    have := (List.getElem?_eq_some_iff.1 h).1
    rwa [cells_len] at this
  rcases H with h0 | ⟨b, off, e, hc⟩
  · omega
  · cases e
    rw [add_none]
    have h1 := hc (j / 6) (by omega) (j % 6) (by omega)
    have h2 := cells_at rs (j / 6) (by omega) (j % 6) (by omega)
    rw [show j / 6 * 6 + j % 6 = j by omega] at h2
    rw [show off + j / 6 * 6 + j % 6 = off + j by omega] at h1
    rw [h1]
    rw [h2] at h
    exact h
theorem drop_at (rs : List Ru) (k i : Nat) : at_ (rs.drop k) i = at_ rs (k + i) := by
  unfold at_
  rw [List.getD_eq_getElem?_getD, List.getD_eq_getElem?_getD, List.getElem?_drop]
theorem Row.drop {w : World} {b off : Nat} {rs : List Ru} (H : Row w (some ⟨b, off, none⟩) rs) (k : Nat) : Row w (some ⟨b, off + k * 6, none⟩) (rs.drop k) := by
  rcases H with h0 | ⟨b', off', e, hc⟩
  · exact .inl (by rw [List.length_drop]; omega)
  · cases e
    refine .inr ⟨b, off + k * 6, rfl, fun i hi j hj => ?_⟩
    rw [List.length_drop] at hi
    rw [drop_at, show off + k * 6 + i * 6 + j = off + (k + i) * 6 + j by omega]
    exact hc (k + i) (by omega) j hj
theorem Own.cat {w : World} {base n m : Nat} {v : Value} {rs qs : List Ru} (hn : rs.length = n) (hm : qs.length = m) (h : w.ownsRow base 37 6 v (n + m) (cells rs ++ cells qs)) : Own w base v (rs ++ qs) := by
  unfold Own
  rw [List.length_append, hn, hm, cells_cat]
  exact h
theorem Own.empty (w : World) : Own (w.alloc (.cells #[] 37)) w.heap.size (.slice (some ⟨w.heap.size, 0, none⟩) 0 0) [] := World.ownsRow_made w #[] 0 (Nat.le_refl _) (Nat.zero_le _) rfl
end Go.Proofs.Ytleoljnofdajfaa.RuK

namespace Go.Proofs.Ytleoljnofdajfaa.RuV
open Go.RowKit Lb Bk InsG
set_option linter.unusedSimpArgs false
set_option linter.unusedVariables false

theorem info : (Try.prog.info? 37).map (fun i => (i.zero, i.size, i.bytes)) = some (some (Value.agg #[.int .i64 0, .string ⟨#[]⟩, .string ⟨#[]⟩, .int .i64 0, .bool false, .int .i64 0]), 6, 64) := by kernel_rfl
theorem add_none (b o j : Nat) : (⟨b, o, none⟩ : Addr).add j = ⟨b, o + j, none⟩ := by unfold Addr.add; split <;> simp_all
end Go.Proofs.Ytleoljnofdajfaa.RuV

namespace Go.Proofs.Ytleoljnofdajfaa.RuW
open Go.RowKit Lb Bk InA Wd RuK RuI RuU RuA RuG RuC RuP
set_option linter.unusedSimpArgs false
set_option linter.unusedVariables false

theorem cells_ca (z : Int) : ∀ (fs : List Ru) (k : Nat), k < fs.length → cells (fs.set k { at_ fs k with ca := z }) = (cells fs).set (k * 6 + 5) (.int .i64 z)
  | [], k, h => absurd h (Nat.not_lt_zero _)
  | f :: r, 0, _ => by simp [cells, at_]
  | f :: r, k + 1, h => by
    rw [List.set_cons_succ, show at_ (f :: r) (k + 1) = at_ r k from rfl, cells, cells_ca z r k (by simpa using h), cells, show (k + 1) * 6 + 5 = k * 6 + 5 + 6 by omega]
    simp only [List.set_cons_succ]
theorem own_some {w : World} {base : Nat} {v : Value} {rs : List Ru} (h : Own w base v rs) (hp : 0 < rs.length) : ∃ g cap, v = .slice (some ⟨g, 0, none⟩) rs.length cap ∧ base ≤ g := by
  rcases h.2 with ⟨_, h0⟩ | ⟨g, cap, cur, hv, hb, _⟩
  · omega
  · exact ⟨g, cap, hv, hb⟩
theorem own_ca {w : World} {base g n cap : Nat} {rs : List Ru} (h : Own w base (.slice (some ⟨g, 0, none⟩) n cap) rs) (hn : rs.length = n) {k : Nat} (hk : k < n) (z : Int) :
    Own (w.setCell ⟨g, k * 6 + 5, none⟩ (.int .i64 z)) base (.slice (some ⟨g, 0, none⟩) n cap) (rs.set k { at_ rs k with ca := z }) := by
  unfold Own at h ⊢
  rw [cells_ca z rs k (by omega), List.length_set, hn]
  rw [hn] at h
  exact (World.ownsRow.stored h (k * 6 + 5) (.int .i64 z)).1

/-- The cards exchanged. -/
def swL (rs : List Ru) (i k : Nat) : List Ru := (rs.set i { at_ rs i with ca := (at_ rs k).ca }).set k { at_ rs k with ca := (at_ rs i).ca }
theorem sw_len (rs : List Ru) (i k : Nat) : (swL rs i k).length = rs.length := by simp [swL]
theorem set_at {rs : List Ru} {i k : Nat} (x : Ru) (h : i ≠ k) : at_ (rs.set i x) k = at_ rs k := by
  unfold at_
  rw [List.getD_eq_getElem?_getD, List.getD_eq_getElem?_getD, List.getElem?_set_ne h]
def LPost (w : World) (ss : List Ru) (ok : Bool) (e : Ending) (w' : World) : Prop := ∃ v, e = .returned (.tuple #[v, .bool ok]) ∧ Own w' w.heap.size v ss ∧ Below w.heap.size w w'
theorem own_none (w : World) (b : Nat) (hb : b ≤ w.heap.size) : Own (w.alloc (.cells #[] 37)) b (.slice (some ⟨w.heap.size, 0, none⟩) 0 0) [] := World.ownsRow_made w #[] 0 hb (Nat.zero_le _) rfl

end Go.Proofs.Ytleoljnofdajfaa.RuW

namespace Go.Proofs.Ytleoljnofdajfaa.AdA
open Go.RowKit Lb Bk InA Wd RuK RuI RuU RuA RuG RuC RuP RuW
set_option linter.unusedSimpArgs false
set_option linter.unusedVariables false

/-- The place of an Id. -/
def pl (rs : List Ru) (id : Int) : Nat := rs.findIdx (fun r => decide (id ≤ r.id))
theorem pl_le (rs : List Ru) (id : Int) : pl rs id ≤ rs.length := List.findIdx_le_length
theorem plc_pl {rs : List Ru} (h : Asc rs) (id : Int) : Plc rs id (pl rs id) := by
  obtain ⟨k, hk⟩ := h.plc id
  have e : pl rs id = k := hk.unique (pl_le rs id) (fun t ht => by
    have hl : t < rs.length := Nat.lt_of_lt_of_le ht (pl_le rs id)
    have := List.not_of_lt_findIdx ht
    rw [at_lt hl]
    simp at this
    omega) (fun t h1 h2 => by
    have hkl : pl rs id < rs.length := by omega
    have h3 := List.findIdx_getElem (w := hkl)
    have h3' : id ≤ (at_ rs (pl rs id)).id := by rw [at_lt hkl]; exact of_decide_eq_true h3
    rcases Nat.lt_or_ge (pl rs id) t with h4 | h4
    · have := h.lt h4 h2; omega
    · have : t = pl rs id := by omega
      rw [this]; exact h3')
  rw [e]; exact hk
/-- The list with one more. -/
def insR (rs : List Ru) (x : Ru) : List Ru := rs.take (pl rs x.id) ++ [x] ++ rs.drop (pl rs x.id)
theorem ins_len (rs : List Ru) (x : Ru) : (insR rs x).length = rs.length + 1 := by
  have := pl_le rs x.id
  unfold insR
  simp only [List.length_append, List.length_take, List.length_drop, List.length_cons, List.length_nil]
  omega
theorem all_at {P : Ru → Prop} {rs : List Ru} : (∀ i, i < rs.length → P (at_ rs i)) ↔ ∀ r, r ∈ rs → P r := by
  constructor
  · intro h r hr
    obtain ⟨i, hi, rfl⟩ := List.mem_iff_getElem.1 hr
    rw [← at_lt hi]
    exact h i hi
  · intro h i hi
    rw [at_lt hi]
    exact h _ (List.getElem_mem hi)
theorem ins_all {P : Ru → Prop} {rs : List Ru} {x : Ru} (h : ∀ i, i < rs.length → P (at_ rs i)) (hx : P x) : ∀ i, i < (insR rs x).length → P (at_ (insR rs x) i) := by
  rw [all_at] at h ⊢
  intro r hr
  unfold insR at hr
  rcases List.mem_append.1 hr with h1 | h1
  · rcases List.mem_append.1 h1 with h2 | h2
    · exact h r (List.mem_of_mem_take h2)
    · obtain rfl : r = x := by simpa using h2
      exact hx
  · exact h r (List.mem_of_mem_drop h1)
/-- What AddRunner answers. -/
def adB (rs : List Ru) (x : Ru) : Bool := goodB rs && goodB (insR rs x)
def adL (rs : List Ru) (x : Ru) : List Ru := if adB rs x then insR rs x else []

end Go.Proofs.Ytleoljnofdajfaa.AdA

namespace Go.Proofs.Ytleoljnofdajfaa.AdI
open Go.RowKit Lb Bk InA Wd RuK RuI RuU RuA RuG RuC RuP RuW AdA
set_option linter.unusedSimpArgs false
set_option linter.unusedVariables false

theorem _root_.Go.Proofs.Ytleoljnofdajfaa.RuK.Own.own_ge {w : World} {base b : Nat} {v : Value} {rs : List Ru} (h : Own w base v rs) (e : v.ownBlock = some b) : base ≤ b := (World.ownsRow.lt h b e).1
theorem _root_.Go.Proofs.Ytleoljnofdajfaa.RuK.Own.own_lt {w : World} {base b : Nat} {v : Value} {rs : List Ru} (h : Own w base v rs) (e : v.ownBlock = some b) : b < w.heap.size := (World.ownsRow.lt h b e).2
theorem _root_.Go.Proofs.Ytleoljnofdajfaa.Bk.Blk.grown {w w' : World} {g : Nat} {t : TypeId} {cs : Array Value} {r : Option Nat} (h : Blk w g t cs) (hg : w.grownBy w' r) (hr : r ≠ some g) : Blk w' g t cs := (hg.block g h.lt (fun e => hr e.symm)).trans h

theorem tail_any (rs : List Ru) (hf : ∀ i, i < rs.length → Is (at_ rs i)) (x : Ru) (hx : Is x) (hl : rs.length ≤ 1048576) (k : Nat) (hk : pl rs x.id = k) (w : World) (v : Value) {base : Nat} (ho : Own w base v (rs.take k ++ [x] ++ rs.drop k)) :
    Calls Try.prog 23 #[v] w fun e w' => e = .returned (.bool (goodB (insR rs x))) ∧ Below w.heap.size w w' := by
  have e : rs.take k ++ [x] ++ rs.drop k = insR rs x := by unfold insR; rw [hk]
  rw [e] at ho
  obtain ⟨a', c', rfl, hr', -⟩ := ho.slice
  exact RuA.impl_any a' c' (insR rs x) w ho.le hr' (ins_all hf hx) (by rw [ins_len]; unfold maxLen; omega)

end Go.Proofs.Ytleoljnofdajfaa.AdI

namespace Go.Proofs.Ytleoljnofdajfaa.A3
open Go.RowKit Bk
set_option linter.unusedSimpArgs false
set_option linter.unusedVariables false

/-- A row of the region's own; below it all is as it was. -/
structure G3 (W : World) (E : TypeId) (S : Nat) (wx : World) (v : Value) (n : Nat) (xs : List Value) : Prop where
  b : Below W.heap.size W wx
  own : wx.ownsRow W.heap.size E S v n xs
variable {W wx : World} {E : TypeId} {S : Nat} {v : Value} {n : Nat} {xs : List Value}
theorem G3.alloc (h : G3 W E S wx v n xs) (o : Obj) : G3 W E S (wx.alloc o) v n xs := ⟨h.b.alloc h.b.size o, h.own.alloc o⟩
theorem G3.drew (h : G3 W E S wx v n xs) : G3 W E S wx.drew v n xs := ⟨h.b.drew, Bk.owns_below h.own (Below.refl _ _).drew⟩
theorem G3.start (W : World) (E : TypeId) (S : Nat) : G3 W E S (W.drew.alloc (.cells #[] E)) (.slice (some ⟨W.heap.size, 0, none⟩) 0 0) 0 [] :=
  ⟨(Below.refl W.heap.size W).drew.alloc (Nat.le_refl _) _, World.ownsRow_made (e := E) (size := S) W.drew #[] 0 (Nat.le_refl _) (Nat.zero_le _) (by simp)⟩
theorem G3.after (hb : Below W.heap.size W wx) {g : Nat} (hg : g = wx.heap.size) : G3 W E S (wx.alloc (.cells #[] E)) (.slice (some ⟨g, 0, none⟩) 0 0) 0 [] := by
  subst hg
  exact ⟨hb.alloc hb.size _, World.ownsRow_made (e := E) (size := S) wx #[] 0 hb.size (Nat.zero_le _) (by simp)⟩
theorem G3.lt (h : G3 W E S wx v n xs) {k : Nat} (e : v.ownBlock = some k) : k < wx.heap.size := (h.own.lt k e).2
theorem G3.ge (h : G3 W E S wx v n xs) {k : Nat} (e : v.ownBlock = some k) : W.heap.size ≤ k := (h.own.lt k e).1
theorem blk_grown {w w' : World} {g : Nat} {t : TypeId} {cs : Array Value} {r : Option Nat} (h : Blk w g t cs) (hg : w.grownBy w' r) (hr : r ≠ some g) : Blk w' g t cs := (hg.block g h.lt (fun e => hr e.symm)).trans h
theorem blk_news {w : World} {g : Nat} {t : TypeId} {news : List Value} (h : Blk w g t news.toArray) : ∀ j u, news[j]? = some u → w.cell? ((⟨g, 0, none⟩ : Addr).add j) = some u := fun j u hj => by
  have e : (⟨g, 0, none⟩ : Addr).add j = ⟨g, j, none⟩ := by unfold Addr.add; split <;> simp_all
  rw [e]
  exact h.cell j (by simpa using hj)

theorem G3.wp {P : Program} {o : Oper} {a : Act} {K : Act → World → Prop} {Q : Exit → Act → World → Prop} (h : G3 W E S wx v n xs) (s x : Operand) (t : TypeId)
    (ho : o.op = .call { callee := .builtin .append, args := #[s, x], argTypes := #[t, t] }) (ht : P.underlying t = some (.slice E)) (i : TypeInfo) (hi : P.info? E = some i) (z : Value) (hz : i.zero = some z) (bytes : Nat)
    (hsize : i.size = S) (hby : i.bytes = bytes) (hzs : z.cells.size = S) (hsz : 0 < S) (hs : a.eval s = v)
    (ad : Addr) (m c : Nat) (news : List Value) (hx : a.eval x = .slice (some ad) m c) (hl : news.length = m * S) (hnews : ∀ j u, news[j]? = some u → wx.cell? (ad.add j) = some u) (h1 : ∀ u ∈ news, u.oneCell' = true)
    (h63 : n + m ≤ maxLen) (hbytes : (n + m) * bytes ≤ 140737488355328)
    (k : ∀ v' w', G3 W E S w' v' (n + m) (xs ++ news) → wx.grownBy w' v.ownBlock → K (a.put o.dst v') w') : o.wp P a wx K Q :=
  wp_append_own wx s x t ho W.heap.size E i z S bytes ht hi hz hsize hby hzs hsz v n xs hs h.own ad m c news hx hl hnews h1 h63 hbytes h.b.size fun v' w' h2 h3 _ =>
    k v' w' ⟨h.b.grown h3 h.b.size (fun q e => h.ge e), h2⟩ h3
theorem G3.wp_none {P : Program} {o : Oper} {a : Act} {K : Act → World → Prop} {Q : Exit → Act → World → Prop} (h : G3 W E S wx v n xs) (s x : Operand) (t : TypeId)
    (ho : o.op = .call { callee := .builtin .append, args := #[s, x], argTypes := #[t, t] }) (ht : P.underlying t = some (.slice E)) (i : TypeInfo) (hi : P.info? E = some i)
    (hsize : i.size = S) (hs : a.eval s = v) (c : Nat) (hx : a.eval x = .slice none 0 c) (k : K (a.put o.dst v) wx) : o.wp P a wx K Q := by
  have hr : (Builtin.append_ #[t, t] o.type #[v, .slice none 0 c]).run P wx = .ok v wx := by
    rcases h.own.2 with ⟨rfl, rfl⟩ | ⟨g, cap, cur, rfl, _, _, hnc, _⟩
    · simp [Builtin.append_, run_underlying ht, sizeOf, typeInfo, hi, Builtin.lenOf, Builtin.firstCells]
    · simp [Builtin.append_, run_underlying ht, sizeOf, typeInfo, hi, Builtin.lenOf, Builtin.firstCells, hnc, storeCells]
  unfold Oper.wp execOp
  simp only [ho, resolve, invoke, builtin, Sem.run_bind, Sem.run_pure, Result.andThen_ok, List.map_toArray, List.map_cons, List.map_nil, hs, hx, hr]
  exact k
end Go.Proofs.Ytleoljnofdajfaa.A3

namespace Go.Proofs.Ytleoljnofdajfaa.AdS
open Go.RowKit Lb Bk InA Wd RuK RuI RuU RuA RuG RuC RuP RuW AdA AdI
set_option linter.unusedSimpArgs false
set_option linter.unusedVariables false

theorem tail_any (rs : List Ru) (hf : ∀ i, i < rs.length → Is (at_ rs i)) (x : Ru) (hx : Is x) (hl : rs.length ≤ 1048576) (k : Nat) (hk : pl rs x.id = k) (w : World) (v : Value) {base : Nat} (ho : Own w base v (rs.take k ++ [x] ++ rs.drop k)) :
    Calls Try.prog 26 #[v] w fun e w' => e = .returned (.bool (goodB (insR rs x))) ∧ Below w.heap.size w w' := by
  have e : rs.take k ++ [x] ++ rs.drop k = insR rs x := by unfold insR; rw [hk]
  rw [e] at ho
  obtain ⟨a', c', rfl, hr', -⟩ := ho.slice
  exact good_any a' c' (insR rs x) w hr' (ins_all hf hx) (by rw [ins_len]; unfold maxLen; omega)
theorem cell6 {w : World} {g : Nat} {x : Ru} (h : Blk w g 37 #[.int .i64 x.id, .string x.nm, .string x.cl, .int .i64 x.bo, .bool x.wo, .int .i64 x.ca]) : w.cell? ⟨g, 0, none⟩ = some (.int .i64 x.id) ∧ w.cell? ⟨g, 1, none⟩ = some (.string x.nm) ∧ w.cell? ⟨g, 2, none⟩ = some (.string x.cl) ∧ w.cell? ⟨g, 3, none⟩ = some (.int .i64 x.bo) ∧ w.cell? ⟨g, 4, none⟩ = some (.bool x.wo) ∧ w.cell? ⟨g, 5, none⟩ = some (.int .i64 x.ca) := (blk_cells h).1
theorem own_some {W wF : World} {v : Value} {rs : List Ru} {x : Ru} {base n k m : Nat} (h : A3.G3 W 37 6 wF v (0 + k + 1 + m) (([] ++ cells (rs.take k) ++ cells [x]) ++ cells (rs.drop k))) (hb : base ≤ W.heap.size) (hn : rs.length = n) (hk : k ≤ n) (hm : m = n - k) : Own wF base v (rs.take k ++ [x] ++ rs.drop k) := by
  have h1 := h.own
  have hl : (rs.take k ++ [x] ++ rs.drop k).length = 0 + k + 1 + m := by simp only [List.length_append, List.length_take, List.length_drop, List.length_cons, List.length_nil]; omega
  have h2 : Own wF W.heap.size v (rs.take k ++ [x] ++ rs.drop k) := by
    unfold Own
    rw [hl, cells_cat, cells_cat]
    rwa [List.nil_append] at h1
  exact h2.rebase hb
theorem own_nil {W wF : World} {v : Value} {rs : List Ru} {x : Ru} {base n k : Nat} (h : A3.G3 W 37 6 wF v (0 + 1) ([] ++ cells [x])) (hb : base ≤ W.heap.size) (hn : rs.length = n) (hk : k ≤ n) (h0 : n = 0 := by rfl) : Own wF base v (rs.take k ++ [x] ++ rs.drop k) := by
  subst h0
  obtain rfl : rs = [] := List.eq_nil_of_length_eq_zero hn
  have h2 : Own wF W.heap.size v [x] := h.own
  have h3 := h2.rebase hb
  simpa using h3

set_option maxRecDepth 20000 in
set_option maxHeartbeats 8000000 in
theorem spec_any (rs : List Ru) (hf : ∀ i, i < rs.length → Is (at_ rs i)) (hl : rs.length ≤ 1048576) (x : Ru) (hx : Is x) (a : Option Addr) (cap : Nat) (w : World) (hc : rs.length ≤ cap) (hr : Row w a rs) :
    Calls Try.prog 44 #[.slice a rs.length cap, .agg #[.int .i64 x.id, .string x.nm, .string x.cl, .int .i64 x.bo, .bool x.wo, .int .i64 x.ca]] w (LPost w (adL rs x) (adB rs x)) := by
  obtain ⟨t0, hi0, hz0, hz1, hz2⟩ := info_parts info
  have H := Lib.hid hr
  have HF := Lib.hid hf
  have HX0 := Lib.hid hx
  have HB := Lib.hid ((Below.refl w.heap.size w).alloc (Nat.le_refl _) (.cells #[.int .i64 x.id, .string x.nm, .string x.cl, .int .i64 x.bo, .bool x.wo, .int .i64 x.ca] 37))
  have HK := Lib.hid (Blk.new w 37 #[.int .i64 x.id, .string x.nm, .string x.cl, .int .i64 x.bo, .bool x.wo, .int .i64 x.ca])
  have hml : rs.length ≤ maxLen := by unfold maxLen; omega
  obtain ⟨g, hg⟩ : ∃ g, goodB rs = g := ⟨_, rfl⟩
  have c1 := Lib.hid (fun w hr => hg ▸ good_any a cap rs w hr hf hml)
  have HG := Lib.hid hg
  obtain ⟨ok, hok⟩ : ∃ ok, adB rs x = ok := ⟨_, rfl⟩
  obtain ⟨zs, hzs⟩ : ∃ zs, adL rs x = zs := ⟨_, rfl⟩
  have HO := Lib.hid hok
  have HZ := Lib.hid hzs
  rw [hok, hzs]
  obtain ⟨n, hn⟩ : ∃ n, rs.length = n := ⟨_, rfl⟩
  have HN := Lib.hid hn
  rw [hn] at hl hml hc c1 ⊢
  clear hr hg hf hx hok hzs hn
  go_enter Try.func44, Try.ntmps44
  go_wp2_with fail
  refine (c1.out _ (H.out.later ((Below.refl w.heap.size w).alloc (Nat.le_refl _) _))).mono ?_
  rintro e w1 ⟨rfl, hb⟩
  have HB1 := Lib.hid (HB.out.trans (hb.mono HB.out.size))
  have HK1 := Lib.hid (HK.out.later hb)
  have H1 := Lib.hid (H.out.later HB1.out)
  clear hb HB HK
  obtain ⟨⟨p0, p1, p2, p3, p4, p5⟩, -⟩ := blk_cells HK1.out
  have hsz := HB1.out.size
  cases g with
  | false =>
    have h1 : ok = false := by rw [← HO.out]; unfold adB; rw [HG.out]; rfl
    have h2 : zs = [] := by rw [← HZ.out]; unfold adL; rw [HO.out, h1]; rfl
    subst h1 h2
    go_wp2
    go_ret2
    exact ⟨_, rfl, own_none w1 w.heap.size hsz, HB1.out.alloc hsz _⟩
  | true =>
    obtain ⟨k, hk⟩ : ∃ k, pl rs x.id = k := ⟨_, rfl⟩
    have HP := Lib.hid hk
    have HPl := Lib.hid (show Plc rs x.id k from hk ▸ plc_pl (good_asc HG.out) x.id)
    have hkn : k ≤ n := by rw [← hk, ← HN.out]; exact pl_le rs x.id
    clear hk
    go_upto_region 3 with (fail)
    go_wp2
    go_loopg [6] k (fun gk s wr => ∃ j q : Nat, j ≤ k ∧ gk = k - j ∧ s = .int .i64 j ∧ wr = w1.drewN q)
    case atStart => exact ⟨0, 0, Nat.zero_le _, rfl, rfl, rfl⟩
    case round =>
      obtain ⟨j, q, hj, hgk, rfl, rfl⟩ := hrel
      by_cases hlt : j < k
      · obtain ⟨b, off, rfl, c0, -⟩ := H1.out.cells (i := j) (by rw [HN.out]; omega)
        obtain ⟨z, hz⟩ : ∃ z, (at_ rs j).id = z := ⟨_, rfl⟩
        have hzx : z < x.id := by rw [← hz]; exact HPl.out.2.1 j hlt
        rw [hz] at c0
        have d1 : decide (z < x.id) = true := decide_eq_true hzx
        have hjn : j < n := by omega
        clear hz hzx
        go_upto_region 4 with (fail)
        go_region
        go_wp2
        go_roundg (k - (j + 1))
        case measure => omega
        case rel => exact ⟨j + 1, _, by omega, rfl, by go_num, rfl⟩
      · obtain rfl : k = j := by omega
        clear hlt hj hgk
        by_cases hlt : k < n
        · obtain ⟨b, off, rfl, c0, -⟩ := H1.out.cells (i := k) (by rw [HN.out]; omega)
          obtain ⟨z, hz⟩ : ∃ z, (at_ rs k).id = z := ⟨_, rfl⟩
          have hzx : ¬ z < x.id := by rw [← hz]; exact Int.not_lt.2 (HPl.out.2.2 k (Nat.le_refl _) (by rw [HN.out]; exact hlt))
          rw [hz] at c0
          have d1 : decide (z < x.id) = false := decide_eq_false hzx
          clear hz hzx
          go_upto_region 4 with (fail)
          go_region
          go_upto_region 6 with (fail)
          have HBq := Lib.hid (show Below w.heap.size w (w1.drewN (q + 1)) from Bk.below_drewN HB1.out (q + 1))
          have HKq := Lib.hid (show Blk (w1.drewN (q + 1)) w.heap.size 37 #[.int .i64 x.id, .string x.nm, .string x.cl, .int .i64 x.bo, .bool x.wo, .int .i64 x.ca] from HK1.out.drewN (q + 1))
          have HRq := Lib.hid (show RuK.Row (w1.drewN (q + 1)) (some ⟨b, off, none⟩) rs from H1.out.later (Bk.below_drewN (Below.refl _ _) (q + 1)))
          clear p0 p1 p2 p3 p4 p5 c0
          generalize w1.drewN (q + 1) = wq at *
          obtain ⟨⟨p0, p1, p2, p3, p4, p5⟩, -⟩ := blk_cells HKq.out
          have hkc : k ≤ cap := by omega
          have hTl : (RuK.cells (rs.take k)).length = k * 6 := by rw [cells_len, List.length_take, HN.out, Nat.min_eq_left hkn]
          have hDl : (RuK.cells (rs.drop k)).length = (n - k) * 6 := by rw [cells_len, List.length_drop, HN.out]
          refine wp_region_noPanic ?_
          refine wp_region_held_drew (S := (fun Wx : World => Wx.cell? ⟨w.heap.size, 0, none⟩ = some (.int .i64 x.id) ∧ Wx.cell? ⟨w.heap.size, 1, none⟩ = some (.string x.nm) ∧ Wx.cell? ⟨w.heap.size, 2, none⟩ = some (.string x.cl) ∧ Wx.cell? ⟨w.heap.size, 3, none⟩ = some (.int .i64 x.bo) ∧ Wx.cell? ⟨w.heap.size, 4, none⟩ = some (.bool x.wo) ∧ Wx.cell? ⟨w.heap.size, 5, none⟩ = some (.int .i64 x.ca))) (by kernel_rfl) ⟨p0, p1, p2, p3, p4, p5⟩ (fun hHeld => ?_)
          have hne : ¬ (cap = k) := by omega
          have HTk := Lib.hid (fun W' (hW : Below wq.heap.size wq W') => ((HRq.out.take k).later hW).news)
          have HDr := Lib.hid (fun W' (hW : Below wq.heap.size wq W') => ((Row.drop HRq.out k).later hW).news)
          refine wpAnyH_take (i := 1) (oi := _) (v := ?_) rfl (by kernel_rfl) (by kernel_rfl) (by kernel_rfl) (fun _ _ _ h => h) (Or.inl ⟨by rfl, ?_⟩) (by assumption) ?_; rotate_left; focus (intro W hSw; (try dsimp only at hSw); go_simp; (first | done | with_reducible rfl))
          (try simp only [List.getElem_toArray, List.getElem_cons_succ, List.getElem_cons_zero, Act.put, List.setIfInBounds_toArray, List.set_cons_zero, List.set_cons_succ])
          refine wpAnyH_take (i := 2) (oi := _) (v := ?_) rfl (by kernel_rfl) (by kernel_rfl) (by kernel_rfl) (fun _ _ _ h => h) (Or.inl ⟨by rfl, ?_⟩) (by assumption) ?_; rotate_left; focus (intro W hSw; (try dsimp only at hSw); go_simp; (first | done | with_reducible rfl))
          (try simp only [List.getElem_toArray, List.getElem_cons_succ, List.getElem_cons_zero, Act.put, List.setIfInBounds_toArray, List.set_cons_zero, List.set_cons_succ])
          refine wpAnyH_take (i := 3) (oi := _) (v := ?_) rfl (by kernel_rfl) (by kernel_rfl) (by kernel_rfl) (fun _ _ _ h => h) (Or.inl ⟨by rfl, ?_⟩) (by assumption) ?_; rotate_left; focus (intro W hSw; (try dsimp only at hSw); go_simp; (first | done | with_reducible rfl))
          (try simp only [List.getElem_toArray, List.getElem_cons_succ, List.getElem_cons_zero, Act.put, List.setIfInBounds_toArray, List.set_cons_zero, List.set_cons_succ])
          refine wpAnyH_take (i := 5) (oi := _) (v := ?_) rfl (by kernel_rfl) (by kernel_rfl) (by kernel_rfl) (fun _ _ _ h => h) (Or.inl ⟨by rfl, ?_⟩) (by assumption) ?_; rotate_left; focus (intro W hSw; (try dsimp only at hSw); go_simp; (first | done | with_reducible rfl))
          (try simp only [List.getElem_toArray, List.getElem_cons_succ, List.getElem_cons_zero, Act.put, List.setIfInBounds_toArray, List.set_cons_zero, List.set_cons_succ])
          refine wpAnyH_take (i := 8) (oi := _) (v := ?_) rfl (by kernel_rfl) (by kernel_rfl) (by kernel_rfl) (fun _ _ _ h => h) (Or.inl ⟨by rfl, ?_⟩) (by assumption) ?_; rotate_left; focus (intro W hSw; (try dsimp only at hSw); go_simp; (first | done | with_reducible rfl))
          (try simp only [List.getElem_toArray, List.getElem_cons_succ, List.getElem_cons_zero, Act.put, List.setIfInBounds_toArray, List.set_cons_zero, List.set_cons_succ])
          refine wpAnyH_take (i := 9) (oi := _) (v := ?_) rfl (by kernel_rfl) (by kernel_rfl) (by kernel_rfl) (fun _ _ _ h => h) (Or.inl ⟨by rfl, ?_⟩) (by assumption) ?_; rotate_left; focus (intro W hSw; (try dsimp only at hSw); go_simp; (first | done | with_reducible rfl))
          (try simp only [List.getElem_toArray, List.getElem_cons_succ, List.getElem_cons_zero, Act.put, List.setIfInBounds_toArray, List.set_cons_zero, List.set_cons_succ])
          refine wpAnyH_take (i := 10) (oi := _) (v := ?_) rfl (by kernel_rfl) (by kernel_rfl) (by kernel_rfl) (fun _ _ _ h => h) (Or.inl ⟨by rfl, ?_⟩) (by assumption) ?_; rotate_left; focus (intro W hSw; (try dsimp only at hSw); go_simp; (first | done | with_reducible rfl))
          (try simp only [List.getElem_toArray, List.getElem_cons_succ, List.getElem_cons_zero, Act.put, List.setIfInBounds_toArray, List.set_cons_zero, List.set_cons_succ])
          refine wpAnyH_ready (rs := [0, 6]) (by kernel_rfl) (by simp) ?_
          refine AllReadyH.cons (o := _) rfl (fun K hK => ?_) (AllReadyH.cons (o := _) rfl (fun K hK => ?_) (AllReadyH.nil))
          · go_simp
            have HG0 := Lib.hid (A3.G3.start wq 37 6)
            (try simp only [Act.put, List.setIfInBounds_toArray, List.set_cons_zero, List.set_cons_succ])
            refine hK.out _ _ (cell6 (HKq.out.later (HG0.out.b))) (fun _ => ?_)
            clear hK K hHeld
            refine wpAnyH_ready (rs := [4, 6]) (by kernel_rfl) (by simp) ?_
            refine AllReadyH.cons (o := _) rfl (fun K hK => ?_) (AllReadyH.cons (o := _) rfl (fun K hK => ?_) (AllReadyH.nil))
            · skip
              rw [if_pos (by rfl)]
              refine HG0.out.wp (.tmp 28) (.tmp 31) 25 rfl Try.underlying25 t0 hi0 (.agg #[.int .i64 no.id, .string no.nm, .string no.cl, .int .i64 no.bo, .bool no.wo, .int .i64 no.ca]) hz0 64 hz1 hz2 rfl (by decide) (by rfl) (⟨b, off, none⟩) (k) (_) (RuK.cells (rs.take k)) (by (try simp only [Act.eval, Act.put]); rfl) (hTl) (HTk.out _ HG0.out.b) (RuK.cells_one _) (by unfold maxLen; omega) (by omega) ?_
              intro v1 w1 hg hgr
              have HG1 := Lib.hid hg
              have HR1 := Lib.hid hgr
              clear hg hgr
              (try simp only [Act.put, List.setIfInBounds_toArray, List.set_cons_zero, List.set_cons_succ])
              refine hK.out _ _ (cell6 (HKq.out.later (HG1.out.b))) (fun _ => ?_)
              clear hK K
              refine wpAnyH_ready (rs := [6]) (by kernel_rfl) (by simp) ?_
              refine AllReadyH.cons (o := _) rfl (fun K hK => ?_) (AllReadyH.nil)
              go_simp
              have HX := Lib.hid (Blk.new w1 37 (RuK.cells [x]).toArray)
              have HGa := Lib.hid (HG1.out.alloc (.cells (RuK.cells [x]).toArray 37))
              (try simp only [Act.put, List.setIfInBounds_toArray, List.set_cons_zero, List.set_cons_succ])
              refine hK.out _ _ (cell6 (HKq.out.later (HGa.out.b))) (fun _ => ?_)
              clear hK K
              refine wpAnyH_ready (rs := [7]) (by kernel_rfl) (by simp) ?_
              refine AllReadyH.cons (o := _) rfl (fun K hK => ?_) (AllReadyH.nil)
              rw [if_pos (by rfl)]
              refine HGa.out.wp (.tmp 32) (.tmp 34) 25 rfl Try.underlying25 t0 hi0 (.agg #[.int .i64 no.id, .string no.nm, .string no.cl, .int .i64 no.bo, .bool no.wo, .int .i64 no.ca]) hz0 64 hz1 hz2 rfl (by decide) (by rfl) (⟨_, 0, none⟩) (1) (1) (RuK.cells [x]) (by (try simp only [Act.eval, Act.put]); rfl) (rfl) (A3.blk_news HX.out) (RuK.cells_one [x]) (by unfold maxLen; omega) (by omega) ?_
              intro v2 w2 hg hgr
              have HG2 := Lib.hid hg
              have HR2 := Lib.hid hgr
              clear hg hgr
              (try simp only [Act.put, List.setIfInBounds_toArray, List.set_cons_zero, List.set_cons_succ])
              refine hK.out _ _ (cell6 (HKq.out.later (HG2.out.b))) (fun _ => ?_)
              clear hK K
              refine wpAnyH_ready (rs := [11]) (by kernel_rfl) (by simp) ?_
              refine AllReadyH.cons (o := _) rfl (fun K hK => ?_) (AllReadyH.nil)
              rw [if_pos (by rfl)]
              refine HG2.out.wp (.tmp 35) (.tmp 38) 25 rfl Try.underlying25 t0 hi0 (.agg #[.int .i64 no.id, .string no.nm, .string no.cl, .int .i64 no.bo, .bool no.wo, .int .i64 no.ca]) hz0 64 hz1 hz2 rfl (by decide) (by rfl) (⟨b, off + k * 6, none⟩) (n - k) (_) (RuK.cells (rs.drop k)) (by (try simp only [Act.eval, Act.put]); rfl) (hDl) (HDr.out _ HG2.out.b) (RuK.cells_one _) (by unfold maxLen; omega) (by omega) ?_
              intro v3 w3 hg hgr
              have HG3 := Lib.hid hg
              have HR3 := Lib.hid hgr
              clear hg hgr
              (try simp only [Act.put, List.setIfInBounds_toArray, List.set_cons_zero, List.set_cons_succ])
              refine hK.out _ _ (cell6 (HKq.out.later (HG3.out.b))) (fun _ => ?_)
              clear hK K
              refine wpAnyH_take (i := 12) (oi := _) (v := ?_) rfl (by kernel_rfl) (by kernel_rfl) (by kernel_rfl) (fun _ _ _ h => h) (Or.inl ⟨by rfl, ?_⟩) (by assumption) ?_; rotate_left; focus (intro W hSw; (try dsimp only at hSw); go_simp; (first | done | with_reducible rfl))
              (try simp only [List.getElem_toArray, List.getElem_cons_succ, List.getElem_cons_zero, Act.put, List.setIfInBounds_toArray, List.set_cons_zero, List.set_cons_succ])
              refine wpAnyH_done (by kernel_rfl) ?_ _
              refine NoPanic.normal ?_
              (try simp only [List.getElem_toArray, List.getElem_cons_succ, List.getElem_cons_zero, Act.put, List.setIfInBounds_toArray, List.set_cons_zero, List.set_cons_succ])
              go_wp2_with fail
              have HB3 := Lib.hid (show Below w.heap.size w w3 from HBq.out.trans (HG3.out.b.mono HBq.out.size))
              have HO3 := Lib.hid (show Own w3 w.heap.size v3 (rs.take k ++ [x] ++ rs.drop k) from own_some HG3.out HBq.out.size HN.out hkn (by omega))
              refine (tail_any rs HF.out x HX0.out (by rw [HN.out]; exact hl) k HP.out w3 v3 HO3.out).mono ?_
              rintro e w5 ⟨rfl, hb⟩
              have HB5 := Lib.hid (HB3.out.trans (hb.mono HB3.out.size))
              have HO5 := Lib.hid (HO3.out.below hb)
              clear hb
              obtain ⟨g2, hg2⟩ : ∃ g, goodB (insR rs x) = g := ⟨_, rfl⟩
              have HG2x := Lib.hid hg2
              rw [hg2]
              clear hg2
              cases g2 with
              | false =>
                have h1 : ok = false := by rw [← HO.out]; unfold adB; rw [HG2x.out, Bool.and_false]
                have h2 : zs = [] := by rw [← HZ.out]; unfold adL; rw [HO.out, h1]; rfl
                subst h1 h2
                go_wp2
                go_ret2
                exact ⟨_, rfl, own_none w5 w.heap.size HB5.out.size, HB5.out.alloc HB5.out.size _⟩
              | true =>
                have h1 : ok = true := by rw [← HO.out]; unfold adB; rw [HG.out, HG2x.out]; rfl
                have h2 : insR rs x = zs := by rw [← HZ.out]; unfold adL; rw [HO.out, h1]; rfl
                have HO6 := Lib.hid (show Own w5 w.heap.size v3 zs from by rw [← h2]; unfold insR; rw [HP.out]; exact HO5.out)
                subst h1
                clear h2
                go_wp2
                go_ret2
                exact ⟨_, rfl, HO6.out, HB5.out⟩
            · go_simp
              have HX := Lib.hid (show Blk ((wq.drew.alloc (.cells #[] 37)).alloc (.cells (RuK.cells [x]).toArray 37)) (wq.heap.size + 1) 37 (RuK.cells [x]).toArray from Blk.at_ (by simp))
              have HGa := Lib.hid (HG0.out.alloc (.cells (RuK.cells [x]).toArray 37))
              (try simp only [Act.put, List.setIfInBounds_toArray, List.set_cons_zero, List.set_cons_succ])
              refine hK.out _ _ (cell6 (HKq.out.later (HGa.out.b))) (fun _ => ?_)
              clear hK K
              refine wpAnyH_ready (rs := [4]) (by kernel_rfl) (by simp) ?_
              refine AllReadyH.cons (o := _) rfl (fun K hK => ?_) (AllReadyH.nil)
              rw [if_pos (by rfl)]
              refine HGa.out.wp (.tmp 28) (.tmp 31) 25 rfl Try.underlying25 t0 hi0 (.agg #[.int .i64 no.id, .string no.nm, .string no.cl, .int .i64 no.bo, .bool no.wo, .int .i64 no.ca]) hz0 64 hz1 hz2 rfl (by decide) (by rfl) (⟨b, off, none⟩) (k) (_) (RuK.cells (rs.take k)) (by (try simp only [Act.eval, Act.put]); rfl) (hTl) (HTk.out _ HGa.out.b) (RuK.cells_one _) (by unfold maxLen; omega) (by omega) ?_
              intro v1 w1 hg hgr
              have HG1 := Lib.hid hg
              have HR1 := Lib.hid hgr
              clear hg hgr
              have HX1 := Lib.hid (A3.blk_grown HX.out HR1.out (fun e => by simp [Value.ownBlock] at e))
              (try simp only [Act.put, List.setIfInBounds_toArray, List.set_cons_zero, List.set_cons_succ])
              refine hK.out _ _ (cell6 (HKq.out.later (HG1.out.b))) (fun _ => ?_)
              clear hK K
              refine wpAnyH_ready (rs := [7]) (by kernel_rfl) (by simp) ?_
              refine AllReadyH.cons (o := _) rfl (fun K hK => ?_) (AllReadyH.nil)
              rw [if_pos (by rfl)]
              refine HG1.out.wp (.tmp 32) (.tmp 34) 25 rfl Try.underlying25 t0 hi0 (.agg #[.int .i64 no.id, .string no.nm, .string no.cl, .int .i64 no.bo, .bool no.wo, .int .i64 no.ca]) hz0 64 hz1 hz2 rfl (by decide) (by rfl) (⟨_, 0, none⟩) (1) (1) (RuK.cells [x]) (by (try simp only [Act.eval, Act.put]); rfl) (rfl) (A3.blk_news HX1.out) (RuK.cells_one [x]) (by unfold maxLen; omega) (by omega) ?_
              intro v2 w2 hg hgr
              have HG2 := Lib.hid hg
              have HR2 := Lib.hid hgr
              clear hg hgr
              (try simp only [Act.put, List.setIfInBounds_toArray, List.set_cons_zero, List.set_cons_succ])
              refine hK.out _ _ (cell6 (HKq.out.later (HG2.out.b))) (fun _ => ?_)
              clear hK K
              refine wpAnyH_ready (rs := [11]) (by kernel_rfl) (by simp) ?_
              refine AllReadyH.cons (o := _) rfl (fun K hK => ?_) (AllReadyH.nil)
              rw [if_pos (by rfl)]
              refine HG2.out.wp (.tmp 35) (.tmp 38) 25 rfl Try.underlying25 t0 hi0 (.agg #[.int .i64 no.id, .string no.nm, .string no.cl, .int .i64 no.bo, .bool no.wo, .int .i64 no.ca]) hz0 64 hz1 hz2 rfl (by decide) (by rfl) (⟨b, off + k * 6, none⟩) (n - k) (_) (RuK.cells (rs.drop k)) (by (try simp only [Act.eval, Act.put]); rfl) (hDl) (HDr.out _ HG2.out.b) (RuK.cells_one _) (by unfold maxLen; omega) (by omega) ?_
              intro v3 w3 hg hgr
              have HG3 := Lib.hid hg
              have HR3 := Lib.hid hgr
              clear hg hgr
              (try simp only [Act.put, List.setIfInBounds_toArray, List.set_cons_zero, List.set_cons_succ])
              refine hK.out _ _ (cell6 (HKq.out.later (HG3.out.b))) (fun _ => ?_)
              clear hK K
              refine wpAnyH_take (i := 12) (oi := _) (v := ?_) rfl (by kernel_rfl) (by kernel_rfl) (by kernel_rfl) (fun _ _ _ h => h) (Or.inl ⟨by rfl, ?_⟩) (by assumption) ?_; rotate_left; focus (intro W hSw; (try dsimp only at hSw); go_simp; (first | done | with_reducible rfl))
              (try simp only [List.getElem_toArray, List.getElem_cons_succ, List.getElem_cons_zero, Act.put, List.setIfInBounds_toArray, List.set_cons_zero, List.set_cons_succ])
              refine wpAnyH_done (by kernel_rfl) ?_ _
              refine NoPanic.normal ?_
              (try simp only [List.getElem_toArray, List.getElem_cons_succ, List.getElem_cons_zero, Act.put, List.setIfInBounds_toArray, List.set_cons_zero, List.set_cons_succ])
              go_wp2_with fail
              have HB3 := Lib.hid (show Below w.heap.size w w3 from HBq.out.trans (HG3.out.b.mono HBq.out.size))
              have HO3 := Lib.hid (show Own w3 w.heap.size v3 (rs.take k ++ [x] ++ rs.drop k) from own_some HG3.out HBq.out.size HN.out hkn (by omega))
              refine (tail_any rs HF.out x HX0.out (by rw [HN.out]; exact hl) k HP.out w3 v3 HO3.out).mono ?_
              rintro e w5 ⟨rfl, hb⟩
              have HB5 := Lib.hid (HB3.out.trans (hb.mono HB3.out.size))
              have HO5 := Lib.hid (HO3.out.below hb)
              clear hb
              obtain ⟨g2, hg2⟩ : ∃ g, goodB (insR rs x) = g := ⟨_, rfl⟩
              have HG2x := Lib.hid hg2
              rw [hg2]
              clear hg2
              cases g2 with
              | false =>
                have h1 : ok = false := by rw [← HO.out]; unfold adB; rw [HG2x.out, Bool.and_false]
                have h2 : zs = [] := by rw [← HZ.out]; unfold adL; rw [HO.out, h1]; rfl
                subst h1 h2
                go_wp2
                go_ret2
                exact ⟨_, rfl, own_none w5 w.heap.size HB5.out.size, HB5.out.alloc HB5.out.size _⟩
              | true =>
                have h1 : ok = true := by rw [← HO.out]; unfold adB; rw [HG.out, HG2x.out]; rfl
                have h2 : insR rs x = zs := by rw [← HZ.out]; unfold adL; rw [HO.out, h1]; rfl
                have HO6 := Lib.hid (show Own w5 w.heap.size v3 zs from by rw [← h2]; unfold insR; rw [HP.out]; exact HO5.out)
                subst h1
                clear h2
                go_wp2
                go_ret2
                exact ⟨_, rfl, HO6.out, HB5.out⟩
          · go_simp
            have HX := Lib.hid (Blk.new wq.drew 37 (RuK.cells [x]).toArray)
            have HBx := Lib.hid ((Below.refl wq.heap.size wq).drew.alloc (Nat.le_refl _) (.cells (RuK.cells [x]).toArray 37))
            (try simp only [Act.put, List.setIfInBounds_toArray, List.set_cons_zero, List.set_cons_succ])
            refine hK.out _ _ (cell6 (HKq.out.later (HBx.out))) (fun _ => ?_)
            clear hK K hHeld
            refine wpAnyH_ready (rs := [0]) (by kernel_rfl) (by simp) ?_
            refine AllReadyH.cons (o := _) rfl (fun K hK => ?_) (AllReadyH.nil)
            go_simp
            have HG0 := Lib.hid (show A3.G3 wq 37 6 ((wq.drew.alloc (.cells (RuK.cells [x]).toArray 37)).alloc (.cells #[] 37)) (.slice (some ⟨wq.heap.size + 1, 0, none⟩) 0 0) 0 [] from A3.G3.after HBx.out (by simp))
            have HXo := Lib.hid (HX.out.alloc (.cells #[] 37))
            (try simp only [Act.put, List.setIfInBounds_toArray, List.set_cons_zero, List.set_cons_succ])
            refine hK.out _ _ (cell6 (HKq.out.later (HG0.out.b))) (fun _ => ?_)
            clear hK K
            refine wpAnyH_ready (rs := [4]) (by kernel_rfl) (by simp) ?_
            refine AllReadyH.cons (o := _) rfl (fun K hK => ?_) (AllReadyH.nil)
            rw [if_pos (by rfl)]
            refine HG0.out.wp (.tmp 28) (.tmp 31) 25 rfl Try.underlying25 t0 hi0 (.agg #[.int .i64 no.id, .string no.nm, .string no.cl, .int .i64 no.bo, .bool no.wo, .int .i64 no.ca]) hz0 64 hz1 hz2 rfl (by decide) (by rfl) (⟨b, off, none⟩) (k) (_) (RuK.cells (rs.take k)) (by (try simp only [Act.eval, Act.put]); rfl) (hTl) (HTk.out _ HG0.out.b) (RuK.cells_one _) (by unfold maxLen; omega) (by omega) ?_
            intro v1 w1 hg hgr
            have HG1 := Lib.hid hg
            have HR1 := Lib.hid hgr
            clear hg hgr
            have HX1 := Lib.hid (A3.blk_grown HXo.out HR1.out (fun e => by simp [Value.ownBlock] at e))
            (try simp only [Act.put, List.setIfInBounds_toArray, List.set_cons_zero, List.set_cons_succ])
            refine hK.out _ _ (cell6 (HKq.out.later (HG1.out.b))) (fun _ => ?_)
            clear hK K
            refine wpAnyH_ready (rs := [7]) (by kernel_rfl) (by simp) ?_
            refine AllReadyH.cons (o := _) rfl (fun K hK => ?_) (AllReadyH.nil)
            rw [if_pos (by rfl)]
            refine HG1.out.wp (.tmp 32) (.tmp 34) 25 rfl Try.underlying25 t0 hi0 (.agg #[.int .i64 no.id, .string no.nm, .string no.cl, .int .i64 no.bo, .bool no.wo, .int .i64 no.ca]) hz0 64 hz1 hz2 rfl (by decide) (by rfl) (⟨_, 0, none⟩) (1) (1) (RuK.cells [x]) (by (try simp only [Act.eval, Act.put]); rfl) (rfl) (A3.blk_news HX1.out) (RuK.cells_one [x]) (by unfold maxLen; omega) (by omega) ?_
            intro v2 w2 hg hgr
            have HG2 := Lib.hid hg
            have HR2 := Lib.hid hgr
            clear hg hgr
            (try simp only [Act.put, List.setIfInBounds_toArray, List.set_cons_zero, List.set_cons_succ])
            refine hK.out _ _ (cell6 (HKq.out.later (HG2.out.b))) (fun _ => ?_)
            clear hK K
            refine wpAnyH_ready (rs := [11]) (by kernel_rfl) (by simp) ?_
            refine AllReadyH.cons (o := _) rfl (fun K hK => ?_) (AllReadyH.nil)
            rw [if_pos (by rfl)]
            refine HG2.out.wp (.tmp 35) (.tmp 38) 25 rfl Try.underlying25 t0 hi0 (.agg #[.int .i64 no.id, .string no.nm, .string no.cl, .int .i64 no.bo, .bool no.wo, .int .i64 no.ca]) hz0 64 hz1 hz2 rfl (by decide) (by rfl) (⟨b, off + k * 6, none⟩) (n - k) (_) (RuK.cells (rs.drop k)) (by (try simp only [Act.eval, Act.put]); rfl) (hDl) (HDr.out _ HG2.out.b) (RuK.cells_one _) (by unfold maxLen; omega) (by omega) ?_
            intro v3 w3 hg hgr
            have HG3 := Lib.hid hg
            have HR3 := Lib.hid hgr
            clear hg hgr
            (try simp only [Act.put, List.setIfInBounds_toArray, List.set_cons_zero, List.set_cons_succ])
            refine hK.out _ _ (cell6 (HKq.out.later (HG3.out.b))) (fun _ => ?_)
            clear hK K
            refine wpAnyH_take (i := 12) (oi := _) (v := ?_) rfl (by kernel_rfl) (by kernel_rfl) (by kernel_rfl) (fun _ _ _ h => h) (Or.inl ⟨by rfl, ?_⟩) (by assumption) ?_; rotate_left; focus (intro W hSw; (try dsimp only at hSw); go_simp; (first | done | with_reducible rfl))
            (try simp only [List.getElem_toArray, List.getElem_cons_succ, List.getElem_cons_zero, Act.put, List.setIfInBounds_toArray, List.set_cons_zero, List.set_cons_succ])
            refine wpAnyH_done (by kernel_rfl) ?_ _
            refine NoPanic.normal ?_
            (try simp only [List.getElem_toArray, List.getElem_cons_succ, List.getElem_cons_zero, Act.put, List.setIfInBounds_toArray, List.set_cons_zero, List.set_cons_succ])
            go_wp2_with fail
            have HB3 := Lib.hid (show Below w.heap.size w w3 from HBq.out.trans (HG3.out.b.mono HBq.out.size))
            have HO3 := Lib.hid (show Own w3 w.heap.size v3 (rs.take k ++ [x] ++ rs.drop k) from own_some HG3.out HBq.out.size HN.out hkn (by omega))
            refine (tail_any rs HF.out x HX0.out (by rw [HN.out]; exact hl) k HP.out w3 v3 HO3.out).mono ?_
            rintro e w5 ⟨rfl, hb⟩
            have HB5 := Lib.hid (HB3.out.trans (hb.mono HB3.out.size))
            have HO5 := Lib.hid (HO3.out.below hb)
            clear hb
            obtain ⟨g2, hg2⟩ : ∃ g, goodB (insR rs x) = g := ⟨_, rfl⟩
            have HG2x := Lib.hid hg2
            rw [hg2]
            clear hg2
            cases g2 with
            | false =>
              have h1 : ok = false := by rw [← HO.out]; unfold adB; rw [HG2x.out, Bool.and_false]
              have h2 : zs = [] := by rw [← HZ.out]; unfold adL; rw [HO.out, h1]; rfl
              subst h1 h2
              go_wp2
              go_ret2
              exact ⟨_, rfl, own_none w5 w.heap.size HB5.out.size, HB5.out.alloc HB5.out.size _⟩
            | true =>
              have h1 : ok = true := by rw [← HO.out]; unfold adB; rw [HG.out, HG2x.out]; rfl
              have h2 : insR rs x = zs := by rw [← HZ.out]; unfold adL; rw [HO.out, h1]; rfl
              have HO6 := Lib.hid (show Own w5 w.heap.size v3 zs from by rw [← h2]; unfold insR; rw [HP.out]; exact HO5.out)
              subst h1
              clear h2
              go_wp2
              go_ret2
              exact ⟨_, rfl, HO6.out, HB5.out⟩
        · have hge : n ≤ k := by omega
          cases a with
          | none =>
            have hn0 : n = 0 := by
              rcases H.out with h | ⟨b, off, e, _⟩
              · rw [← HN.out]; exact h
              · cases e
            have hk0 : k = 0 := by omega
            go_upto_region 4 with (fail)
            go_region
            go_upto_region 6 with (fail)
            have HBq := Lib.hid (show Below w.heap.size w ((w1.drewN q).drew) from Bk.below_drewN HB1.out (q + 1))
            have HKq := Lib.hid (show Blk ((w1.drewN q).drew) w.heap.size 37 #[.int .i64 x.id, .string x.nm, .string x.cl, .int .i64 x.bo, .bool x.wo, .int .i64 x.ca] from HK1.out.drewN (q + 1))
            have HRq := Lib.hid (show RuK.Row ((w1.drewN q).drew) none rs from H1.out.later (Bk.below_drewN (Below.refl _ _) (q + 1)))
            clear p0 p1 p2 p3 p4 p5 
            generalize (w1.drewN q).drew = wq at *
            obtain ⟨⟨p0, p1, p2, p3, p4, p5⟩, -⟩ := blk_cells HKq.out
            have hkc : k ≤ cap := by omega
            have hTl : (RuK.cells (rs.take k)).length = k * 6 := by rw [cells_len, List.length_take, HN.out, Nat.min_eq_left hkn]
            have hDl : (RuK.cells (rs.drop k)).length = (n - k) * 6 := by rw [cells_len, List.length_drop, HN.out]
            refine wp_region_noPanic ?_
            refine wp_region_held_drew (S := (fun Wx : World => Wx.cell? ⟨w.heap.size, 0, none⟩ = some (.int .i64 x.id) ∧ Wx.cell? ⟨w.heap.size, 1, none⟩ = some (.string x.nm) ∧ Wx.cell? ⟨w.heap.size, 2, none⟩ = some (.string x.cl) ∧ Wx.cell? ⟨w.heap.size, 3, none⟩ = some (.int .i64 x.bo) ∧ Wx.cell? ⟨w.heap.size, 4, none⟩ = some (.bool x.wo) ∧ Wx.cell? ⟨w.heap.size, 5, none⟩ = some (.int .i64 x.ca))) (by kernel_rfl) ⟨p0, p1, p2, p3, p4, p5⟩ (fun hHeld => ?_)
            refine wpAnyH_take (i := 1) (oi := _) (v := ?_) rfl (by kernel_rfl) (by kernel_rfl) (by kernel_rfl) (fun _ _ _ h => h) (Or.inl ⟨by rfl, ?_⟩) (by assumption) ?_; rotate_left; focus (intro W hSw; (try dsimp only at hSw); go_simp; (first | done | with_reducible rfl))
            (try simp only [List.getElem_toArray, List.getElem_cons_succ, List.getElem_cons_zero, Act.put, List.setIfInBounds_toArray, List.set_cons_zero, List.set_cons_succ])
            refine wpAnyH_take (i := 2) (oi := _) (v := ?_) rfl (by kernel_rfl) (by kernel_rfl) (by kernel_rfl) (fun _ _ _ h => h) (Or.inl ⟨by rfl, ?_⟩) (by assumption) ?_; rotate_left; focus (intro W hSw; (try dsimp only at hSw); go_simp; (first | done | with_reducible rfl))
            (try simp only [List.getElem_toArray, List.getElem_cons_succ, List.getElem_cons_zero, Act.put, List.setIfInBounds_toArray, List.set_cons_zero, List.set_cons_succ])
            refine wpAnyH_take (i := 3) (oi := _) (v := ?_) rfl (by kernel_rfl) (by kernel_rfl) (by kernel_rfl) (fun _ _ _ h => h) (Or.inl ⟨by rfl, ?_⟩) (by assumption) ?_; rotate_left; focus (intro W hSw; (try dsimp only at hSw); go_simp; (first | done | with_reducible rfl))
            (try simp only [List.getElem_toArray, List.getElem_cons_succ, List.getElem_cons_zero, Act.put, List.setIfInBounds_toArray, List.set_cons_zero, List.set_cons_succ])
            refine wpAnyH_take (i := 5) (oi := _) (v := ?_) rfl (by kernel_rfl) (by kernel_rfl) (by kernel_rfl) (fun _ _ _ h => h) (Or.inl ⟨by rfl, ?_⟩) (by assumption) ?_; rotate_left; focus (intro W hSw; (try dsimp only at hSw); go_simp; (first | done | with_reducible rfl))
            (try simp only [List.getElem_toArray, List.getElem_cons_succ, List.getElem_cons_zero, Act.put, List.setIfInBounds_toArray, List.set_cons_zero, List.set_cons_succ])
            refine wpAnyH_take (i := 8) (oi := _) (v := ?_) rfl (by kernel_rfl) (by kernel_rfl) (by kernel_rfl) (fun _ _ _ h => h) (Or.inl ⟨by rfl, ?_⟩) (by assumption) ?_; rotate_left; focus (intro W hSw; (try dsimp only at hSw); go_simp; (first | done | with_reducible rfl))
            (try simp only [List.getElem_toArray, List.getElem_cons_succ, List.getElem_cons_zero, Act.put, List.setIfInBounds_toArray, List.set_cons_zero, List.set_cons_succ])
            refine wpAnyH_take (i := 9) (oi := _) (v := ?_) rfl (by kernel_rfl) (by kernel_rfl) (by kernel_rfl) (fun _ _ _ h => h) (Or.inl ⟨by rfl, ?_⟩) (by assumption) ?_; rotate_left; focus (intro W hSw; (try dsimp only at hSw); go_simp; (first | done | with_reducible rfl))
            (try simp only [List.getElem_toArray, List.getElem_cons_succ, List.getElem_cons_zero, Act.put, List.setIfInBounds_toArray, List.set_cons_zero, List.set_cons_succ])
            refine wpAnyH_take (i := 10) (oi := _) (v := ?_) rfl (by kernel_rfl) (by kernel_rfl) (by kernel_rfl) (fun _ _ _ h => h) (Or.inl ⟨by rfl, ?_⟩) (by assumption) ?_; rotate_left; focus (intro W hSw; (try dsimp only at hSw); go_simp; (first | done | with_reducible rfl))
            (try simp only [List.getElem_toArray, List.getElem_cons_succ, List.getElem_cons_zero, Act.put, List.setIfInBounds_toArray, List.set_cons_zero, List.set_cons_succ])
            refine wpAnyH_ready (rs := [0, 6]) (by kernel_rfl) (by simp) ?_
            refine AllReadyH.cons (o := _) rfl (fun K hK => ?_) (AllReadyH.cons (o := _) rfl (fun K hK => ?_) (AllReadyH.nil))
            · go_simp
              have HG0 := Lib.hid (A3.G3.start wq 37 6)
              (try simp only [Act.put, List.setIfInBounds_toArray, List.set_cons_zero, List.set_cons_succ])
              refine hK.out _ _ (cell6 (HKq.out.later (HG0.out.b))) (fun _ => ?_)
              clear hK K hHeld
              refine wpAnyH_ready (rs := [4, 6]) (by kernel_rfl) (by simp) ?_
              refine AllReadyH.cons (o := _) rfl (fun K hK => ?_) (AllReadyH.cons (o := _) rfl (fun K hK => ?_) (AllReadyH.nil))
              · skip
                rw [if_pos (by rfl)]
                refine HG0.out.wp_none (.tmp 28) (.tmp 31) 25 rfl Try.underlying25 t0 hi0 hz1 (by rfl) _ (by rfl) ?_
                (try simp only [Act.put, List.setIfInBounds_toArray, List.set_cons_zero, List.set_cons_succ])
                refine hK.out _ _ (cell6 (HKq.out.later (HG0.out.b))) (fun _ => ?_)
                clear hK K
                refine wpAnyH_ready (rs := [6]) (by kernel_rfl) (by simp) ?_
                refine AllReadyH.cons (o := _) rfl (fun K hK => ?_) (AllReadyH.nil)
                go_simp
                have HX := Lib.hid (show Blk ((wq.drew.alloc (.cells #[] 37)).alloc (.cells (RuK.cells [x]).toArray 37)) (wq.heap.size + 1) 37 (RuK.cells [x]).toArray from Blk.at_ (by simp))
                have HGa := Lib.hid (HG0.out.alloc (.cells (RuK.cells [x]).toArray 37))
                (try simp only [Act.put, List.setIfInBounds_toArray, List.set_cons_zero, List.set_cons_succ])
                refine hK.out _ _ (cell6 (HKq.out.later (HGa.out.b))) (fun _ => ?_)
                clear hK K
                refine wpAnyH_ready (rs := [7]) (by kernel_rfl) (by simp) ?_
                refine AllReadyH.cons (o := _) rfl (fun K hK => ?_) (AllReadyH.nil)
                rw [if_pos (by rfl)]
                refine HGa.out.wp (.tmp 32) (.tmp 34) 25 rfl Try.underlying25 t0 hi0 (.agg #[.int .i64 no.id, .string no.nm, .string no.cl, .int .i64 no.bo, .bool no.wo, .int .i64 no.ca]) hz0 64 hz1 hz2 rfl (by decide) (by rfl) (⟨_, 0, none⟩) (1) (1) (RuK.cells [x]) (by (try simp only [Act.eval, Act.put]); rfl) (rfl) (A3.blk_news HX.out) (RuK.cells_one [x]) (by unfold maxLen; omega) (by omega) ?_
                intro v2 w2 hg hgr
                have HG2 := Lib.hid hg
                have HR2 := Lib.hid hgr
                clear hg hgr
                (try simp only [Act.put, List.setIfInBounds_toArray, List.set_cons_zero, List.set_cons_succ])
                refine hK.out _ _ (cell6 (HKq.out.later (HG2.out.b))) (fun _ => ?_)
                clear hK K
                refine wpAnyH_ready (rs := [11]) (by kernel_rfl) (by simp) ?_
                refine AllReadyH.cons (o := _) rfl (fun K hK => ?_) (AllReadyH.nil)
                rw [if_pos (by rfl)]
                refine HG2.out.wp_none (.tmp 35) (.tmp 38) 25 rfl Try.underlying25 t0 hi0 hz1 (by rfl) _ (by rfl) ?_
                (try simp only [Act.put, List.setIfInBounds_toArray, List.set_cons_zero, List.set_cons_succ])
                refine hK.out _ _ (cell6 (HKq.out.later (HG2.out.b))) (fun _ => ?_)
                clear hK K
                refine wpAnyH_take (i := 12) (oi := _) (v := ?_) rfl (by kernel_rfl) (by kernel_rfl) (by kernel_rfl) (fun _ _ _ h => h) (Or.inl ⟨by rfl, ?_⟩) (by assumption) ?_; rotate_left; focus (intro W hSw; (try dsimp only at hSw); go_simp; (first | done | with_reducible rfl))
                (try simp only [List.getElem_toArray, List.getElem_cons_succ, List.getElem_cons_zero, Act.put, List.setIfInBounds_toArray, List.set_cons_zero, List.set_cons_succ])
                refine wpAnyH_done (by kernel_rfl) ?_ _
                refine NoPanic.normal ?_
                (try simp only [List.getElem_toArray, List.getElem_cons_succ, List.getElem_cons_zero, Act.put, List.setIfInBounds_toArray, List.set_cons_zero, List.set_cons_succ])
                go_wp2_with fail
                have HB3 := Lib.hid (show Below w.heap.size w w2 from HBq.out.trans (HG2.out.b.mono HBq.out.size))
                have HO3 := Lib.hid (show Own w2 w.heap.size v2 (rs.take k ++ [x] ++ rs.drop k) from own_nil HG2.out HBq.out.size HN.out hkn hn0)
                refine (tail_any rs HF.out x HX0.out (by rw [HN.out]; exact hl) k HP.out w2 v2 HO3.out).mono ?_
                rintro e w5 ⟨rfl, hb⟩
                have HB5 := Lib.hid (HB3.out.trans (hb.mono HB3.out.size))
                have HO5 := Lib.hid (HO3.out.below hb)
                clear hb
                obtain ⟨g2, hg2⟩ : ∃ g, goodB (insR rs x) = g := ⟨_, rfl⟩
                have HG2x := Lib.hid hg2
                rw [hg2]
                clear hg2
                cases g2 with
                | false =>
                  have h1 : ok = false := by rw [← HO.out]; unfold adB; rw [HG2x.out, Bool.and_false]
                  have h2 : zs = [] := by rw [← HZ.out]; unfold adL; rw [HO.out, h1]; rfl
                  subst h1 h2
                  go_wp2
                  go_ret2
                  exact ⟨_, rfl, own_none w5 w.heap.size HB5.out.size, HB5.out.alloc HB5.out.size _⟩
                | true =>
                  have h1 : ok = true := by rw [← HO.out]; unfold adB; rw [HG.out, HG2x.out]; rfl
                  have h2 : insR rs x = zs := by rw [← HZ.out]; unfold adL; rw [HO.out, h1]; rfl
                  have HO6 := Lib.hid (show Own w5 w.heap.size v2 zs from by rw [← h2]; unfold insR; rw [HP.out]; exact HO5.out)
                  subst h1
                  clear h2
                  go_wp2
                  go_ret2
                  exact ⟨_, rfl, HO6.out, HB5.out⟩
              · go_simp
                have HX := Lib.hid (show Blk ((wq.drew.alloc (.cells #[] 37)).alloc (.cells (RuK.cells [x]).toArray 37)) (wq.heap.size + 1) 37 (RuK.cells [x]).toArray from Blk.at_ (by simp))
                have HGa := Lib.hid (HG0.out.alloc (.cells (RuK.cells [x]).toArray 37))
                (try simp only [Act.put, List.setIfInBounds_toArray, List.set_cons_zero, List.set_cons_succ])
                refine hK.out _ _ (cell6 (HKq.out.later (HGa.out.b))) (fun _ => ?_)
                clear hK K
                refine wpAnyH_ready (rs := [4]) (by kernel_rfl) (by simp) ?_
                refine AllReadyH.cons (o := _) rfl (fun K hK => ?_) (AllReadyH.nil)
                rw [if_pos (by rfl)]
                refine HGa.out.wp_none (.tmp 28) (.tmp 31) 25 rfl Try.underlying25 t0 hi0 hz1 (by rfl) _ (by rfl) ?_
                have HX1 := HX
                (try simp only [Act.put, List.setIfInBounds_toArray, List.set_cons_zero, List.set_cons_succ])
                refine hK.out _ _ (cell6 (HKq.out.later (HGa.out.b))) (fun _ => ?_)
                clear hK K
                refine wpAnyH_ready (rs := [7]) (by kernel_rfl) (by simp) ?_
                refine AllReadyH.cons (o := _) rfl (fun K hK => ?_) (AllReadyH.nil)
                rw [if_pos (by rfl)]
                refine HGa.out.wp (.tmp 32) (.tmp 34) 25 rfl Try.underlying25 t0 hi0 (.agg #[.int .i64 no.id, .string no.nm, .string no.cl, .int .i64 no.bo, .bool no.wo, .int .i64 no.ca]) hz0 64 hz1 hz2 rfl (by decide) (by rfl) (⟨_, 0, none⟩) (1) (1) (RuK.cells [x]) (by (try simp only [Act.eval, Act.put]); rfl) (rfl) (A3.blk_news HX1.out) (RuK.cells_one [x]) (by unfold maxLen; omega) (by omega) ?_
                intro v2 w2 hg hgr
                have HG2 := Lib.hid hg
                have HR2 := Lib.hid hgr
                clear hg hgr
                (try simp only [Act.put, List.setIfInBounds_toArray, List.set_cons_zero, List.set_cons_succ])
                refine hK.out _ _ (cell6 (HKq.out.later (HG2.out.b))) (fun _ => ?_)
                clear hK K
                refine wpAnyH_ready (rs := [11]) (by kernel_rfl) (by simp) ?_
                refine AllReadyH.cons (o := _) rfl (fun K hK => ?_) (AllReadyH.nil)
                rw [if_pos (by rfl)]
                refine HG2.out.wp_none (.tmp 35) (.tmp 38) 25 rfl Try.underlying25 t0 hi0 hz1 (by rfl) _ (by rfl) ?_
                (try simp only [Act.put, List.setIfInBounds_toArray, List.set_cons_zero, List.set_cons_succ])
                refine hK.out _ _ (cell6 (HKq.out.later (HG2.out.b))) (fun _ => ?_)
                clear hK K
                refine wpAnyH_take (i := 12) (oi := _) (v := ?_) rfl (by kernel_rfl) (by kernel_rfl) (by kernel_rfl) (fun _ _ _ h => h) (Or.inl ⟨by rfl, ?_⟩) (by assumption) ?_; rotate_left; focus (intro W hSw; (try dsimp only at hSw); go_simp; (first | done | with_reducible rfl))
                (try simp only [List.getElem_toArray, List.getElem_cons_succ, List.getElem_cons_zero, Act.put, List.setIfInBounds_toArray, List.set_cons_zero, List.set_cons_succ])
                refine wpAnyH_done (by kernel_rfl) ?_ _
                refine NoPanic.normal ?_
                (try simp only [List.getElem_toArray, List.getElem_cons_succ, List.getElem_cons_zero, Act.put, List.setIfInBounds_toArray, List.set_cons_zero, List.set_cons_succ])
                go_wp2_with fail
                have HB3 := Lib.hid (show Below w.heap.size w w2 from HBq.out.trans (HG2.out.b.mono HBq.out.size))
                have HO3 := Lib.hid (show Own w2 w.heap.size v2 (rs.take k ++ [x] ++ rs.drop k) from own_nil HG2.out HBq.out.size HN.out hkn hn0)
                refine (tail_any rs HF.out x HX0.out (by rw [HN.out]; exact hl) k HP.out w2 v2 HO3.out).mono ?_
                rintro e w5 ⟨rfl, hb⟩
                have HB5 := Lib.hid (HB3.out.trans (hb.mono HB3.out.size))
                have HO5 := Lib.hid (HO3.out.below hb)
                clear hb
                obtain ⟨g2, hg2⟩ : ∃ g, goodB (insR rs x) = g := ⟨_, rfl⟩
                have HG2x := Lib.hid hg2
                rw [hg2]
                clear hg2
                cases g2 with
                | false =>
                  have h1 : ok = false := by rw [← HO.out]; unfold adB; rw [HG2x.out, Bool.and_false]
                  have h2 : zs = [] := by rw [← HZ.out]; unfold adL; rw [HO.out, h1]; rfl
                  subst h1 h2
                  go_wp2
                  go_ret2
                  exact ⟨_, rfl, own_none w5 w.heap.size HB5.out.size, HB5.out.alloc HB5.out.size _⟩
                | true =>
                  have h1 : ok = true := by rw [← HO.out]; unfold adB; rw [HG.out, HG2x.out]; rfl
                  have h2 : insR rs x = zs := by rw [← HZ.out]; unfold adL; rw [HO.out, h1]; rfl
                  have HO6 := Lib.hid (show Own w5 w.heap.size v2 zs from by rw [← h2]; unfold insR; rw [HP.out]; exact HO5.out)
                  subst h1
                  clear h2
                  go_wp2
                  go_ret2
                  exact ⟨_, rfl, HO6.out, HB5.out⟩
            · go_simp
              have HX := Lib.hid (Blk.new wq.drew 37 (RuK.cells [x]).toArray)
              have HBx := Lib.hid ((Below.refl wq.heap.size wq).drew.alloc (Nat.le_refl _) (.cells (RuK.cells [x]).toArray 37))
              (try simp only [Act.put, List.setIfInBounds_toArray, List.set_cons_zero, List.set_cons_succ])
              refine hK.out _ _ (cell6 (HKq.out.later (HBx.out))) (fun _ => ?_)
              clear hK K hHeld
              refine wpAnyH_ready (rs := [0]) (by kernel_rfl) (by simp) ?_
              refine AllReadyH.cons (o := _) rfl (fun K hK => ?_) (AllReadyH.nil)
              go_simp
              have HG0 := Lib.hid (show A3.G3 wq 37 6 ((wq.drew.alloc (.cells (RuK.cells [x]).toArray 37)).alloc (.cells #[] 37)) (.slice (some ⟨wq.heap.size + 1, 0, none⟩) 0 0) 0 [] from A3.G3.after HBx.out (by simp))
              have HXo := Lib.hid (HX.out.alloc (.cells #[] 37))
              (try simp only [Act.put, List.setIfInBounds_toArray, List.set_cons_zero, List.set_cons_succ])
              refine hK.out _ _ (cell6 (HKq.out.later (HG0.out.b))) (fun _ => ?_)
              clear hK K
              refine wpAnyH_ready (rs := [4]) (by kernel_rfl) (by simp) ?_
              refine AllReadyH.cons (o := _) rfl (fun K hK => ?_) (AllReadyH.nil)
              rw [if_pos (by rfl)]
              refine HG0.out.wp_none (.tmp 28) (.tmp 31) 25 rfl Try.underlying25 t0 hi0 hz1 (by rfl) _ (by rfl) ?_
              have HX1 := HXo
              (try simp only [Act.put, List.setIfInBounds_toArray, List.set_cons_zero, List.set_cons_succ])
              refine hK.out _ _ (cell6 (HKq.out.later (HG0.out.b))) (fun _ => ?_)
              clear hK K
              refine wpAnyH_ready (rs := [7]) (by kernel_rfl) (by simp) ?_
              refine AllReadyH.cons (o := _) rfl (fun K hK => ?_) (AllReadyH.nil)
              rw [if_pos (by rfl)]
              refine HG0.out.wp (.tmp 32) (.tmp 34) 25 rfl Try.underlying25 t0 hi0 (.agg #[.int .i64 no.id, .string no.nm, .string no.cl, .int .i64 no.bo, .bool no.wo, .int .i64 no.ca]) hz0 64 hz1 hz2 rfl (by decide) (by rfl) (⟨_, 0, none⟩) (1) (1) (RuK.cells [x]) (by (try simp only [Act.eval, Act.put]); rfl) (rfl) (A3.blk_news HX1.out) (RuK.cells_one [x]) (by unfold maxLen; omega) (by omega) ?_
              intro v2 w2 hg hgr
              have HG2 := Lib.hid hg
              have HR2 := Lib.hid hgr
              clear hg hgr
              (try simp only [Act.put, List.setIfInBounds_toArray, List.set_cons_zero, List.set_cons_succ])
              refine hK.out _ _ (cell6 (HKq.out.later (HG2.out.b))) (fun _ => ?_)
              clear hK K
              refine wpAnyH_ready (rs := [11]) (by kernel_rfl) (by simp) ?_
              refine AllReadyH.cons (o := _) rfl (fun K hK => ?_) (AllReadyH.nil)
              rw [if_pos (by rfl)]
              refine HG2.out.wp_none (.tmp 35) (.tmp 38) 25 rfl Try.underlying25 t0 hi0 hz1 (by rfl) _ (by rfl) ?_
              (try simp only [Act.put, List.setIfInBounds_toArray, List.set_cons_zero, List.set_cons_succ])
              refine hK.out _ _ (cell6 (HKq.out.later (HG2.out.b))) (fun _ => ?_)
              clear hK K
              refine wpAnyH_take (i := 12) (oi := _) (v := ?_) rfl (by kernel_rfl) (by kernel_rfl) (by kernel_rfl) (fun _ _ _ h => h) (Or.inl ⟨by rfl, ?_⟩) (by assumption) ?_; rotate_left; focus (intro W hSw; (try dsimp only at hSw); go_simp; (first | done | with_reducible rfl))
              (try simp only [List.getElem_toArray, List.getElem_cons_succ, List.getElem_cons_zero, Act.put, List.setIfInBounds_toArray, List.set_cons_zero, List.set_cons_succ])
              refine wpAnyH_done (by kernel_rfl) ?_ _
              refine NoPanic.normal ?_
              (try simp only [List.getElem_toArray, List.getElem_cons_succ, List.getElem_cons_zero, Act.put, List.setIfInBounds_toArray, List.set_cons_zero, List.set_cons_succ])
              go_wp2_with fail
              have HB3 := Lib.hid (show Below w.heap.size w w2 from HBq.out.trans (HG2.out.b.mono HBq.out.size))
              have HO3 := Lib.hid (show Own w2 w.heap.size v2 (rs.take k ++ [x] ++ rs.drop k) from own_nil HG2.out HBq.out.size HN.out hkn hn0)
              refine (tail_any rs HF.out x HX0.out (by rw [HN.out]; exact hl) k HP.out w2 v2 HO3.out).mono ?_
              rintro e w5 ⟨rfl, hb⟩
              have HB5 := Lib.hid (HB3.out.trans (hb.mono HB3.out.size))
              have HO5 := Lib.hid (HO3.out.below hb)
              clear hb
              obtain ⟨g2, hg2⟩ : ∃ g, goodB (insR rs x) = g := ⟨_, rfl⟩
              have HG2x := Lib.hid hg2
              rw [hg2]
              clear hg2
              cases g2 with
              | false =>
                have h1 : ok = false := by rw [← HO.out]; unfold adB; rw [HG2x.out, Bool.and_false]
                have h2 : zs = [] := by rw [← HZ.out]; unfold adL; rw [HO.out, h1]; rfl
                subst h1 h2
                go_wp2
                go_ret2
                exact ⟨_, rfl, own_none w5 w.heap.size HB5.out.size, HB5.out.alloc HB5.out.size _⟩
              | true =>
                have h1 : ok = true := by rw [← HO.out]; unfold adB; rw [HG.out, HG2x.out]; rfl
                have h2 : insR rs x = zs := by rw [← HZ.out]; unfold adL; rw [HO.out, h1]; rfl
                have HO6 := Lib.hid (show Own w5 w.heap.size v2 zs from by rw [← h2]; unfold insR; rw [HP.out]; exact HO5.out)
                subst h1
                clear h2
                go_wp2
                go_ret2
                exact ⟨_, rfl, HO6.out, HB5.out⟩
          | some ad =>
            go_upto_region 4 with (fail)
            go_region
            go_upto_region 6 with (fail)
            have HBq := Lib.hid (show Below w.heap.size w ((w1.drewN q).drew) from Bk.below_drewN HB1.out (q + 1))
            have HKq := Lib.hid (show Blk ((w1.drewN q).drew) w.heap.size 37 #[.int .i64 x.id, .string x.nm, .string x.cl, .int .i64 x.bo, .bool x.wo, .int .i64 x.ca] from HK1.out.drewN (q + 1))
            have HRq := Lib.hid (show RuK.Row ((w1.drewN q).drew) (some ad) rs from H1.out.later (Bk.below_drewN (Below.refl _ _) (q + 1)))
            clear p0 p1 p2 p3 p4 p5 
            generalize (w1.drewN q).drew = wq at *
            obtain ⟨⟨p0, p1, p2, p3, p4, p5⟩, -⟩ := blk_cells HKq.out
            have hkc : k ≤ cap := by omega
            have hTl : (RuK.cells (rs.take k)).length = k * 6 := by rw [cells_len, List.length_take, HN.out, Nat.min_eq_left hkn]
            have hDl : (RuK.cells (rs.drop k)).length = (n - k) * 6 := by rw [cells_len, List.length_drop, HN.out]
            have HTk := Lib.hid (fun W' (hW : Below wq.heap.size wq W') => ((HRq.out.take k).later hW).news)
            have HDr := Lib.hid (show ∀ (ad' : Addr) (W' : World), Below wq.heap.size wq W' → ∀ j u, (RuK.cells (rs.drop k))[j]? = some u → W'.cell? (ad'.add j) = some u from fun ad' W' _ j u h => by
              rw [List.drop_eq_nil_of_le (by rw [HN.out]; exact hge)] at h
              simp [RuK.cells] at h)
            by_cases hck : cap = k
            · have hDl : (RuK.cells (rs.drop k)).length = 0 * 6 := by rw [hDl]; omega
              refine wp_region_noPanic ?_
              refine wp_region_held_drew (S := (fun Wx : World => Wx.cell? ⟨w.heap.size, 0, none⟩ = some (.int .i64 x.id) ∧ Wx.cell? ⟨w.heap.size, 1, none⟩ = some (.string x.nm) ∧ Wx.cell? ⟨w.heap.size, 2, none⟩ = some (.string x.cl) ∧ Wx.cell? ⟨w.heap.size, 3, none⟩ = some (.int .i64 x.bo) ∧ Wx.cell? ⟨w.heap.size, 4, none⟩ = some (.bool x.wo) ∧ Wx.cell? ⟨w.heap.size, 5, none⟩ = some (.int .i64 x.ca))) (by kernel_rfl) ⟨p0, p1, p2, p3, p4, p5⟩ (fun hHeld => ?_)
              refine wpAnyH_take (i := 1) (oi := _) (v := ?_) rfl (by kernel_rfl) (by kernel_rfl) (by kernel_rfl) (fun _ _ _ h => h) (Or.inl ⟨by rfl, ?_⟩) (by assumption) ?_; rotate_left; focus (intro W hSw; (try dsimp only at hSw); go_simp; (first | done | with_reducible rfl))
              (try simp only [List.getElem_toArray, List.getElem_cons_succ, List.getElem_cons_zero, Act.put, List.setIfInBounds_toArray, List.set_cons_zero, List.set_cons_succ])
              refine wpAnyH_take (i := 2) (oi := _) (v := ?_) rfl (by kernel_rfl) (by kernel_rfl) (by kernel_rfl) (fun _ _ _ h => h) (Or.inl ⟨by rfl, ?_⟩) (by assumption) ?_; rotate_left; focus (intro W hSw; (try dsimp only at hSw); go_simp; (first | done | with_reducible rfl))
              (try simp only [List.getElem_toArray, List.getElem_cons_succ, List.getElem_cons_zero, Act.put, List.setIfInBounds_toArray, List.set_cons_zero, List.set_cons_succ])
              refine wpAnyH_take (i := 3) (oi := _) (v := ?_) rfl (by kernel_rfl) (by kernel_rfl) (by kernel_rfl) (fun _ _ _ h => h) (Or.inl ⟨by rfl, ?_⟩) (by assumption) ?_; rotate_left; focus (intro W hSw; (try dsimp only at hSw); go_simp; (first | done | with_reducible rfl))
              (try simp only [List.getElem_toArray, List.getElem_cons_succ, List.getElem_cons_zero, Act.put, List.setIfInBounds_toArray, List.set_cons_zero, List.set_cons_succ])
              refine wpAnyH_take (i := 5) (oi := _) (v := ?_) rfl (by kernel_rfl) (by kernel_rfl) (by kernel_rfl) (fun _ _ _ h => h) (Or.inl ⟨by rfl, ?_⟩) (by assumption) ?_; rotate_left; focus (intro W hSw; (try dsimp only at hSw); go_simp; (first | done | with_reducible rfl))
              (try simp only [List.getElem_toArray, List.getElem_cons_succ, List.getElem_cons_zero, Act.put, List.setIfInBounds_toArray, List.set_cons_zero, List.set_cons_succ])
              refine wpAnyH_take (i := 8) (oi := _) (v := ?_) rfl (by kernel_rfl) (by kernel_rfl) (by kernel_rfl) (fun _ _ _ h => h) (Or.inl ⟨by rfl, ?_⟩) (by assumption) ?_; rotate_left; focus (intro W hSw; (try dsimp only at hSw); go_simp; (first | done | with_reducible rfl))
              (try simp only [List.getElem_toArray, List.getElem_cons_succ, List.getElem_cons_zero, Act.put, List.setIfInBounds_toArray, List.set_cons_zero, List.set_cons_succ])
              refine wpAnyH_take (i := 9) (oi := _) (v := ?_) rfl (by kernel_rfl) (by kernel_rfl) (by kernel_rfl) (fun _ _ _ h => h) (Or.inl ⟨by rfl, ?_⟩) (by assumption) ?_; rotate_left; focus (intro W hSw; (try dsimp only at hSw); go_simp; (first | done | with_reducible rfl))
              (try simp only [List.getElem_toArray, List.getElem_cons_succ, List.getElem_cons_zero, Act.put, List.setIfInBounds_toArray, List.set_cons_zero, List.set_cons_succ])
              refine wpAnyH_take (i := 10) (oi := _) (v := ?_) rfl (by kernel_rfl) (by kernel_rfl) (by kernel_rfl) (fun _ _ _ h => h) (Or.inl ⟨by rfl, ?_⟩) (by assumption) ?_; rotate_left; focus (intro W hSw; (try dsimp only at hSw); go_simp; (first | done | with_reducible rfl))
              (try simp only [List.getElem_toArray, List.getElem_cons_succ, List.getElem_cons_zero, Act.put, List.setIfInBounds_toArray, List.set_cons_zero, List.set_cons_succ])
              refine wpAnyH_ready (rs := [0, 6]) (by kernel_rfl) (by simp) ?_
              refine AllReadyH.cons (o := _) rfl (fun K hK => ?_) (AllReadyH.cons (o := _) rfl (fun K hK => ?_) (AllReadyH.nil))
              · go_simp
                have HG0 := Lib.hid (A3.G3.start wq 37 6)
                (try simp only [Act.put, List.setIfInBounds_toArray, List.set_cons_zero, List.set_cons_succ])
                refine hK.out _ _ (cell6 (HKq.out.later (HG0.out.b))) (fun _ => ?_)
                clear hK K hHeld
                refine wpAnyH_ready (rs := [4, 6]) (by kernel_rfl) (by simp) ?_
                refine AllReadyH.cons (o := _) rfl (fun K hK => ?_) (AllReadyH.cons (o := _) rfl (fun K hK => ?_) (AllReadyH.nil))
                · skip
                  rw [if_pos (by rfl)]
                  refine HG0.out.wp (.tmp 28) (.tmp 31) 25 rfl Try.underlying25 t0 hi0 (.agg #[.int .i64 no.id, .string no.nm, .string no.cl, .int .i64 no.bo, .bool no.wo, .int .i64 no.ca]) hz0 64 hz1 hz2 rfl (by decide) (by rfl) (ad) (k) (_) (RuK.cells (rs.take k)) (by (try simp only [Act.eval, Act.put]); rfl) (hTl) (HTk.out _ HG0.out.b) (RuK.cells_one _) (by unfold maxLen; omega) (by omega) ?_
                  intro v1 w1 hg hgr
                  have HG1 := Lib.hid hg
                  have HR1 := Lib.hid hgr
                  clear hg hgr
                  (try simp only [Act.put, List.setIfInBounds_toArray, List.set_cons_zero, List.set_cons_succ])
                  refine hK.out _ _ (cell6 (HKq.out.later (HG1.out.b))) (fun _ => ?_)
                  clear hK K
                  refine wpAnyH_ready (rs := [6]) (by kernel_rfl) (by simp) ?_
                  refine AllReadyH.cons (o := _) rfl (fun K hK => ?_) (AllReadyH.nil)
                  go_simp
                  have HX := Lib.hid (Blk.new w1 37 (RuK.cells [x]).toArray)
                  have HGa := Lib.hid (HG1.out.alloc (.cells (RuK.cells [x]).toArray 37))
                  (try simp only [Act.put, List.setIfInBounds_toArray, List.set_cons_zero, List.set_cons_succ])
                  refine hK.out _ _ (cell6 (HKq.out.later (HGa.out.b))) (fun _ => ?_)
                  clear hK K
                  refine wpAnyH_ready (rs := [7]) (by kernel_rfl) (by simp) ?_
                  refine AllReadyH.cons (o := _) rfl (fun K hK => ?_) (AllReadyH.nil)
                  rw [if_pos (by rfl)]
                  refine HGa.out.wp (.tmp 32) (.tmp 34) 25 rfl Try.underlying25 t0 hi0 (.agg #[.int .i64 no.id, .string no.nm, .string no.cl, .int .i64 no.bo, .bool no.wo, .int .i64 no.ca]) hz0 64 hz1 hz2 rfl (by decide) (by rfl) (⟨_, 0, none⟩) (1) (1) (RuK.cells [x]) (by (try simp only [Act.eval, Act.put]); rfl) (rfl) (A3.blk_news HX.out) (RuK.cells_one [x]) (by unfold maxLen; omega) (by omega) ?_
                  intro v2 w2 hg hgr
                  have HG2 := Lib.hid hg
                  have HR2 := Lib.hid hgr
                  clear hg hgr
                  (try simp only [Act.put, List.setIfInBounds_toArray, List.set_cons_zero, List.set_cons_succ])
                  refine hK.out _ _ (cell6 (HKq.out.later (HG2.out.b))) (fun _ => ?_)
                  clear hK K
                  refine wpAnyH_ready (rs := [11]) (by kernel_rfl) (by simp) ?_
                  refine AllReadyH.cons (o := _) rfl (fun K hK => ?_) (AllReadyH.nil)
                  rw [if_pos (by rfl)]
                  refine HG2.out.wp (.tmp 35) (.tmp 38) 25 rfl Try.underlying25 t0 hi0 (.agg #[.int .i64 no.id, .string no.nm, .string no.cl, .int .i64 no.bo, .bool no.wo, .int .i64 no.ca]) hz0 64 hz1 hz2 rfl (by decide) (by rfl) (_) (0) (_) (RuK.cells (rs.drop k)) (by (try simp only [Act.eval, Act.put]); rfl) (hDl) (HDr.out _ _ HG2.out.b) (RuK.cells_one _) (by unfold maxLen; omega) (by omega) ?_
                  intro v3 w3 hg hgr
                  have HG3 := Lib.hid hg
                  have HR3 := Lib.hid hgr
                  clear hg hgr
                  (try simp only [Act.put, List.setIfInBounds_toArray, List.set_cons_zero, List.set_cons_succ])
                  refine hK.out _ _ (cell6 (HKq.out.later (HG3.out.b))) (fun _ => ?_)
                  clear hK K
                  refine wpAnyH_take (i := 12) (oi := _) (v := ?_) rfl (by kernel_rfl) (by kernel_rfl) (by kernel_rfl) (fun _ _ _ h => h) (Or.inl ⟨by rfl, ?_⟩) (by assumption) ?_; rotate_left; focus (intro W hSw; (try dsimp only at hSw); go_simp; (first | done | with_reducible rfl))
                  (try simp only [List.getElem_toArray, List.getElem_cons_succ, List.getElem_cons_zero, Act.put, List.setIfInBounds_toArray, List.set_cons_zero, List.set_cons_succ])
                  refine wpAnyH_done (by kernel_rfl) ?_ _
                  refine NoPanic.normal ?_
                  (try simp only [List.getElem_toArray, List.getElem_cons_succ, List.getElem_cons_zero, Act.put, List.setIfInBounds_toArray, List.set_cons_zero, List.set_cons_succ])
                  go_wp2_with fail
                  have HB3 := Lib.hid (show Below w.heap.size w w3 from HBq.out.trans (HG3.out.b.mono HBq.out.size))
                  have HO3 := Lib.hid (show Own w3 w.heap.size v3 (rs.take k ++ [x] ++ rs.drop k) from own_some HG3.out HBq.out.size HN.out hkn (by omega))
                  refine (tail_any rs HF.out x HX0.out (by rw [HN.out]; exact hl) k HP.out w3 v3 HO3.out).mono ?_
                  rintro e w5 ⟨rfl, hb⟩
                  have HB5 := Lib.hid (HB3.out.trans (hb.mono HB3.out.size))
                  have HO5 := Lib.hid (HO3.out.below hb)
                  clear hb
                  obtain ⟨g2, hg2⟩ : ∃ g, goodB (insR rs x) = g := ⟨_, rfl⟩
                  have HG2x := Lib.hid hg2
                  rw [hg2]
                  clear hg2
                  cases g2 with
                  | false =>
                    have h1 : ok = false := by rw [← HO.out]; unfold adB; rw [HG2x.out, Bool.and_false]
                    have h2 : zs = [] := by rw [← HZ.out]; unfold adL; rw [HO.out, h1]; rfl
                    subst h1 h2
                    go_wp2
                    go_ret2
                    exact ⟨_, rfl, own_none w5 w.heap.size HB5.out.size, HB5.out.alloc HB5.out.size _⟩
                  | true =>
                    have h1 : ok = true := by rw [← HO.out]; unfold adB; rw [HG.out, HG2x.out]; rfl
                    have h2 : insR rs x = zs := by rw [← HZ.out]; unfold adL; rw [HO.out, h1]; rfl
                    have HO6 := Lib.hid (show Own w5 w.heap.size v3 zs from by rw [← h2]; unfold insR; rw [HP.out]; exact HO5.out)
                    subst h1
                    clear h2
                    go_wp2
                    go_ret2
                    exact ⟨_, rfl, HO6.out, HB5.out⟩
                · go_simp
                  have HX := Lib.hid (show Blk ((wq.drew.alloc (.cells #[] 37)).alloc (.cells (RuK.cells [x]).toArray 37)) (wq.heap.size + 1) 37 (RuK.cells [x]).toArray from Blk.at_ (by simp))
                  have HGa := Lib.hid (HG0.out.alloc (.cells (RuK.cells [x]).toArray 37))
                  (try simp only [Act.put, List.setIfInBounds_toArray, List.set_cons_zero, List.set_cons_succ])
                  refine hK.out _ _ (cell6 (HKq.out.later (HGa.out.b))) (fun _ => ?_)
                  clear hK K
                  refine wpAnyH_ready (rs := [4]) (by kernel_rfl) (by simp) ?_
                  refine AllReadyH.cons (o := _) rfl (fun K hK => ?_) (AllReadyH.nil)
                  rw [if_pos (by rfl)]
                  refine HGa.out.wp (.tmp 28) (.tmp 31) 25 rfl Try.underlying25 t0 hi0 (.agg #[.int .i64 no.id, .string no.nm, .string no.cl, .int .i64 no.bo, .bool no.wo, .int .i64 no.ca]) hz0 64 hz1 hz2 rfl (by decide) (by rfl) (ad) (k) (_) (RuK.cells (rs.take k)) (by (try simp only [Act.eval, Act.put]); rfl) (hTl) (HTk.out _ HGa.out.b) (RuK.cells_one _) (by unfold maxLen; omega) (by omega) ?_
                  intro v1 w1 hg hgr
                  have HG1 := Lib.hid hg
                  have HR1 := Lib.hid hgr
                  clear hg hgr
                  have HX1 := Lib.hid (A3.blk_grown HX.out HR1.out (fun e => by simp [Value.ownBlock] at e))
                  (try simp only [Act.put, List.setIfInBounds_toArray, List.set_cons_zero, List.set_cons_succ])
                  refine hK.out _ _ (cell6 (HKq.out.later (HG1.out.b))) (fun _ => ?_)
                  clear hK K
                  refine wpAnyH_ready (rs := [7]) (by kernel_rfl) (by simp) ?_
                  refine AllReadyH.cons (o := _) rfl (fun K hK => ?_) (AllReadyH.nil)
                  rw [if_pos (by rfl)]
                  refine HG1.out.wp (.tmp 32) (.tmp 34) 25 rfl Try.underlying25 t0 hi0 (.agg #[.int .i64 no.id, .string no.nm, .string no.cl, .int .i64 no.bo, .bool no.wo, .int .i64 no.ca]) hz0 64 hz1 hz2 rfl (by decide) (by rfl) (⟨_, 0, none⟩) (1) (1) (RuK.cells [x]) (by (try simp only [Act.eval, Act.put]); rfl) (rfl) (A3.blk_news HX1.out) (RuK.cells_one [x]) (by unfold maxLen; omega) (by omega) ?_
                  intro v2 w2 hg hgr
                  have HG2 := Lib.hid hg
                  have HR2 := Lib.hid hgr
                  clear hg hgr
                  (try simp only [Act.put, List.setIfInBounds_toArray, List.set_cons_zero, List.set_cons_succ])
                  refine hK.out _ _ (cell6 (HKq.out.later (HG2.out.b))) (fun _ => ?_)
                  clear hK K
                  refine wpAnyH_ready (rs := [11]) (by kernel_rfl) (by simp) ?_
                  refine AllReadyH.cons (o := _) rfl (fun K hK => ?_) (AllReadyH.nil)
                  rw [if_pos (by rfl)]
                  refine HG2.out.wp (.tmp 35) (.tmp 38) 25 rfl Try.underlying25 t0 hi0 (.agg #[.int .i64 no.id, .string no.nm, .string no.cl, .int .i64 no.bo, .bool no.wo, .int .i64 no.ca]) hz0 64 hz1 hz2 rfl (by decide) (by rfl) (_) (0) (_) (RuK.cells (rs.drop k)) (by (try simp only [Act.eval, Act.put]); rfl) (hDl) (HDr.out _ _ HG2.out.b) (RuK.cells_one _) (by unfold maxLen; omega) (by omega) ?_
                  intro v3 w3 hg hgr
                  have HG3 := Lib.hid hg
                  have HR3 := Lib.hid hgr
                  clear hg hgr
                  (try simp only [Act.put, List.setIfInBounds_toArray, List.set_cons_zero, List.set_cons_succ])
                  refine hK.out _ _ (cell6 (HKq.out.later (HG3.out.b))) (fun _ => ?_)
                  clear hK K
                  refine wpAnyH_take (i := 12) (oi := _) (v := ?_) rfl (by kernel_rfl) (by kernel_rfl) (by kernel_rfl) (fun _ _ _ h => h) (Or.inl ⟨by rfl, ?_⟩) (by assumption) ?_; rotate_left; focus (intro W hSw; (try dsimp only at hSw); go_simp; (first | done | with_reducible rfl))
                  (try simp only [List.getElem_toArray, List.getElem_cons_succ, List.getElem_cons_zero, Act.put, List.setIfInBounds_toArray, List.set_cons_zero, List.set_cons_succ])
                  refine wpAnyH_done (by kernel_rfl) ?_ _
                  refine NoPanic.normal ?_
                  (try simp only [List.getElem_toArray, List.getElem_cons_succ, List.getElem_cons_zero, Act.put, List.setIfInBounds_toArray, List.set_cons_zero, List.set_cons_succ])
                  go_wp2_with fail
                  have HB3 := Lib.hid (show Below w.heap.size w w3 from HBq.out.trans (HG3.out.b.mono HBq.out.size))
                  have HO3 := Lib.hid (show Own w3 w.heap.size v3 (rs.take k ++ [x] ++ rs.drop k) from own_some HG3.out HBq.out.size HN.out hkn (by omega))
                  refine (tail_any rs HF.out x HX0.out (by rw [HN.out]; exact hl) k HP.out w3 v3 HO3.out).mono ?_
                  rintro e w5 ⟨rfl, hb⟩
                  have HB5 := Lib.hid (HB3.out.trans (hb.mono HB3.out.size))
                  have HO5 := Lib.hid (HO3.out.below hb)
                  clear hb
                  obtain ⟨g2, hg2⟩ : ∃ g, goodB (insR rs x) = g := ⟨_, rfl⟩
                  have HG2x := Lib.hid hg2
                  rw [hg2]
                  clear hg2
                  cases g2 with
                  | false =>
                    have h1 : ok = false := by rw [← HO.out]; unfold adB; rw [HG2x.out, Bool.and_false]
                    have h2 : zs = [] := by rw [← HZ.out]; unfold adL; rw [HO.out, h1]; rfl
                    subst h1 h2
                    go_wp2
                    go_ret2
                    exact ⟨_, rfl, own_none w5 w.heap.size HB5.out.size, HB5.out.alloc HB5.out.size _⟩
                  | true =>
                    have h1 : ok = true := by rw [← HO.out]; unfold adB; rw [HG.out, HG2x.out]; rfl
                    have h2 : insR rs x = zs := by rw [← HZ.out]; unfold adL; rw [HO.out, h1]; rfl
                    have HO6 := Lib.hid (show Own w5 w.heap.size v3 zs from by rw [← h2]; unfold insR; rw [HP.out]; exact HO5.out)
                    subst h1
                    clear h2
                    go_wp2
                    go_ret2
                    exact ⟨_, rfl, HO6.out, HB5.out⟩
              · go_simp
                have HX := Lib.hid (Blk.new wq.drew 37 (RuK.cells [x]).toArray)
                have HBx := Lib.hid ((Below.refl wq.heap.size wq).drew.alloc (Nat.le_refl _) (.cells (RuK.cells [x]).toArray 37))
                (try simp only [Act.put, List.setIfInBounds_toArray, List.set_cons_zero, List.set_cons_succ])
                refine hK.out _ _ (cell6 (HKq.out.later (HBx.out))) (fun _ => ?_)
                clear hK K hHeld
                refine wpAnyH_ready (rs := [0]) (by kernel_rfl) (by simp) ?_
                refine AllReadyH.cons (o := _) rfl (fun K hK => ?_) (AllReadyH.nil)
                go_simp
                have HG0 := Lib.hid (show A3.G3 wq 37 6 ((wq.drew.alloc (.cells (RuK.cells [x]).toArray 37)).alloc (.cells #[] 37)) (.slice (some ⟨wq.heap.size + 1, 0, none⟩) 0 0) 0 [] from A3.G3.after HBx.out (by simp))
                have HXo := Lib.hid (HX.out.alloc (.cells #[] 37))
                (try simp only [Act.put, List.setIfInBounds_toArray, List.set_cons_zero, List.set_cons_succ])
                refine hK.out _ _ (cell6 (HKq.out.later (HG0.out.b))) (fun _ => ?_)
                clear hK K
                refine wpAnyH_ready (rs := [4]) (by kernel_rfl) (by simp) ?_
                refine AllReadyH.cons (o := _) rfl (fun K hK => ?_) (AllReadyH.nil)
                rw [if_pos (by rfl)]
                refine HG0.out.wp (.tmp 28) (.tmp 31) 25 rfl Try.underlying25 t0 hi0 (.agg #[.int .i64 no.id, .string no.nm, .string no.cl, .int .i64 no.bo, .bool no.wo, .int .i64 no.ca]) hz0 64 hz1 hz2 rfl (by decide) (by rfl) (ad) (k) (_) (RuK.cells (rs.take k)) (by (try simp only [Act.eval, Act.put]); rfl) (hTl) (HTk.out _ HG0.out.b) (RuK.cells_one _) (by unfold maxLen; omega) (by omega) ?_
                intro v1 w1 hg hgr
                have HG1 := Lib.hid hg
                have HR1 := Lib.hid hgr
                clear hg hgr
                have HX1 := Lib.hid (A3.blk_grown HXo.out HR1.out (fun e => by simp [Value.ownBlock] at e))
                (try simp only [Act.put, List.setIfInBounds_toArray, List.set_cons_zero, List.set_cons_succ])
                refine hK.out _ _ (cell6 (HKq.out.later (HG1.out.b))) (fun _ => ?_)
                clear hK K
                refine wpAnyH_ready (rs := [7]) (by kernel_rfl) (by simp) ?_
                refine AllReadyH.cons (o := _) rfl (fun K hK => ?_) (AllReadyH.nil)
                rw [if_pos (by rfl)]
                refine HG1.out.wp (.tmp 32) (.tmp 34) 25 rfl Try.underlying25 t0 hi0 (.agg #[.int .i64 no.id, .string no.nm, .string no.cl, .int .i64 no.bo, .bool no.wo, .int .i64 no.ca]) hz0 64 hz1 hz2 rfl (by decide) (by rfl) (⟨_, 0, none⟩) (1) (1) (RuK.cells [x]) (by (try simp only [Act.eval, Act.put]); rfl) (rfl) (A3.blk_news HX1.out) (RuK.cells_one [x]) (by unfold maxLen; omega) (by omega) ?_
                intro v2 w2 hg hgr
                have HG2 := Lib.hid hg
                have HR2 := Lib.hid hgr
                clear hg hgr
                (try simp only [Act.put, List.setIfInBounds_toArray, List.set_cons_zero, List.set_cons_succ])
                refine hK.out _ _ (cell6 (HKq.out.later (HG2.out.b))) (fun _ => ?_)
                clear hK K
                refine wpAnyH_ready (rs := [11]) (by kernel_rfl) (by simp) ?_
                refine AllReadyH.cons (o := _) rfl (fun K hK => ?_) (AllReadyH.nil)
                rw [if_pos (by rfl)]
                refine HG2.out.wp (.tmp 35) (.tmp 38) 25 rfl Try.underlying25 t0 hi0 (.agg #[.int .i64 no.id, .string no.nm, .string no.cl, .int .i64 no.bo, .bool no.wo, .int .i64 no.ca]) hz0 64 hz1 hz2 rfl (by decide) (by rfl) (_) (0) (_) (RuK.cells (rs.drop k)) (by (try simp only [Act.eval, Act.put]); rfl) (hDl) (HDr.out _ _ HG2.out.b) (RuK.cells_one _) (by unfold maxLen; omega) (by omega) ?_
                intro v3 w3 hg hgr
                have HG3 := Lib.hid hg
                have HR3 := Lib.hid hgr
                clear hg hgr
                (try simp only [Act.put, List.setIfInBounds_toArray, List.set_cons_zero, List.set_cons_succ])
                refine hK.out _ _ (cell6 (HKq.out.later (HG3.out.b))) (fun _ => ?_)
                clear hK K
                refine wpAnyH_take (i := 12) (oi := _) (v := ?_) rfl (by kernel_rfl) (by kernel_rfl) (by kernel_rfl) (fun _ _ _ h => h) (Or.inl ⟨by rfl, ?_⟩) (by assumption) ?_; rotate_left; focus (intro W hSw; (try dsimp only at hSw); go_simp; (first | done | with_reducible rfl))
                (try simp only [List.getElem_toArray, List.getElem_cons_succ, List.getElem_cons_zero, Act.put, List.setIfInBounds_toArray, List.set_cons_zero, List.set_cons_succ])
                refine wpAnyH_done (by kernel_rfl) ?_ _
                refine NoPanic.normal ?_
                (try simp only [List.getElem_toArray, List.getElem_cons_succ, List.getElem_cons_zero, Act.put, List.setIfInBounds_toArray, List.set_cons_zero, List.set_cons_succ])
                go_wp2_with fail
                have HB3 := Lib.hid (show Below w.heap.size w w3 from HBq.out.trans (HG3.out.b.mono HBq.out.size))
                have HO3 := Lib.hid (show Own w3 w.heap.size v3 (rs.take k ++ [x] ++ rs.drop k) from own_some HG3.out HBq.out.size HN.out hkn (by omega))
                refine (tail_any rs HF.out x HX0.out (by rw [HN.out]; exact hl) k HP.out w3 v3 HO3.out).mono ?_
                rintro e w5 ⟨rfl, hb⟩
                have HB5 := Lib.hid (HB3.out.trans (hb.mono HB3.out.size))
                have HO5 := Lib.hid (HO3.out.below hb)
                clear hb
                obtain ⟨g2, hg2⟩ : ∃ g, goodB (insR rs x) = g := ⟨_, rfl⟩
                have HG2x := Lib.hid hg2
                rw [hg2]
                clear hg2
                cases g2 with
                | false =>
                  have h1 : ok = false := by rw [← HO.out]; unfold adB; rw [HG2x.out, Bool.and_false]
                  have h2 : zs = [] := by rw [← HZ.out]; unfold adL; rw [HO.out, h1]; rfl
                  subst h1 h2
                  go_wp2
                  go_ret2
                  exact ⟨_, rfl, own_none w5 w.heap.size HB5.out.size, HB5.out.alloc HB5.out.size _⟩
                | true =>
                  have h1 : ok = true := by rw [← HO.out]; unfold adB; rw [HG.out, HG2x.out]; rfl
                  have h2 : insR rs x = zs := by rw [← HZ.out]; unfold adL; rw [HO.out, h1]; rfl
                  have HO6 := Lib.hid (show Own w5 w.heap.size v3 zs from by rw [← h2]; unfold insR; rw [HP.out]; exact HO5.out)
                  subst h1
                  clear h2
                  go_wp2
                  go_ret2
                  exact ⟨_, rfl, HO6.out, HB5.out⟩
            · have hDl : (RuK.cells (rs.drop k)).length = 0 * 6 := by rw [hDl]; omega
              refine wp_region_noPanic ?_
              refine wp_region_held_drew (S := (fun Wx : World => Wx.cell? ⟨w.heap.size, 0, none⟩ = some (.int .i64 x.id) ∧ Wx.cell? ⟨w.heap.size, 1, none⟩ = some (.string x.nm) ∧ Wx.cell? ⟨w.heap.size, 2, none⟩ = some (.string x.cl) ∧ Wx.cell? ⟨w.heap.size, 3, none⟩ = some (.int .i64 x.bo) ∧ Wx.cell? ⟨w.heap.size, 4, none⟩ = some (.bool x.wo) ∧ Wx.cell? ⟨w.heap.size, 5, none⟩ = some (.int .i64 x.ca))) (by kernel_rfl) ⟨p0, p1, p2, p3, p4, p5⟩ (fun hHeld => ?_)
              refine wpAnyH_take (i := 1) (oi := _) (v := ?_) rfl (by kernel_rfl) (by kernel_rfl) (by kernel_rfl) (fun _ _ _ h => h) (Or.inl ⟨by rfl, ?_⟩) (by assumption) ?_; rotate_left; focus (intro W hSw; (try dsimp only at hSw); go_simp; (first | done | with_reducible rfl))
              (try simp only [List.getElem_toArray, List.getElem_cons_succ, List.getElem_cons_zero, Act.put, List.setIfInBounds_toArray, List.set_cons_zero, List.set_cons_succ])
              refine wpAnyH_take (i := 2) (oi := _) (v := ?_) rfl (by kernel_rfl) (by kernel_rfl) (by kernel_rfl) (fun _ _ _ h => h) (Or.inl ⟨by rfl, ?_⟩) (by assumption) ?_; rotate_left; focus (intro W hSw; (try dsimp only at hSw); go_simp; (first | done | with_reducible rfl))
              (try simp only [List.getElem_toArray, List.getElem_cons_succ, List.getElem_cons_zero, Act.put, List.setIfInBounds_toArray, List.set_cons_zero, List.set_cons_succ])
              refine wpAnyH_take (i := 3) (oi := _) (v := ?_) rfl (by kernel_rfl) (by kernel_rfl) (by kernel_rfl) (fun _ _ _ h => h) (Or.inl ⟨by rfl, ?_⟩) (by assumption) ?_; rotate_left; focus (intro W hSw; (try dsimp only at hSw); go_simp; (first | done | with_reducible rfl))
              (try simp only [List.getElem_toArray, List.getElem_cons_succ, List.getElem_cons_zero, Act.put, List.setIfInBounds_toArray, List.set_cons_zero, List.set_cons_succ])
              refine wpAnyH_take (i := 5) (oi := _) (v := ?_) rfl (by kernel_rfl) (by kernel_rfl) (by kernel_rfl) (fun _ _ _ h => h) (Or.inl ⟨by rfl, ?_⟩) (by assumption) ?_; rotate_left; focus (intro W hSw; (try dsimp only at hSw); go_simp; (first | done | with_reducible rfl))
              (try simp only [List.getElem_toArray, List.getElem_cons_succ, List.getElem_cons_zero, Act.put, List.setIfInBounds_toArray, List.set_cons_zero, List.set_cons_succ])
              refine wpAnyH_take (i := 8) (oi := _) (v := ?_) rfl (by kernel_rfl) (by kernel_rfl) (by kernel_rfl) (fun _ _ _ h => h) (Or.inl ⟨by rfl, ?_⟩) (by assumption) ?_; rotate_left; focus (intro W hSw; (try dsimp only at hSw); go_simp; (first | done | with_reducible rfl))
              (try simp only [List.getElem_toArray, List.getElem_cons_succ, List.getElem_cons_zero, Act.put, List.setIfInBounds_toArray, List.set_cons_zero, List.set_cons_succ])
              refine wpAnyH_take (i := 9) (oi := _) (v := ?_) rfl (by kernel_rfl) (by kernel_rfl) (by kernel_rfl) (fun _ _ _ h => h) (Or.inl ⟨by rfl, ?_⟩) (by assumption) ?_; rotate_left; focus (intro W hSw; (try dsimp only at hSw); go_simp; (first | done | with_reducible rfl))
              (try simp only [List.getElem_toArray, List.getElem_cons_succ, List.getElem_cons_zero, Act.put, List.setIfInBounds_toArray, List.set_cons_zero, List.set_cons_succ])
              refine wpAnyH_take (i := 10) (oi := _) (v := ?_) rfl (by kernel_rfl) (by kernel_rfl) (by kernel_rfl) (fun _ _ _ h => h) (Or.inl ⟨by rfl, ?_⟩) (by assumption) ?_; rotate_left; focus (intro W hSw; (try dsimp only at hSw); go_simp; (first | done | with_reducible rfl))
              (try simp only [List.getElem_toArray, List.getElem_cons_succ, List.getElem_cons_zero, Act.put, List.setIfInBounds_toArray, List.set_cons_zero, List.set_cons_succ])
              refine wpAnyH_ready (rs := [0, 6]) (by kernel_rfl) (by simp) ?_
              refine AllReadyH.cons (o := _) rfl (fun K hK => ?_) (AllReadyH.cons (o := _) rfl (fun K hK => ?_) (AllReadyH.nil))
              · go_simp
                have HG0 := Lib.hid (A3.G3.start wq 37 6)
                (try simp only [Act.put, List.setIfInBounds_toArray, List.set_cons_zero, List.set_cons_succ])
                refine hK.out _ _ (cell6 (HKq.out.later (HG0.out.b))) (fun _ => ?_)
                clear hK K hHeld
                refine wpAnyH_ready (rs := [4, 6]) (by kernel_rfl) (by simp) ?_
                refine AllReadyH.cons (o := _) rfl (fun K hK => ?_) (AllReadyH.cons (o := _) rfl (fun K hK => ?_) (AllReadyH.nil))
                · skip
                  rw [if_pos (by rfl)]
                  refine HG0.out.wp (.tmp 28) (.tmp 31) 25 rfl Try.underlying25 t0 hi0 (.agg #[.int .i64 no.id, .string no.nm, .string no.cl, .int .i64 no.bo, .bool no.wo, .int .i64 no.ca]) hz0 64 hz1 hz2 rfl (by decide) (by rfl) (ad) (k) (_) (RuK.cells (rs.take k)) (by (try simp only [Act.eval, Act.put]); rfl) (hTl) (HTk.out _ HG0.out.b) (RuK.cells_one _) (by unfold maxLen; omega) (by omega) ?_
                  intro v1 w1 hg hgr
                  have HG1 := Lib.hid hg
                  have HR1 := Lib.hid hgr
                  clear hg hgr
                  (try simp only [Act.put, List.setIfInBounds_toArray, List.set_cons_zero, List.set_cons_succ])
                  refine hK.out _ _ (cell6 (HKq.out.later (HG1.out.b))) (fun _ => ?_)
                  clear hK K
                  refine wpAnyH_ready (rs := [6]) (by kernel_rfl) (by simp) ?_
                  refine AllReadyH.cons (o := _) rfl (fun K hK => ?_) (AllReadyH.nil)
                  go_simp
                  have HX := Lib.hid (Blk.new w1 37 (RuK.cells [x]).toArray)
                  have HGa := Lib.hid (HG1.out.alloc (.cells (RuK.cells [x]).toArray 37))
                  (try simp only [Act.put, List.setIfInBounds_toArray, List.set_cons_zero, List.set_cons_succ])
                  refine hK.out _ _ (cell6 (HKq.out.later (HGa.out.b))) (fun _ => ?_)
                  clear hK K
                  refine wpAnyH_ready (rs := [7]) (by kernel_rfl) (by simp) ?_
                  refine AllReadyH.cons (o := _) rfl (fun K hK => ?_) (AllReadyH.nil)
                  rw [if_pos (by rfl)]
                  refine HGa.out.wp (.tmp 32) (.tmp 34) 25 rfl Try.underlying25 t0 hi0 (.agg #[.int .i64 no.id, .string no.nm, .string no.cl, .int .i64 no.bo, .bool no.wo, .int .i64 no.ca]) hz0 64 hz1 hz2 rfl (by decide) (by rfl) (⟨_, 0, none⟩) (1) (1) (RuK.cells [x]) (by (try simp only [Act.eval, Act.put]); rfl) (rfl) (A3.blk_news HX.out) (RuK.cells_one [x]) (by unfold maxLen; omega) (by omega) ?_
                  intro v2 w2 hg hgr
                  have HG2 := Lib.hid hg
                  have HR2 := Lib.hid hgr
                  clear hg hgr
                  (try simp only [Act.put, List.setIfInBounds_toArray, List.set_cons_zero, List.set_cons_succ])
                  refine hK.out _ _ (cell6 (HKq.out.later (HG2.out.b))) (fun _ => ?_)
                  clear hK K
                  refine wpAnyH_ready (rs := [11]) (by kernel_rfl) (by simp) ?_
                  refine AllReadyH.cons (o := _) rfl (fun K hK => ?_) (AllReadyH.nil)
                  rw [if_pos (by rfl)]
                  refine HG2.out.wp (.tmp 35) (.tmp 38) 25 rfl Try.underlying25 t0 hi0 (.agg #[.int .i64 no.id, .string no.nm, .string no.cl, .int .i64 no.bo, .bool no.wo, .int .i64 no.ca]) hz0 64 hz1 hz2 rfl (by decide) (by rfl) (_) (0) (_) (RuK.cells (rs.drop k)) (by (try simp only [Act.eval, Act.put]); rfl) (hDl) (HDr.out _ _ HG2.out.b) (RuK.cells_one _) (by unfold maxLen; omega) (by omega) ?_
                  intro v3 w3 hg hgr
                  have HG3 := Lib.hid hg
                  have HR3 := Lib.hid hgr
                  clear hg hgr
                  (try simp only [Act.put, List.setIfInBounds_toArray, List.set_cons_zero, List.set_cons_succ])
                  refine hK.out _ _ (cell6 (HKq.out.later (HG3.out.b))) (fun _ => ?_)
                  clear hK K
                  refine wpAnyH_take (i := 12) (oi := _) (v := ?_) rfl (by kernel_rfl) (by kernel_rfl) (by kernel_rfl) (fun _ _ _ h => h) (Or.inl ⟨by rfl, ?_⟩) (by assumption) ?_; rotate_left; focus (intro W hSw; (try dsimp only at hSw); go_simp; (first | done | with_reducible rfl))
                  (try simp only [List.getElem_toArray, List.getElem_cons_succ, List.getElem_cons_zero, Act.put, List.setIfInBounds_toArray, List.set_cons_zero, List.set_cons_succ])
                  refine wpAnyH_done (by kernel_rfl) ?_ _
                  refine NoPanic.normal ?_
                  (try simp only [List.getElem_toArray, List.getElem_cons_succ, List.getElem_cons_zero, Act.put, List.setIfInBounds_toArray, List.set_cons_zero, List.set_cons_succ])
                  go_wp2_with fail
                  have HB3 := Lib.hid (show Below w.heap.size w w3 from HBq.out.trans (HG3.out.b.mono HBq.out.size))
                  have HO3 := Lib.hid (show Own w3 w.heap.size v3 (rs.take k ++ [x] ++ rs.drop k) from own_some HG3.out HBq.out.size HN.out hkn (by omega))
                  refine (tail_any rs HF.out x HX0.out (by rw [HN.out]; exact hl) k HP.out w3 v3 HO3.out).mono ?_
                  rintro e w5 ⟨rfl, hb⟩
                  have HB5 := Lib.hid (HB3.out.trans (hb.mono HB3.out.size))
                  have HO5 := Lib.hid (HO3.out.below hb)
                  clear hb
                  obtain ⟨g2, hg2⟩ : ∃ g, goodB (insR rs x) = g := ⟨_, rfl⟩
                  have HG2x := Lib.hid hg2
                  rw [hg2]
                  clear hg2
                  cases g2 with
                  | false =>
                    have h1 : ok = false := by rw [← HO.out]; unfold adB; rw [HG2x.out, Bool.and_false]
                    have h2 : zs = [] := by rw [← HZ.out]; unfold adL; rw [HO.out, h1]; rfl
                    subst h1 h2
                    go_wp2
                    go_ret2
                    exact ⟨_, rfl, own_none w5 w.heap.size HB5.out.size, HB5.out.alloc HB5.out.size _⟩
                  | true =>
                    have h1 : ok = true := by rw [← HO.out]; unfold adB; rw [HG.out, HG2x.out]; rfl
                    have h2 : insR rs x = zs := by rw [← HZ.out]; unfold adL; rw [HO.out, h1]; rfl
                    have HO6 := Lib.hid (show Own w5 w.heap.size v3 zs from by rw [← h2]; unfold insR; rw [HP.out]; exact HO5.out)
                    subst h1
                    clear h2
                    go_wp2
                    go_ret2
                    exact ⟨_, rfl, HO6.out, HB5.out⟩
                · go_simp
                  have HX := Lib.hid (show Blk ((wq.drew.alloc (.cells #[] 37)).alloc (.cells (RuK.cells [x]).toArray 37)) (wq.heap.size + 1) 37 (RuK.cells [x]).toArray from Blk.at_ (by simp))
                  have HGa := Lib.hid (HG0.out.alloc (.cells (RuK.cells [x]).toArray 37))
                  (try simp only [Act.put, List.setIfInBounds_toArray, List.set_cons_zero, List.set_cons_succ])
                  refine hK.out _ _ (cell6 (HKq.out.later (HGa.out.b))) (fun _ => ?_)
                  clear hK K
                  refine wpAnyH_ready (rs := [4]) (by kernel_rfl) (by simp) ?_
                  refine AllReadyH.cons (o := _) rfl (fun K hK => ?_) (AllReadyH.nil)
                  rw [if_pos (by rfl)]
                  refine HGa.out.wp (.tmp 28) (.tmp 31) 25 rfl Try.underlying25 t0 hi0 (.agg #[.int .i64 no.id, .string no.nm, .string no.cl, .int .i64 no.bo, .bool no.wo, .int .i64 no.ca]) hz0 64 hz1 hz2 rfl (by decide) (by rfl) (ad) (k) (_) (RuK.cells (rs.take k)) (by (try simp only [Act.eval, Act.put]); rfl) (hTl) (HTk.out _ HGa.out.b) (RuK.cells_one _) (by unfold maxLen; omega) (by omega) ?_
                  intro v1 w1 hg hgr
                  have HG1 := Lib.hid hg
                  have HR1 := Lib.hid hgr
                  clear hg hgr
                  have HX1 := Lib.hid (A3.blk_grown HX.out HR1.out (fun e => by simp [Value.ownBlock] at e))
                  (try simp only [Act.put, List.setIfInBounds_toArray, List.set_cons_zero, List.set_cons_succ])
                  refine hK.out _ _ (cell6 (HKq.out.later (HG1.out.b))) (fun _ => ?_)
                  clear hK K
                  refine wpAnyH_ready (rs := [7]) (by kernel_rfl) (by simp) ?_
                  refine AllReadyH.cons (o := _) rfl (fun K hK => ?_) (AllReadyH.nil)
                  rw [if_pos (by rfl)]
                  refine HG1.out.wp (.tmp 32) (.tmp 34) 25 rfl Try.underlying25 t0 hi0 (.agg #[.int .i64 no.id, .string no.nm, .string no.cl, .int .i64 no.bo, .bool no.wo, .int .i64 no.ca]) hz0 64 hz1 hz2 rfl (by decide) (by rfl) (⟨_, 0, none⟩) (1) (1) (RuK.cells [x]) (by (try simp only [Act.eval, Act.put]); rfl) (rfl) (A3.blk_news HX1.out) (RuK.cells_one [x]) (by unfold maxLen; omega) (by omega) ?_
                  intro v2 w2 hg hgr
                  have HG2 := Lib.hid hg
                  have HR2 := Lib.hid hgr
                  clear hg hgr
                  (try simp only [Act.put, List.setIfInBounds_toArray, List.set_cons_zero, List.set_cons_succ])
                  refine hK.out _ _ (cell6 (HKq.out.later (HG2.out.b))) (fun _ => ?_)
                  clear hK K
                  refine wpAnyH_ready (rs := [11]) (by kernel_rfl) (by simp) ?_
                  refine AllReadyH.cons (o := _) rfl (fun K hK => ?_) (AllReadyH.nil)
                  rw [if_pos (by rfl)]
                  refine HG2.out.wp (.tmp 35) (.tmp 38) 25 rfl Try.underlying25 t0 hi0 (.agg #[.int .i64 no.id, .string no.nm, .string no.cl, .int .i64 no.bo, .bool no.wo, .int .i64 no.ca]) hz0 64 hz1 hz2 rfl (by decide) (by rfl) (_) (0) (_) (RuK.cells (rs.drop k)) (by (try simp only [Act.eval, Act.put]); rfl) (hDl) (HDr.out _ _ HG2.out.b) (RuK.cells_one _) (by unfold maxLen; omega) (by omega) ?_
                  intro v3 w3 hg hgr
                  have HG3 := Lib.hid hg
                  have HR3 := Lib.hid hgr
                  clear hg hgr
                  (try simp only [Act.put, List.setIfInBounds_toArray, List.set_cons_zero, List.set_cons_succ])
                  refine hK.out _ _ (cell6 (HKq.out.later (HG3.out.b))) (fun _ => ?_)
                  clear hK K
                  refine wpAnyH_take (i := 12) (oi := _) (v := ?_) rfl (by kernel_rfl) (by kernel_rfl) (by kernel_rfl) (fun _ _ _ h => h) (Or.inl ⟨by rfl, ?_⟩) (by assumption) ?_; rotate_left; focus (intro W hSw; (try dsimp only at hSw); go_simp; (first | done | with_reducible rfl))
                  (try simp only [List.getElem_toArray, List.getElem_cons_succ, List.getElem_cons_zero, Act.put, List.setIfInBounds_toArray, List.set_cons_zero, List.set_cons_succ])
                  refine wpAnyH_done (by kernel_rfl) ?_ _
                  refine NoPanic.normal ?_
                  (try simp only [List.getElem_toArray, List.getElem_cons_succ, List.getElem_cons_zero, Act.put, List.setIfInBounds_toArray, List.set_cons_zero, List.set_cons_succ])
                  go_wp2_with fail
                  have HB3 := Lib.hid (show Below w.heap.size w w3 from HBq.out.trans (HG3.out.b.mono HBq.out.size))
                  have HO3 := Lib.hid (show Own w3 w.heap.size v3 (rs.take k ++ [x] ++ rs.drop k) from own_some HG3.out HBq.out.size HN.out hkn (by omega))
                  refine (tail_any rs HF.out x HX0.out (by rw [HN.out]; exact hl) k HP.out w3 v3 HO3.out).mono ?_
                  rintro e w5 ⟨rfl, hb⟩
                  have HB5 := Lib.hid (HB3.out.trans (hb.mono HB3.out.size))
                  have HO5 := Lib.hid (HO3.out.below hb)
                  clear hb
                  obtain ⟨g2, hg2⟩ : ∃ g, goodB (insR rs x) = g := ⟨_, rfl⟩
                  have HG2x := Lib.hid hg2
                  rw [hg2]
                  clear hg2
                  cases g2 with
                  | false =>
                    have h1 : ok = false := by rw [← HO.out]; unfold adB; rw [HG2x.out, Bool.and_false]
                    have h2 : zs = [] := by rw [← HZ.out]; unfold adL; rw [HO.out, h1]; rfl
                    subst h1 h2
                    go_wp2
                    go_ret2
                    exact ⟨_, rfl, own_none w5 w.heap.size HB5.out.size, HB5.out.alloc HB5.out.size _⟩
                  | true =>
                    have h1 : ok = true := by rw [← HO.out]; unfold adB; rw [HG.out, HG2x.out]; rfl
                    have h2 : insR rs x = zs := by rw [← HZ.out]; unfold adL; rw [HO.out, h1]; rfl
                    have HO6 := Lib.hid (show Own w5 w.heap.size v3 zs from by rw [← h2]; unfold insR; rw [HP.out]; exact HO5.out)
                    subst h1
                    clear h2
                    go_wp2
                    go_ret2
                    exact ⟨_, rfl, HO6.out, HB5.out⟩
              · go_simp
                have HX := Lib.hid (Blk.new wq.drew 37 (RuK.cells [x]).toArray)
                have HBx := Lib.hid ((Below.refl wq.heap.size wq).drew.alloc (Nat.le_refl _) (.cells (RuK.cells [x]).toArray 37))
                (try simp only [Act.put, List.setIfInBounds_toArray, List.set_cons_zero, List.set_cons_succ])
                refine hK.out _ _ (cell6 (HKq.out.later (HBx.out))) (fun _ => ?_)
                clear hK K hHeld
                refine wpAnyH_ready (rs := [0]) (by kernel_rfl) (by simp) ?_
                refine AllReadyH.cons (o := _) rfl (fun K hK => ?_) (AllReadyH.nil)
                go_simp
                have HG0 := Lib.hid (show A3.G3 wq 37 6 ((wq.drew.alloc (.cells (RuK.cells [x]).toArray 37)).alloc (.cells #[] 37)) (.slice (some ⟨wq.heap.size + 1, 0, none⟩) 0 0) 0 [] from A3.G3.after HBx.out (by simp))
                have HXo := Lib.hid (HX.out.alloc (.cells #[] 37))
                (try simp only [Act.put, List.setIfInBounds_toArray, List.set_cons_zero, List.set_cons_succ])
                refine hK.out _ _ (cell6 (HKq.out.later (HG0.out.b))) (fun _ => ?_)
                clear hK K
                refine wpAnyH_ready (rs := [4]) (by kernel_rfl) (by simp) ?_
                refine AllReadyH.cons (o := _) rfl (fun K hK => ?_) (AllReadyH.nil)
                rw [if_pos (by rfl)]
                refine HG0.out.wp (.tmp 28) (.tmp 31) 25 rfl Try.underlying25 t0 hi0 (.agg #[.int .i64 no.id, .string no.nm, .string no.cl, .int .i64 no.bo, .bool no.wo, .int .i64 no.ca]) hz0 64 hz1 hz2 rfl (by decide) (by rfl) (ad) (k) (_) (RuK.cells (rs.take k)) (by (try simp only [Act.eval, Act.put]); rfl) (hTl) (HTk.out _ HG0.out.b) (RuK.cells_one _) (by unfold maxLen; omega) (by omega) ?_
                intro v1 w1 hg hgr
                have HG1 := Lib.hid hg
                have HR1 := Lib.hid hgr
                clear hg hgr
                have HX1 := Lib.hid (A3.blk_grown HXo.out HR1.out (fun e => by simp [Value.ownBlock] at e))
                (try simp only [Act.put, List.setIfInBounds_toArray, List.set_cons_zero, List.set_cons_succ])
                refine hK.out _ _ (cell6 (HKq.out.later (HG1.out.b))) (fun _ => ?_)
                clear hK K
                refine wpAnyH_ready (rs := [7]) (by kernel_rfl) (by simp) ?_
                refine AllReadyH.cons (o := _) rfl (fun K hK => ?_) (AllReadyH.nil)
                rw [if_pos (by rfl)]
                refine HG1.out.wp (.tmp 32) (.tmp 34) 25 rfl Try.underlying25 t0 hi0 (.agg #[.int .i64 no.id, .string no.nm, .string no.cl, .int .i64 no.bo, .bool no.wo, .int .i64 no.ca]) hz0 64 hz1 hz2 rfl (by decide) (by rfl) (⟨_, 0, none⟩) (1) (1) (RuK.cells [x]) (by (try simp only [Act.eval, Act.put]); rfl) (rfl) (A3.blk_news HX1.out) (RuK.cells_one [x]) (by unfold maxLen; omega) (by omega) ?_
                intro v2 w2 hg hgr
                have HG2 := Lib.hid hg
                have HR2 := Lib.hid hgr
                clear hg hgr
                (try simp only [Act.put, List.setIfInBounds_toArray, List.set_cons_zero, List.set_cons_succ])
                refine hK.out _ _ (cell6 (HKq.out.later (HG2.out.b))) (fun _ => ?_)
                clear hK K
                refine wpAnyH_ready (rs := [11]) (by kernel_rfl) (by simp) ?_
                refine AllReadyH.cons (o := _) rfl (fun K hK => ?_) (AllReadyH.nil)
                rw [if_pos (by rfl)]
                refine HG2.out.wp (.tmp 35) (.tmp 38) 25 rfl Try.underlying25 t0 hi0 (.agg #[.int .i64 no.id, .string no.nm, .string no.cl, .int .i64 no.bo, .bool no.wo, .int .i64 no.ca]) hz0 64 hz1 hz2 rfl (by decide) (by rfl) (_) (0) (_) (RuK.cells (rs.drop k)) (by (try simp only [Act.eval, Act.put]); rfl) (hDl) (HDr.out _ _ HG2.out.b) (RuK.cells_one _) (by unfold maxLen; omega) (by omega) ?_
                intro v3 w3 hg hgr
                have HG3 := Lib.hid hg
                have HR3 := Lib.hid hgr
                clear hg hgr
                (try simp only [Act.put, List.setIfInBounds_toArray, List.set_cons_zero, List.set_cons_succ])
                refine hK.out _ _ (cell6 (HKq.out.later (HG3.out.b))) (fun _ => ?_)
                clear hK K
                refine wpAnyH_take (i := 12) (oi := _) (v := ?_) rfl (by kernel_rfl) (by kernel_rfl) (by kernel_rfl) (fun _ _ _ h => h) (Or.inl ⟨by rfl, ?_⟩) (by assumption) ?_; rotate_left; focus (intro W hSw; (try dsimp only at hSw); go_simp; (first | done | with_reducible rfl))
                (try simp only [List.getElem_toArray, List.getElem_cons_succ, List.getElem_cons_zero, Act.put, List.setIfInBounds_toArray, List.set_cons_zero, List.set_cons_succ])
                refine wpAnyH_done (by kernel_rfl) ?_ _
                refine NoPanic.normal ?_
                (try simp only [List.getElem_toArray, List.getElem_cons_succ, List.getElem_cons_zero, Act.put, List.setIfInBounds_toArray, List.set_cons_zero, List.set_cons_succ])
                go_wp2_with fail
                have HB3 := Lib.hid (show Below w.heap.size w w3 from HBq.out.trans (HG3.out.b.mono HBq.out.size))
                have HO3 := Lib.hid (show Own w3 w.heap.size v3 (rs.take k ++ [x] ++ rs.drop k) from own_some HG3.out HBq.out.size HN.out hkn (by omega))
                refine (tail_any rs HF.out x HX0.out (by rw [HN.out]; exact hl) k HP.out w3 v3 HO3.out).mono ?_
                rintro e w5 ⟨rfl, hb⟩
                have HB5 := Lib.hid (HB3.out.trans (hb.mono HB3.out.size))
                have HO5 := Lib.hid (HO3.out.below hb)
                clear hb
                obtain ⟨g2, hg2⟩ : ∃ g, goodB (insR rs x) = g := ⟨_, rfl⟩
                have HG2x := Lib.hid hg2
                rw [hg2]
                clear hg2
                cases g2 with
                | false =>
                  have h1 : ok = false := by rw [← HO.out]; unfold adB; rw [HG2x.out, Bool.and_false]
                  have h2 : zs = [] := by rw [← HZ.out]; unfold adL; rw [HO.out, h1]; rfl
                  subst h1 h2
                  go_wp2
                  go_ret2
                  exact ⟨_, rfl, own_none w5 w.heap.size HB5.out.size, HB5.out.alloc HB5.out.size _⟩
                | true =>
                  have h1 : ok = true := by rw [← HO.out]; unfold adB; rw [HG.out, HG2x.out]; rfl
                  have h2 : insR rs x = zs := by rw [← HZ.out]; unfold adL; rw [HO.out, h1]; rfl
                  have HO6 := Lib.hid (show Own w5 w.heap.size v3 zs from by rw [← h2]; unfold insR; rw [HP.out]; exact HO5.out)
                  subst h1
                  clear h2
                  go_wp2
                  go_ret2
                  exact ⟨_, rfl, HO6.out, HB5.out⟩


theorem ad_len (rs : List Ru) (x : Ru) : (adL rs x).length ≤ 10 := by
  unfold adL
  split
  · rename_i h
    unfold adB at h
    rw [Bool.and_eq_true] at h
    exact (of_decide_eq_true h.2 : GoodP (insR rs x)).1
  · exact Nat.zero_le _
end Go.Proofs.Ytleoljnofdajfaa.AdS
