/- Rows that are made longer in the middle: laws of no program. -/
import Derived.Test.YtdfmfmndmldggaaBaA
import Derived.Laws.CopyOwn
import Derived.Lib.AppendZerosOnto
import Derived.Lib.Overlaps
import Derived.Shelf.Spec.SlicesInsert
namespace Go.Proofs.Ytdfmfmndmldggaa.InsG
open Go.RowKit Bk
set_option linter.unusedSimpArgs false
set_option linter.unusedVariables false

/-- copy into a block that is known whole, elements of any size. -/
theorem run_copy_rowN {P : Program} (w : World) (dT sT ty elem : TypeId) (size : Nat) (g o dLen dCap : Nat) (a : Addr) (sLen sCap : Nat) (cur : Array Value) (t : TypeId) (cs : List Value)
    (hu : P.underlying dT = some (.slice elem)) (hs : (P.info? elem).map (·.size) = some size)
    (hg : w.heap[g]? = some (.cells cur t (0, 0))) (hn : cs.length = Nat.min sLen dLen * size)
    (hsrc : ∀ j v, cs[j]? = some v → w.cell? (a.add j) = some v) (hfit : o + cs.length ≤ cur.size) (h1 : ∀ v ∈ cs, v.oneCell' = true) :
    (Builtin.copy_ #[dT, sT] ty #[.slice (some ⟨g, o, none⟩) dLen dCap, .slice (some a) sLen sCap]).run P w =
      .ok (goInt (Nat.min sLen dLen)) (w.setRow g (cur.toList.take o ++ cs ++ cur.toList.drop (o + cs.length)).toArray) := by
  have hl := run_loadCells_list (P := P) w a cs hsrc
  have hst := run_storeCells_at P g o t cs 0 cur w hg (by simpa using hfit) h1
  cases hq : P.info? elem with
  | none => simp [hq] at hs
  | some i =>
    have hi : i.size = size := by simpa [hq] using hs
    simp [Builtin.copy_, run_underlying hu, Builtin.lenOf, Builtin.firstCells, sizeOf, typeInfo, hq, hi, ← hn, hl, hst]

/-- The row behind the copies: first the tail moves up. -/
theorem shift_take {xs news cur : List Value} {K M N : Nat} (hx : xs.length = N) (hk : K ≤ N) (hm : news.length = M) (hc : N + M ≤ cur.length) (h0 : cur.take N = xs) :
    let c1 := cur.take (K + M) ++ xs.drop K ++ cur.drop (K + M + (xs.drop K).length)
    let c2 := c1.take K ++ news ++ c1.drop (K + news.length)
    c2.take (N + M) = xs.take K ++ news ++ xs.drop K ∧ c2.length = cur.length ∧ c1.length = cur.length := by
  intro c1 c2
  have hcK : cur.take K = xs.take K := by rw [← h0, List.take_take, Nat.min_eq_left hk]
  have hd : (xs.drop K).length = N - K := by rw [List.length_drop, hx]
  have hkm : (cur.take (K + M)).length = K + M := by rw [List.length_take]; omega
  have hc1 : c1.length = cur.length := by simp only [c1, List.length_append, hkm, hd, List.length_drop]; omega
  have e1 : c1.take K = xs.take K := by
    show (cur.take (K + M) ++ xs.drop K ++ cur.drop (K + M + (xs.drop K).length)).take K = _
    rw [List.append_assoc, List.take_append_of_le_length (by omega), List.take_take, Nat.min_eq_left (by omega), hcK]
  have e2 : c1.drop (K + news.length) = xs.drop K ++ cur.drop (K + M + (xs.drop K).length) := by
    show (cur.take (K + M) ++ xs.drop K ++ cur.drop (K + M + (xs.drop K).length)).drop (K + news.length) = _
    rw [List.append_assoc, hm]
    exact List.drop_left' hkm
  refine ⟨?_, ?_, hc1⟩
  · show (c1.take K ++ news ++ c1.drop (K + news.length)).take (N + M) = _
    rw [e1, e2, ← List.append_assoc]
    refine List.take_left' ?_
    simp only [List.length_append, List.length_take, hm, hd, hx]
    omega
  · show (c1.take K ++ news ++ c1.drop (K + news.length)).length = _
    simp only [List.length_append, List.length_take, List.length_drop, hm, hc1]
    omega

/-- The row behind the copies: into a new row, first the new elements. -/
theorem grow_take {xs news cur : List Value} {K M N : Nat} (hx : xs.length = N) (hk : K ≤ N) (hm : news.length = M) (hc : N + M ≤ cur.length) (h0 : cur.take K = xs.take K) :
    let c1 := cur.take K ++ news ++ cur.drop (K + news.length)
    let c2 := c1.take (K + M) ++ xs.drop K ++ c1.drop (K + M + (xs.drop K).length)
    c2.take (N + M) = xs.take K ++ news ++ xs.drop K ∧ c2.length = cur.length ∧ c1.length = cur.length := by
  intro c1 c2
  have hd : (xs.drop K).length = N - K := by rw [List.length_drop, hx]
  have hc1 : c1.length = cur.length := by simp only [c1, List.length_append, List.length_take, List.length_drop, hm]; omega
  have hl : (cur.take K ++ news).length = K + M := by rw [List.length_append, List.length_take, hm]; omega
  have e1 : c1.take (K + M) = xs.take K ++ news := by
    show (cur.take K ++ news ++ cur.drop (K + news.length)).take (K + M) = _
    rw [List.take_left' hl, h0]
  refine ⟨?_, ?_, hc1⟩
  · show (c1.take (K + M) ++ xs.drop K ++ c1.drop (K + M + (xs.drop K).length)).take (N + M) = _
    rw [e1]
    refine List.take_left' ?_
    simp only [List.length_append, List.length_take, hm, hd, hx]
    omega
  · show (c1.take (K + M) ++ xs.drop K ++ c1.drop (K + M + (xs.drop K).length)).length = _
    simp only [List.length_append, List.length_take, List.length_drop, hd, hc1]
    omega

theorem owns_of_block {w : World} {base g n cap size : Nat} {e : TypeId} {cur xs : List Value} (hb : base ≤ g) (hg : w.heap[g]? = some (.cells cur.toArray e (0, 0))) (hn : n ≤ cap) (hc : cap ≤ maxLen) (hs : cur.length = cap * size) (ht : cur.take (n * size) = xs) (hx : xs.length = n * size) :
    w.ownsRow base e size (.slice (some ⟨g, 0, none⟩) n cap) n xs :=
  ⟨hx, .inr ⟨g, cap, cur.toArray, rfl, hb, hg, hn, hc, by simpa using hs, by simpa using ht⟩⟩

theorem grown_setRow (w : World) (g : Nat) (cs : Array Value) : w.grownBy (w.setRow g cs) (some g) :=
  ⟨rfl, rfl, rfl, by simp [World.setRow], fun k hk he => setRow_other w g k cs (fun e => he (by rw [e]))⟩
theorem setRow_size (w : World) (g : Nat) (cs : Array Value) : (w.setRow g cs).heap.size = w.heap.size := by simp [World.setRow]
theorem grown_two (w : World) (g : Nat) (c1 c2 : Array Value) : w.grownBy ((w.drew.setRow g c1).setRow g c2) (some g) :=
  ⟨rfl, rfl, rfl, by rw [setRow_size, setRow_size]; exact Nat.le_refl _, fun k hk he => (setRow_other _ g k c2 (fun e => he (by rw [e]))).trans (setRow_other w.drew g k c1 (fun e => he (by rw [e])))⟩
theorem grown_new (w : World) (e : TypeId) (c0 c1 c2 : Array Value) (r : Option Nat) : w.grownBy (((w.drew.alloc (.cells c0 e)).setRow w.heap.size c1).drew.setRow w.heap.size c2) r :=
  ⟨rfl, rfl, rfl, by
    rw [setRow_size]
    show w.heap.size ≤ ((w.drew.alloc (.cells c0 e)).setRow w.heap.size c1).heap.size
    rw [setRow_size]
    exact ((Below.refl w.heap.size w).drew.alloc (Nat.le_refl _) _).size, fun k hk _ => (setRow_other _ w.heap.size k c2 (Nat.ne_of_lt hk)).trans ((setRow_other (w.drew.alloc (.cells c0 e)) w.heap.size k c1 (Nat.ne_of_lt hk)).trans (Below.heap_alloc w.drew _ k hk))⟩
end Go.Proofs.Ytdfmfmndmldggaa.InsG
