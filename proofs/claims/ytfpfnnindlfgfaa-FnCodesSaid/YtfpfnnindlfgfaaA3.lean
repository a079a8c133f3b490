/- A row made by three appends in one region: laws of no program. -/
import Derived.Test.YtfpfnnindlfgfaaBk
import Derived.Test.YtfpfnnindlfgfaaInsG
import Derived.Maps.AppendAt
namespace Go.Proofs.Ytfpfnnindlfgfaa.A3
open Go.RowKit Bk
set_option linter.unusedSimpArgs false
set_option linter.unusedVariables false

/-- A row of the region's own; below it all is as it was. -/
structure G3 (W : World) (E : TypeId) (S : Nat) (wx : World) (v : Value) (n : Nat) (xs : List Value) : Prop where
  b : Below W.heap.size W wx
  own : wx.ownsRow W.heap.size E S v n xs
variable {W wx : World} {E : TypeId} {S : Nat} {v : Value} {n : Nat} {xs : List Value}
theorem G3.alloc (h : G3 W E S wx v n xs) (o : Obj) : G3 W E S (wx.alloc o) v n xs := ⟨h.b.alloc h.b.size o, h.own.alloc o⟩
theorem G3.drew (h : G3 W E S wx v n xs) : G3 W E S wx.drew v n xs := ⟨h.b.drew, Bk.owns_below h.own (Below.refl _ _).drew⟩
theorem G3.start (W : World) (E : TypeId) (S : Nat) : G3 W E S (W.drew.alloc (.cells #[] E)) (.slice (some ⟨W.heap.size, 0, none⟩) 0 0) 0 [] :=
  ⟨(Below.refl W.heap.size W).drew.alloc (Nat.le_refl _) _, World.ownsRow_made (e := E) (size := S) W.drew #[] 0 (Nat.le_refl _) (Nat.zero_le _) (by simp)⟩
theorem G3.after (hb : Below W.heap.size W wx) {g : Nat} (hg : g = wx.heap.size) : G3 W E S (wx.alloc (.cells #[] E)) (.slice (some ⟨g, 0, none⟩) 0 0) 0 [] := by
  subst hg
  exact ⟨hb.alloc hb.size _, World.ownsRow_made (e := E) (size := S) wx #[] 0 hb.size (Nat.zero_le _) (by simp)⟩
theorem G3.lt (h : G3 W E S wx v n xs) {k : Nat} (e : v.ownBlock = some k) : k < wx.heap.size := (h.own.lt k e).2
theorem G3.ge (h : G3 W E S wx v n xs) {k : Nat} (e : v.ownBlock = some k) : W.heap.size ≤ k := (h.own.lt k e).1
theorem blk_grown {w w' : World} {g : Nat} {t : TypeId} {cs : Array Value} {r : Option Nat} (h : Blk w g t cs) (hg : w.grownBy w' r) (hr : r ≠ some g) : Blk w' g t cs := (hg.block g h.lt (fun e => hr e.symm)).trans h
theorem blk_news {w : World} {g : Nat} {t : TypeId} {news : List Value} (h : Blk w g t news.toArray) : ∀ j u, news[j]? = some u → w.cell? ((⟨g, 0, none⟩ : Addr).add j) = some u := fun j u hj => by
  have e : (⟨g, 0, none⟩ : Addr).add j = ⟨g, j, none⟩ := by unfold Addr.add; split <;> simp_all
  rw [e]
  exact h.cell j (by simpa using hj)

theorem G3.wp {P : Program} {o : Oper} {a : Act} {K : Act → World → Prop} {Q : Exit → Act → World → Prop} (h : G3 W E S wx v n xs) (s x : Operand) (t : TypeId)
    (ho : o.op = .call { callee := .builtin .append, args := #[s, x], argTypes := #[t, t] }) (ht : P.underlying t = some (.slice E)) (i : TypeInfo) (hi : P.info? E = some i) (z : Value) (hz : i.zero = some z) (bytes : Nat)
    (hsize : i.size = S) (hby : i.bytes = bytes) (hzs : z.cells.size = S) (hsz : 0 < S) (hs : a.eval s = v)
    (ad : Addr) (m c : Nat) (news : List Value) (hx : a.eval x = .slice (some ad) m c) (hl : news.length = m * S) (hnews : ∀ j u, news[j]? = some u → wx.cell? (ad.add j) = some u) (h1 : ∀ u ∈ news, u.oneCell' = true)
    (h63 : n + m ≤ maxLen) (hbytes : (n + m) * bytes ≤ 140737488355328)
    (k : ∀ v' w', G3 W E S w' v' (n + m) (xs ++ news) → wx.grownBy w' v.ownBlock → K (a.put o.dst v') w') : o.wp P a wx K Q :=
  wp_append_own wx s x t ho W.heap.size E i z S bytes ht hi hz hsize hby hzs hsz v n xs hs h.own ad m c news hx hl hnews h1 h63 hbytes h.b.size fun v' w' h2 h3 _ =>
    k v' w' ⟨h.b.grown h3 h.b.size (fun q e => h.ge e), h2⟩ h3
theorem G3.wp_none {P : Program} {o : Oper} {a : Act} {K : Act → World → Prop} {Q : Exit → Act → World → Prop} (h : G3 W E S wx v n xs) (s x : Operand) (t : TypeId)
    (ho : o.op = .call { callee := .builtin .append, args := #[s, x], argTypes := #[t, t] }) (ht : P.underlying t = some (.slice E)) (i : TypeInfo) (hi : P.info? E = some i)
    (hsize : i.size = S) (hs : a.eval s = v) (c : Nat) (hx : a.eval x = .slice none 0 c) (k : K (a.put o.dst v) wx) : o.wp P a wx K Q := by
  have hr : (Builtin.append_ #[t, t] o.type #[v, .slice none 0 c]).run P wx = .ok v wx := by
    rcases h.own.2 with ⟨rfl, rfl⟩ | ⟨g, cap, cur, rfl, _, _, hnc, _⟩
    · simp [Builtin.append_, run_underlying ht, sizeOf, typeInfo, hi, Builtin.lenOf, Builtin.firstCells]
    · simp [Builtin.append_, run_underlying ht, sizeOf, typeInfo, hi, Builtin.lenOf, Builtin.firstCells, hnc, storeCells]
  unfold Oper.wp execOp
  simp only [ho, resolve, invoke, builtin, Sem.run_bind, Sem.run_pure, Result.andThen_ok, List.map_toArray, List.map_cons, List.map_nil, hs, hx, hr]
  exact k
end Go.Proofs.Ytfpfnnindlfgfaa.A3
