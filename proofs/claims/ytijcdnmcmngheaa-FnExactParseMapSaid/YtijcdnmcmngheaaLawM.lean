/- What stands on the way through an exact law with maps. -/
import Derived.Test.YtijcdnmcmngheaaSpecB
import Derived.Test.YtijcdnmcmngheaaMapO
import Derived.Deep.RegionWith
namespace Go.Proofs.Ytijcdnmcmngheaa.LawM
open Go.RowKit Lb IntS MapS MapV MapO
set_option linter.unusedSimpArgs false
set_option linter.unusedVariables false

/-- The argument's box, and the model's answer in its box at 's'. -/
structure StA (W : World) (m : Mp) (a : Option Addr) (ca : Nat) (b : Option Addr) (cb : Nat) (m' : Mp) (a3 : Option Addr) (c3 : Nat) (b3 : Option Addr) (d3 : Nat) (s : Nat) (wx : World) : Prop where
  hb : Below W.heap.size W wx
  hk : Blk wx W.heap.size 51 #[.int .i64 m.W, .int .i64 m.H, .slice a m.R.length ca, .slice b m.C.length cb]
  hp : Blk wx s 26 #[.int .i64 m'.W, .int .i64 m'.H, .slice a3 m'.R.length c3, .slice b3 m'.C.length d3]
  hw : IRow wx a3 m'.R
  hv : IRow wx b3 m'.C
section
variable {W : World} {m : Mp} {a : Option Addr} {ca : Nat} {b : Option Addr} {cb : Nat} {m' : Mp} {a3 : Option Addr} {c3 : Nat} {b3 : Option Addr} {d3 : Nat} {s : Nat} {wx w' : World}
theorem StA.later (h : StA W m a ca b cb m' a3 c3 b3 d3 s wx) (hb : Below wx.heap.size wx w') : StA W m a ca b cb m' a3 c3 b3 d3 s w' :=
  ⟨h.hb.trans (hb.mono h.hb.size), h.hk.later hb, h.hp.later hb, RowAt.below h.hw hb, RowAt.below h.hv hb⟩
theorem StA.drew (h : StA W m a ca b cb m' a3 c3 b3 d3 s wx) : StA W m a ca b cb m' a3 c3 b3 d3 s wx.drew := ⟨h.hb.drew, h.hk, h.hp, h.hw, h.hv⟩
theorem StA.chg {lo hi : Nat} (h : StA W m a ca b cb m' a3 c3 b3 d3 s wx) (hc : Chg lo hi wx w') (h1 : W.heap.size < lo) (h2 : s < lo) (h0 : lo ≤ wx.heap.size) (ha : ∀ x, a3 = some x → x.block < s) (hb : ∀ x, b3 = some x → x.block < s) : StA W m a ca b cb m' a3 c3 b3 d3 s w' :=
  ⟨h.hb.trans ((hc.below h0).mono (by omega)), (hc.block _ h.hk.lt (.inl h1)).trans h.hk, (hc.block _ h.hp.lt (.inl h2)).trans h.hp, hc.row h.hw (fun p e => .inl (by have := ha p e; omega)), hc.row h.hv (fun p e => .inl (by have := hb p e; omega))⟩
end
/-- A map of the call's own, its rows in blocks from 'lo' to 'hi', in its box at 's'. -/
structure StX (m : Mp) (a : Option Addr) (ca : Nat) (b : Option Addr) (cb : Nat) (lo hi s : Nat) (wx : World) : Prop where
  x : Blk wx s 26 #[.int .i64 m.W, .int .i64 m.H, .slice a m.R.length ca, .slice b m.C.length cb]
  r : OwnI wx lo (.slice a m.R.length ca) m.R
  c : OwnI wx lo (.slice b m.C.length cb) m.C
  n : ∀ x y, a = some x → b = some y → x.block ≠ y.block
  la : ∀ x, a = some x → x.block < hi
  lb : ∀ x, b = some x → x.block < hi
section
variable {m : Mp} {a : Option Addr} {ca : Nat} {b : Option Addr} {cb : Nat} {lo hi s : Nat} {wx w' : World}
theorem StX.later (h : StX m a ca b cb lo hi s wx) (hb : Below wx.heap.size wx w') : StX m a ca b cb lo hi s w' := ⟨h.x.later hb, h.r.below hb, h.c.below hb, h.n, h.la, h.lb⟩
theorem StX.drew (h : StX m a ca b cb lo hi s wx) : StX m a ca b cb lo hi s wx.drew := ⟨h.x, h.r, h.c, h.n, h.la, h.lb⟩
theorem StX.chg {lo' hi' : Nat} (h : StX m a ca b cb lo hi s wx) (hc : Chg lo' hi' wx w') (h1 : lo' ≤ hi') (h3 : lo ≤ s) (h2 : hi' ≤ lo := by omega) : StX m a ca b cb lo hi s w' :=
  ⟨(hc.block _ h.x.lt (.inr (by omega))).trans h.x, hc.own h.r (fun p e => .inr (by have := (OwnI.lt h.r p e).1; omega)), hc.own h.c (fun p e => .inr (by have := (OwnI.lt h.c p e).1; omega)), h.n, h.la, h.lb⟩
end
/-- A marked map in its box. -/
structure StM (m : Mp) (a : Option Addr) (ca : Nat) (b : Option Addr) (cb : Nat) (s : Nat) (wx : World) : Prop where
  x : Blk wx s 26 #[.int .i64 m.W, .int .i64 m.H, .slice a m.R.length ca, .slice b m.C.length cb]
  r : IRow wx a (markM m).R
  c : IRow wx b (markM m).C
theorem StM.later {m : Mp} {a : Option Addr} {ca : Nat} {b : Option Addr} {cb : Nat} {s : Nat} {wx w' : World} (h : StM m a ca b cb s wx) (hb : Below wx.heap.size wx w') : StM m a ca b cb s w' := ⟨h.x.later hb, RowAt.below h.r hb, RowAt.below h.c hb⟩
theorem mrow_mark {w : World} {base n cap : Nat} {a : Option Addr} {zs : List Int} (h : OwnI w base (.slice a n cap) zs) (hn : zs.length = n) : IRow w a zs := by
  subst hn; exact OwnI.row h

end Go.Proofs.Ytijcdnmcmngheaa.LawM
