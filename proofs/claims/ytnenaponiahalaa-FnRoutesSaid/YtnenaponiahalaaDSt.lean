/- What stands while a map and cells are drawn. -/
import Derived.Test.YtnenaponiahalaaCelD
namespace Go.Proofs.Ytnenaponiahalaa.DrwM
open Go.RowKit Lb Cur IntS MapS MapV SpecB CurM CodM
set_option linter.unusedSimpArgs false
set_option linter.unusedVariables false

theorem ok_drew {w : World} {b m : Nat} (h : Ok w b m) : Ok w.drew b m := h

/-- A map and a number that were drawn. -/
def CPost (w : World) (e : Ending) (w' : World) : Prop := ∃ (v : Value) (z : Int), e = .returned (.tuple #[v, .int .i64 z]) ∧ (∃ m : Mp, OwnM w' w.heap.size v m ∧ m.R.length ≤ 21 ∧ m.C.length ≤ 21) ∧ Below w.heap.size w w'

/-- What stands while a step is drawn. -/
structure DSt (w : World) (m : Mp) (ar : Option Addr) (cr : Nat) (ac : Option Addr) (cc B mm : Nat) (wx : World) : Prop where
  b : Below w.heap.size w wx
  res : Blk wx w.heap.size 26 #[.int .i64 0, .int .i64 0, .slice none 0 0, .slice none 0 0]
  box : Blk wx B 26 #[.int .i64 m.W, .int .i64 m.H, .slice ar m.R.length cr, .slice ac m.C.length cc]
  r : OwnI wx (w.heap.size + 1 + 1) (.slice ar m.R.length cr) m.R
  c : OwnI wx (w.heap.size + 1 + 1) (.slice ac m.C.length cc) m.C
  ok : Ok wx (w.heap.size + 1) mm
section
variable {w : World} {m : Mp} {ar ac : Option Addr} {cr cc B mm : Nat} {wx w' : World}
theorem DSt.below (h : DSt w m ar cr ac cc B mm wx) (hb : Below wx.heap.size wx w') : DSt w m ar cr ac cc B mm w' :=
  ⟨h.b.trans (hb.mono h.b.size), h.res.later hb, h.box.later hb, h.r.below hb, h.c.below hb, h.ok.below hb⟩
theorem DSt.drew (h : DSt w m ar cr ac cc B mm wx) : DSt w m ar cr ac cc B mm wx.drew := ⟨h.b.drew, h.res, h.box, h.r, h.c, h.ok⟩
theorem DSt.mono {mm' : Nat} (h : DSt w m ar cr ac cc B mm wx) (hm : mm ≤ mm') : DSt w m ar cr ac cc B mm' wx := ⟨h.b, h.res, h.box, h.r, h.c, h.ok.mono hm⟩
theorem DSt.step {mm' : Nat} (h : DSt w m ar cr ac cc B mm wx) (hB : w.heap.size + 1 < B) (ho : Ok w' (w.heap.size + 1) mm') (hg : wx.grownBy w' (some (w.heap.size + 1))) : DSt w m ar cr ac cc B mm' w' :=
  ⟨below_of_grown h.b hg h.b.size (by omega), blk_grown h.res hg (by simp), blk_grown h.box hg (by simp; omega), own_grown h.r hg (fun x y hx hy => by cases hy; have := (h.r.lt x hx).1; omega), own_grown h.c hg (fun x y hx hy => by cases hy; have := (h.c.lt x hx).1; omega), ho⟩
theorem DSt.rowR (h : DSt w m ar cr ac cc B mm wx) : IRow wx ar m.R := OwnI.row h.r
theorem DSt.rowC (h : DSt w m ar cr ac cc B mm wx) : IRow wx ac m.C := OwnI.row h.c
end

/-- A map and two numbers that were drawn. -/
def SPost (w : World) (e : Ending) (w' : World) : Prop := ∃ (v : Value) (y z : Int), e = .returned (.tuple #[v, .int .i64 y, .int .i64 z]) ∧ (∃ m : Mp, OwnM w' w.heap.size v m ∧ m.R.length ≤ 21 ∧ m.C.length ≤ 21) ∧ Below w.heap.size w w'

/-- A map and three numbers that were drawn. -/
def TPost (w : World) (e : Ending) (w' : World) : Prop := ∃ (v : Value) (x y z : Int), e = .returned (.tuple #[v, .int .i64 x, .int .i64 y, .int .i64 z]) ∧ (∃ m : Mp, OwnM w' w.heap.size v m ∧ m.R.length ≤ 21 ∧ m.C.length ≤ 21) ∧ Below w.heap.size w w'

end Go.Proofs.Ytnenaponiahalaa.DrwM
