/- A drawn map and controls on it: what stands while they are drawn. -/
import Derived.Test.YtfpfnnindlfgfaaOpnD
import Derived.Test.YtfpfnnindlfgfaaDSt
import Derived.Test.YtfpfnnindlfgfaaDrwW
import Derived.Test.YtfpfnnindlfgfaaCtN
import Derived.Test.YtfpfnnindlfgfaaCtM
import Derived.Deep.RegionHeld3
import Derived.Deep.MidRow
import Derived.Deep.LoopGhost
import Derived.Deep.AppendLies
import Derived.Maps.AppendAt
namespace Go.Proofs.Ytfpfnnindlfgfaa.CtDr
open Go.RowKit Lb Cur IntS MapS SpecB CurM CodM DrwM
set_option linter.unusedSimpArgs false
set_option linter.unusedVariables false

/-- What stands: a reader at 'b', a map that has been drawn and its box at 'B', a list that grows; all of it behind 'S'. -/
structure St (w : World) (b S B R G : Nat) (m : Mp) (ar : Option Addr) (cr : Nat) (ac : Option Addr) (cc : Nat) (mm : Nat) (v : Value) (fs : List Ct) (wx : World) : Prop where
  g : w.grownBy wx (some b)
  ok : Ok wx b mm
  bS : b < S
  sB : S ≤ B
  box : Blk wx B 26 #[.int .i64 m.W, .int .i64 m.H, .slice ar m.R.length cr, .slice ac m.C.length cc]
  r : OwnI wx S (.slice ar m.R.length cr) m.R
  c : OwnI wx S (.slice ac m.C.length cc) m.C
  L : CtK.Own wx S v fs
  res : Blk wx R 26 #[.int .i64 0, .int .i64 0, .slice none 0 0, .slice none 0 0]
  cd : Blk wx G 3 #[.int .i64 31, .int .i64 32, .int .i64 34, .int .i64 41, .int .i64 43, .int .i64 45, .int .i64 54, .int .i64 60, .int .i64 77, .int .i64 99]
  nRb : R ≠ b
  nGb : G ≠ b
section
variable {w : World} {b S B R G : Nat} {m : Mp} {ar ac : Option Addr} {cr cc mm : Nat} {v : Value} {fs : List Ct} {wx w' : World}
theorem St.below (h : St w b S B R G m ar cr ac cc mm v fs wx) (hb : Below wx.heap.size wx w') : St w b S B R G m ar cr ac cc mm v fs w' :=
  ⟨gtrans h.g (gbelow hb _), h.ok.below hb, h.bS, h.sB, h.box.later hb, h.r.below hb, h.c.below hb, h.L.below hb, h.res.later hb, h.cd.later hb, h.nRb, h.nGb⟩
theorem St.drew (h : St w b S B R G m ar cr ac cc mm v fs wx) : St w b S B R G m ar cr ac cc mm v fs wx.drew := h.below (Below.refl _ _).drew
theorem St.alloc (h : St w b S B R G m ar cr ac cc mm v fs wx) (o : Obj) : St w b S B R G m ar cr ac cc mm v fs (wx.alloc o) := h.below ((Below.refl _ _).alloc (Nat.le_refl _) _)
theorem St.mono {mm' : Nat} (h : St w b S B R G m ar cr ac cc mm v fs wx) (hm : mm ≤ mm') : St w b S B R G m ar cr ac cc mm' v fs wx := ⟨h.g, h.ok.mono hm, h.bS, h.sB, h.box, h.r, h.c, h.L, h.res, h.cd, h.nRb, h.nGb⟩
theorem own_kept {e : TypeId} {size n : Nat} {xs : List Value} (h : wx.ownsRow S e size v n xs) (hg : wx.grownBy w' (some b)) (hb : b < S) : w'.ownsRow S e size v n xs :=
  World.ownsRow.kept h hg (.inr (fun e => by have := (World.ownsRow.lt h b e).1; omega))
theorem St.step {mm' : Nat} (h : St w b S B R G m ar cr ac cc mm v fs wx) (ho : Ok w' b mm') (hg : wx.grownBy w' (some b)) : St w b S B R G m ar cr ac cc mm' v fs w' :=
  ⟨gtrans h.g hg, ho, h.bS, h.sB, blk_grown h.box hg (by have := h.bS; have := h.sB; simp; omega), own_kept h.r hg h.bS, own_kept h.c hg h.bS, own_kept h.L hg h.bS, blk_grown h.res hg (by have := h.nRb; simp; omega), blk_grown h.cd hg (by have := h.nGb; simp; omega), h.nRb, h.nGb⟩
theorem St.rowR (h : St w b S B R G m ar cr ac cc mm v fs wx) : IRow wx ar m.R := OwnI.row h.r
theorem St.rowC (h : St w b S B R G m ar cr ac cc mm v fs wx) : IRow wx ac m.C := OwnI.row h.c
theorem St.nR (h : St w b S B R G m ar cr ac cc mm v fs wx) : ∀ x, ar = some x → x.block ≠ b := fun x e => by have := (OwnI.lt h.r x e).1; have := h.bS; omega
theorem St.nC (h : St w b S B R G m ar cr ac cc mm v fs wx) : ∀ x, ac = some x → x.block ≠ b := fun x e => by have := (OwnI.lt h.c x e).1; have := h.bS; omega
theorem St.bB (h : St w b S B R G m ar cr ac cc mm v fs wx) : b ≠ B := by have := h.bS; have := h.sB; omega
/-- Rows of other elements, and boxes, stand beside a row that grows. -/
theorem ne_type {base base' n n' size size' : Nat} {e e' : TypeId} {v v' : Value} {xs xs' : List Value} (h : wx.ownsRow base e size v n xs) (h' : wx.ownsRow base' e' size' v' n' xs') (he : e ≠ e') : v.ownBlock = none ∨ v.ownBlock ≠ v'.ownBlock := by
  rcases h.2 with ⟨rfl, _⟩ | ⟨g, cap, cur, rfl, _, hg, _⟩
  · exact .inl rfl
  · refine .inr fun e0 => ?_
    rcases h'.2 with ⟨rfl, _⟩ | ⟨g', cap', cur', rfl, _, hg', _⟩
    · cases e0
    · have h1 : g = g' := by simpa [Value.ownBlock] using e0
      subst h1
      rw [hg] at hg'
      simp at hg'
      exact he hg'.2
theorem ne_box {base n size : Nat} {e t : TypeId} {v : Value} {xs : List Value} {A : Nat} {cs : Array Value} (h : wx.ownsRow base e size v n xs) (hb : Blk wx A t cs) (he : e ≠ t) : v.ownBlock ≠ some A := by
  intro e0
  rcases h.2 with ⟨rfl, _⟩ | ⟨g, cap, cur, rfl, _, hg, _⟩
  · cases e0
  · have h1 : g = A := by simpa [Value.ownBlock] using e0
    subst h1
    unfold Blk at hb
    rw [hg] at hb
    simp at hb
    exact he hb.2
theorem St.put {v' : Value} {x : Ct} (h : St w b S B R G m ar cr ac cc mm v fs wx) (hw : w.heap.size ≤ S) (ho : w'.ownsRow S 58 2 v' (fs.length + 1) (CtK.cells fs ++ CtK.cells [x])) (hg : wx.grownBy w' v.ownBlock) : St w b S B R G m ar cr ac cc mm v' (fs ++ [x]) w' := by
  have hbw : ∀ k, v.ownBlock = some k → S ≤ k := fun k e => (World.ownsRow.lt h.L k e).1
  have hwx : w.heap.size ≤ wx.heap.size := h.g.size
  refine ⟨?_, ?_, h.bS, h.sB, ?_, ?_, ?_, CtK.Own.cat rfl rfl ho, blk_grown h.res hg (fun e => ne_box h.L h.res (by decide) e), blk_grown h.cd hg (fun e => ne_box h.L h.cd (by decide) e), h.nRb, h.nGb⟩
  · exact ⟨hg.os.trans h.g.os, hg.tape.trans h.g.tape, hg.output.trans h.g.output, Nat.le_trans h.g.size hg.size, fun k hk hr => (hg.block k (by omega) (fun e => by have := hbw k e.symm; omega)).trans (h.g.block k hk hr)⟩
  · have hB : Below S wx w' := ⟨hg.os, hg.tape, hg.output, hg.size, fun k hk => hg.block k (by have h1 := h.ok.lt; have h2 := (World.ownsRow.lt h.L); have h3 := h.box.lt; have h4 := h.sB; omega) (fun e => by have := hbw k e.symm; omega)⟩
    exact ok_belowB h.ok hB h.bS
  · exact blk_grown h.box hg (fun e => ne_box h.L h.box (by decide) e)
  · exact World.ownsRow.kept h.r hg (ne_type h.r h.L (by decide))
  · exact World.ownsRow.kept h.c hg (ne_type h.c h.L (by decide))
end
/-- A map and a list of controls that were drawn. -/
def SiteP (w : World) (b mm : Nat) (e : Ending) (w' : World) : Prop := ∃ (v lv : Value) (m : Mp) (fs : List Ct), e = .returned (.tuple #[v, lv]) ∧ OwnM w' w.heap.size v m ∧ CtK.Own w' w.heap.size lv fs ∧ m.R.length ≤ 21 ∧ m.C.length ≤ 21 ∧ fs.length ≤ 11 ∧ Ok w' b mm ∧ w.grownBy w' (some b)
end Go.Proofs.Ytfpfnnindlfgfaa.CtDr
