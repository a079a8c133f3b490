/- The drawing of maps: contracts that tell ranges alone. -/
import Derived.Test.YtnenaponiahalaaCurP
import Derived.Test.YtnenaponiahalaaSpecB
import Derived.Test.YtnenaponiahalaaStepT
import Derived.Test.YtnenaponiahalaaTblS
namespace Go.Proofs.Ytnenaponiahalaa.CurM
open Go.RowKit Lb Cur IntS MapS MapV SpecB
set_option linter.unusedSimpArgs false
set_option linter.unusedVariables false

set_option maxHeartbeats 400000 in
theorem among_any (b m : Nat) (a : Option Addr) (cap : Nat) (zs : List Int) (w : World) (hm : m ≤ 1152921504606846970) (hpos : 0 < zs.length) (hl : zs.length ≤ 65536) (hr : IRow w a zs) (hne : ∀ x, a = some x → x.block ≠ b) (hok : Ok w b m) :
    Calls Try.prog 115 #[.pointer (some ⟨b, 0, none⟩), .slice a zs.length cap] w fun e w' => (∃ z : Int, e = .returned (.int .i64 z)) ∧ Ok w' b (m + 2) ∧ w.grownBy w' (some b) := by
  have c1 := Lib.hid (pick_any b m zs.length w hm (by omega) (by omega) hok)
  rcases hr with hr | ⟨g, off, rfl, hc⟩
  · omega
  have HC := Lib.hid hc
  have HN := Lib.hid (hne _ rfl)
  clear hok hne hc
  go_enter Try.func115, Try.ntmps115
  go_wp2_with fail
  refine c1.out.mono ?_
  rintro e w1 ⟨⟨r, rfl, _, hr⟩, hok1, hg1⟩
  have hlt : r < zs.length := by omega
  have g1 : w1.cell? ⟨g, off + r, none⟩ = some (.int .i64 (zAt zs r)) := hg1.cell (HC.out r hlt) (fun e => HN.out (by simpa using e))
  have HG := Lib.hid hg1
  have HO := Lib.hid hok1
  clear hok1 hg1 hr
  go_wp2_with fail
  go_ret
  exact ⟨⟨_, rfl⟩, HO.out, HG.out⟩
/-- One of some numbers that the call has just laid. -/
theorem among_new (b m n : Nat) (L : List Int) (w : World) (hm : m ≤ 1152921504606846970) (hn : L.length = n) (h0 : 0 < n) (h1 : n ≤ 65536) (hok : Ok w b m) :
    Calls Try.prog 115 #[.pointer (some ⟨b, 0, none⟩), .slice (some ⟨w.heap.size, 0, none⟩) n n] (w.alloc (.cells (L.map (Value.int .i64)).toArray 3)) fun e w' => (∃ z : Int, e = .returned (.int .i64 z)) ∧ Ok w' b (m + 2) ∧ w.grownBy w' (some b) := by
  have hl := hok.lt
  have hB : Below w.heap.size w (w.alloc (.cells (L.map (Value.int .i64)).toArray 3)) := (Below.refl _ _).alloc (Nat.le_refl _) _
  have ho : OwnI (w.alloc (.cells (L.map (Value.int .i64)).toArray 3)) w.heap.size (.slice (some ⟨w.heap.size, 0, none⟩) L.length L.length) L :=
    ⟨by simp, .inr ⟨w.heap.size, L.length, _, rfl, Nat.le_refl _, heap_alloc_new w _, Nat.le_refl _, by unfold maxLen; omega, by simp, by rw [Nat.mul_one]; exact List.take_of_length_le (by simp)⟩⟩
  have hr : IRow (w.alloc (.cells (L.map (Value.int .i64)).toArray 3)) (some ⟨w.heap.size, 0, none⟩) L := OwnI.row ho
  have := among_any b m (some ⟨w.heap.size, 0, none⟩) n L _ hm (by omega) (by omega) hr (fun x e => by cases e; exact fun e => absurd e (by show w.heap.size ≠ b; omega)) (hok.below hB)
  rw [hn] at this
  exact this.mono fun e w' ⟨h1, h2, h3⟩ => ⟨h1, h2, gtrans (gbelow hB (some b)) h3⟩

theorem ok_belowB {w w' : World} {b m B : Nat} (h : Ok w b m) (hb : Below B w w') (hB : b < B) : Ok w' b m := by
  obtain ⟨a, n, cap, xs, p, seed, hb0, hp, hn, hs, hr, hx, hne⟩ := h
  refine ⟨a, n, cap, xs, p, seed, (hb.block b hB).trans hb0, hp, hn, hs, ?_, hx, hne⟩
  rcases hr with h0 | ⟨g, off, rfl, hc⟩
  · exact .inl h0
  · have := hne _ rfl
    exact .inr ⟨g, off, rfl, fun k hk => (hb.cell (p := ⟨g, off + k, none⟩) (by show g < B; simp at this; omega)).trans (hc k hk)⟩

/-- The map that is drawn: two rows of its own; a reader beside it. -/
structure MGro (w : World) (b mm s : Nat) (p q : Int) (R C : List Int) (vr vc : Value) (wr : World) : Prop where
  r : OwnI wr s vr R
  c : OwnI wr s vc C
  ne : ∀ x y, vr.ownBlock = some x → vc.ownBlock = some y → x ≠ y
  out : Blk wr (s + 1 + 1) 26 #[.int .i64 p, .int .i64 q, vr, vc]
  res : Blk wr w.heap.size 26 #[.int .i64 0, .int .i64 0, .slice none 0 0, .slice none 0 0]
  ok : Ok wr b mm
  g : w.grownBy wr (some b)
section
variable {w : World} {b mm s : Nat} {p q : Int} {R C : List Int} {vr vc : Value} {wr w' : World}
theorem MGro.below (h : MGro w b mm s p q R C vr vc wr) (hb : Below wr.heap.size wr w') : MGro w b mm s p q R C vr vc w' :=
  ⟨owns_below h.r hb, owns_below h.c hb, h.ne, h.out.later hb, h.res.later hb, h.ok.below hb, gtrans h.g (gbelow hb _)⟩
theorem MGro.mono {mm' : Nat} (h : MGro w b mm s p q R C vr vc wr) (hm : mm ≤ mm') : MGro w b mm' s p q R C vr vc wr := ⟨h.r, h.c, h.ne, h.out, h.res, h.ok.mono hm, h.g⟩
theorem MGro.drew (h : MGro w b mm s p q R C vr vc wr) : MGro w b mm s p q R C vr vc wr.drew := ⟨h.r, h.c, h.ne, h.out, h.res, h.ok, gtrans h.g (gbelow (Below.refl _ _).drew _)⟩
/-- A step of the reader. -/
theorem MGro.step {mm' : Nat} (h : MGro w b mm s p q R C vr vc wr) (hs : w.heap.size < s) (hb : b < w.heap.size) (ho : Ok w' b mm') (hg : wr.grownBy w' (some b)) : MGro w b mm' s p q R C vr vc w' :=
  ⟨own_grown h.r hg (fun x y hx hy => by cases hy; have := (h.r.lt x hx).1; omega), own_grown h.c hg (fun x y hx hy => by cases hy; have := (h.c.lt x hx).1; omega), h.ne,
    blk_grown h.out hg (fun e => by have : b = s + 1 + 1 := by simpa using e
                                    omega), blk_grown h.res hg (fun e => by have : b = w.heap.size := by simpa using e
                                                                            omega), ho, gtrans h.g hg⟩
theorem grown_B {r : Option Nat} {B : Nat} {w2 : World} (h : w.grownBy wr r) (hB : Below B wr w2) (hw : w.heap.size ≤ B) : w.grownBy w2 r :=
  ⟨hB.os.trans h.os, hB.tape.trans h.tape, hB.output.trans h.output, Nat.le_trans h.size hB.size, fun k hk hne => (hB.block k (by omega)).trans (h.block k hk hne)⟩
theorem MGro.putR (h : MGro w b mm s p q R C vr vc wr) (hs : w.heap.size < s) (hb : b < w.heap.size) (hsz : s ≤ wr.heap.size) {x : Int} {g cap : Nat}
    (ho : w'.ownsRow s 3 1 (.slice (some ⟨g, 0, none⟩) (R.length + 1) cap) (R.length + 1) (R.map (Value.int .i64) ++ [.int .i64 x])) (hg : wr.grownBy w' vr.ownBlock) (hl : vr.ownBlock = some g ∨ g = wr.heap.size) :
    MGro w b mm s p q (R ++ [x]) C (.slice (some ⟨g, 0, none⟩) (R.length + 1) cap) vc (w'.setCell ⟨s + 1 + 1, 2, none⟩ (.slice (some ⟨g, 0, none⟩) (R.length + 1) cap)) := by
  have hlt := h.r.lt
  have hne : (3 : TypeId) ≠ 26 := by decide
  have o1 := blk_grown h.out hg (own_ne h.r h.out hne)
  have r1 := blk_grown h.res hg (own_ne h.r h.res hne)
  have c1 := own_grown h.c hg (fun x y hx hy => (fun e => h.ne y x hy hx e.symm))
  have hB : Below s wr (w'.setCell ⟨s + 1 + 1, 2, none⟩ (.slice (some ⟨g, 0, none⟩) (R.length + 1) cap)) := ((Below.refl _ _).grown hg hsz (fun k e => (hlt k e).1)).setCell (by show s ≤ s + 1 + 1; omega) _
  refine ⟨?_, own_far c1 o1 hne _, ?_, ?_, r1.far (by show w.heap.size ≠ s + 1 + 1; omega) _, ok_belowB h.ok hB (by omega), grown_B h.g hB (by omega)⟩
  · unfold OwnI
    rw [List.map_append, List.length_append]
    exact own_far ho o1 hne _
  · intro y z hy hz
    obtain rfl : g = y := by simpa [Value.ownBlock] using hy
    rcases hl with hl | hl
    · exact h.ne g z hl hz
    · have := (h.c.lt z hz).2
      omega
  · have := o1.set_ 2 (.slice (some ⟨g, 0, none⟩) (R.length + 1) cap)
    simpa using this
theorem MGro.putC (h : MGro w b mm s p q R C vr vc wr) (hs : w.heap.size < s) (hb : b < w.heap.size) (hsz : s ≤ wr.heap.size) {x : Int} {g cap : Nat}
    (ho : w'.ownsRow s 3 1 (.slice (some ⟨g, 0, none⟩) (C.length + 1) cap) (C.length + 1) (C.map (Value.int .i64) ++ [.int .i64 x])) (hg : wr.grownBy w' vc.ownBlock) (hl : vc.ownBlock = some g ∨ g = wr.heap.size) :
    MGro w b mm s p q R (C ++ [x]) vr (.slice (some ⟨g, 0, none⟩) (C.length + 1) cap) (w'.setCell ⟨s + 1 + 1, 3, none⟩ (.slice (some ⟨g, 0, none⟩) (C.length + 1) cap)) := by
  have hlt := h.c.lt
  have hne : (3 : TypeId) ≠ 26 := by decide
  have o1 := blk_grown h.out hg (own_ne h.c h.out hne)
  have r1 := blk_grown h.res hg (own_ne h.c h.res hne)
  have c1 := own_grown h.r hg (fun x y hx hy => h.ne x y hx hy)
  have hB : Below s wr (w'.setCell ⟨s + 1 + 1, 3, none⟩ (.slice (some ⟨g, 0, none⟩) (C.length + 1) cap)) := ((Below.refl _ _).grown hg hsz (fun k e => (hlt k e).1)).setCell (by show s ≤ s + 1 + 1; omega) _
  refine ⟨own_far c1 o1 hne _, ?_, ?_, ?_, r1.far (by show w.heap.size ≠ s + 1 + 1; omega) _, ok_belowB h.ok hB (by omega), grown_B h.g hB (by omega)⟩
  · unfold OwnI
    rw [List.map_append, List.length_append]
    exact own_far ho o1 hne _
  · intro y z hy hz
    obtain rfl : g = z := by simpa [Value.ownBlock] using hz
    rcases hl with hl | hl
    · exact h.ne y g hy hl
    · have := (h.r.lt y hy).2
      omega
  · have := o1.set_ 3 (.slice (some ⟨g, 0, none⟩) (C.length + 1) cap)
    simpa using this
/-- The width is written. -/
theorem MGro.setW (h : MGro w b mm s p q R C vr vc wr) (hs : w.heap.size < s) (hb : b < w.heap.size) (z : Int) : MGro w b mm s z q R C vr vc (wr.setCell ⟨s + 1 + 1, 0, none⟩ (.int .i64 z)) := by
  have hne : (3 : TypeId) ≠ 26 := by decide
  have hB : Below s wr (wr.setCell ⟨s + 1 + 1, 0, none⟩ (.int .i64 z)) := (Below.refl _ _).setCell (by show s ≤ s + 1 + 1; omega) _
  refine ⟨own_far h.r h.out hne _, own_far h.c h.out hne _, h.ne, ?_, h.res.far (by show w.heap.size ≠ s + 1 + 1; omega) _, ok_belowB h.ok hB (by omega), grown_B h.g hB (by omega)⟩
  have := h.out.set_ 0 (.int .i64 z)
  simpa using this
/-- The first number of a list is written. -/
theorem MGro.setR (h : MGro w b mm s p q R C vr vc wr) (hs : w.heap.size < s) (hb : b < w.heap.size) {g cap : Nat} (hv : vr = .slice (some ⟨g, 0, none⟩) R.length cap) (z : Int) : MGro w b mm s p q (R.set 0 z) C vr vc (wr.setCell ⟨g, 0, none⟩ (.int .i64 z)) := by
  subst hv
  have hlt := h.r.lt g (by simp [Value.ownBlock])
  have hne : (3 : TypeId) ≠ 26 := by decide
  have hst := World.ownsRow.stored (show wr.ownsRow s 3 1 (.slice (some ⟨g, 0, none⟩) R.length cap) R.length (R.map (Value.int .i64)) from h.r) 0 (.int .i64 z)
  have hB : Below s wr (wr.setCell ⟨g, 0, none⟩ (.int .i64 z)) := (Below.refl _ _).setCell hlt.1 _
  have hgn : ∀ t cs k, Blk wr k t cs → (3 : TypeId) ≠ t → k ≠ g := fun t cs k hk ht e => own_ne h.r hk ht (by rw [e]; simp [Value.ownBlock])
  refine ⟨?_, own_grown h.c hst.2 (fun x y hx hy => fun e => h.ne y x hy hx e.symm), h.ne, h.out.far (hgn _ _ _ h.out hne) _, h.res.far (hgn _ _ _ h.res hne) _, ok_belowB h.ok hB (by omega), grown_B h.g hB (by omega)⟩
  have h1 := hst.1
  unfold OwnI
  rw [List.length_set, List.map_set]
  exact h1
theorem MGro.setC (h : MGro w b mm s p q R C vr vc wr) (hs : w.heap.size < s) (hb : b < w.heap.size) {g cap : Nat} (hv : vc = .slice (some ⟨g, 0, none⟩) C.length cap) (z : Int) : MGro w b mm s p q R (C.set 0 z) vr vc (wr.setCell ⟨g, 0, none⟩ (.int .i64 z)) := by
  subst hv
  have hlt := h.c.lt g (by simp [Value.ownBlock])
  have hne : (3 : TypeId) ≠ 26 := by decide
  have hst := World.ownsRow.stored (show wr.ownsRow s 3 1 (.slice (some ⟨g, 0, none⟩) C.length cap) C.length (C.map (Value.int .i64)) from h.c) 0 (.int .i64 z)
  have hB : Below s wr (wr.setCell ⟨g, 0, none⟩ (.int .i64 z)) := (Below.refl _ _).setCell hlt.1 _
  have hgn : ∀ t cs k, Blk wr k t cs → (3 : TypeId) ≠ t → k ≠ g := fun t cs k hk ht e => own_ne h.c hk ht (by rw [e]; simp [Value.ownBlock])
  refine ⟨own_grown h.r hst.2 (fun x y hx hy => fun e => h.ne x y hx hy e), ?_, h.ne, h.out.far (hgn _ _ _ h.out hne) _, h.res.far (hgn _ _ _ h.res hne) _, ok_belowB h.ok hB (by omega), grown_B h.g hB (by omega)⟩
  have h1 := hst.1
  unfold OwnI
  rw [List.length_set, List.map_set]
  exact h1
theorem MGro.isC (h : MGro w b mm s p q R C vr vc wr) (hC : 0 < C.length) : ∃ g cap, vc = .slice (some ⟨g, 0, none⟩) C.length cap := by
  rcases h.c.2 with ⟨_, h0⟩ | ⟨g, cap, cur, hv, _⟩
  · omega
  · exact ⟨g, cap, hv⟩
theorem MGro.isR (h : MGro w b mm s p q R C vr vc wr) (hR : 0 < R.length) : ∃ g cap, vr = .slice (some ⟨g, 0, none⟩) R.length cap := by
  rcases h.r.2 with ⟨_, h0⟩ | ⟨g, cap, cur, hv, _⟩
  · omega
  · exact ⟨g, cap, hv⟩
/-- A map that was drawn. -/
def MDr (w : World) (e : Ending) (w' : World) : Prop := ∃ v, e = .returned v ∧ ∃ m : Mp, OwnM w' w.heap.size v m ∧ m.R.length ≤ 21 ∧ m.C.length ≤ 21
theorem MGro.fin {mm' : Nat} {w2 : World} (h : MGro w b mm s p q R C vr vc wr) (hs : w.heap.size < s) (hb : b < w.heap.size) (hR : R.length ≤ 21) (hC : C.length ≤ 21) (hB : Below w.heap.size wr w2) (hr : OwnI w2 s vr R) (hc : OwnI w2 s vc C) (hm : mm ≤ mm') :
    MDr w (.returned (.agg #[.int .i64 p, .int .i64 q, vr, vc])) w2 ∧ Ok w2 b mm' ∧ w.grownBy w2 (some b) := by
  have hne := h.ne
  obtain ⟨ar, cr, rfl, -, -⟩ := OwnI.slice hr
  obtain ⟨ac, cc, rfl, -, -⟩ := OwnI.slice hc
  refine ⟨⟨_, rfl, ⟨p, q, R, C⟩, ⟨ar, cr, ac, cc, rfl, rebase hr (by omega), rebase hc (by omega), fun x y hx hy => ?_⟩, hR, hC⟩, (ok_belowB h.ok hB hb).mono hm, grown_B h.g hB (Nat.le_refl _)⟩
  subst hx hy
  exact hne x.block y.block (by simp [Value.ownBlock]) (by simp [Value.ownBlock])
theorem own_first {base g n cap : Nat} {zs : List Int} (h : OwnI w base (.slice (some ⟨g, 0, none⟩) n cap) zs) (h0 : 0 < zs.length) : w.cell? ⟨g, 0, none⟩ = some (.int .i64 (zAt zs 0)) ∧ w.frozen? ⟨g, 0, none⟩ = false := by
  unfold OwnI at h
  rcases h.2 with ⟨h1, _⟩ | ⟨g', c', cur, hv, _⟩
  · cases h1
  · obtain ⟨-, e, -⟩ := Value.slice.inj hv
    subst e
    refine ⟨?_, h.frozenAt 0⟩
    rw [h.cellAt 0 (by omega)]
    simp [zAt, h0]

end

end Go.Proofs.Ytnenaponiahalaa.CurM
