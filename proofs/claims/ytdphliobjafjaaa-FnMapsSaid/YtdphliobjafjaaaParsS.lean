/- The text of a map, read back: the model. -/
import Derived.Test.YtdphliobjafjaaaParsR
import Derived.Test.YtdphliobjafjaaaParsI
namespace Go.Proofs.Ytdphliobjafjaaa.ParsS
open Go.RowKit Lb IntS MapS MapV SpecB ParsC ParsR
open ParsI (PPost)
set_option linter.unusedSimpArgs false
set_option linter.unusedVariables false

theorem split_any (s : ByteArray) (c : UInt8) (z : Int) (w : World) (hs : s.size ≤ 1048576) (hz : (c.toNat : Int) = z) :
    Calls Try.prog 68 #[.string s, .int .u8 z] w fun e w' => ∃ v, e = .returned v ∧ L1S.NewStrs w (parts s c) v w' := by
  subst hz
  exact L1S.l1Split_any s c w hs

/-- The map that grows: two rows of its own, strings that are kept. -/
structure Gro (w : World) (s : Nat) (p q : Int) (R C : List Int) (K : List (Nat × Array Value)) (vr vc : Value) (wr : World) : Prop where
  r : OwnI wr s vr R
  c : OwnI wr s vc C
  ne : ∀ x y, vr.ownBlock = some x → vc.ownBlock = some y → x ≠ y
  out : Blk wr (s + 1 + 1) 26 #[.int .i64 p, .int .i64 q, vr, vc]
  res : Blk wr w.heap.size 26 #[.int .i64 0, .int .i64 0, .slice none 0 0, .slice none 0 0]
  kept : ∀ g cs, (g, cs) ∈ K → StrB wr g cs
  b : Below w.heap.size w wr
theorem Gro.below {w : World} {s : Nat} {p q : Int} {R C : List Int} {K : List (Nat × Array Value)} {vr vc : Value} {wr w' : World} (h : Gro w s p q R C K vr vc wr) (hb : Below wr.heap.size wr w') : Gro w s p q R C K vr vc w' :=
  ⟨owns_below h.r hb, owns_below h.c hb, h.ne, h.out.later hb, h.res.later hb, fun g cs hk => Blk.later (h.kept g cs hk) hb, h.b.trans (hb.mono h.b.size)⟩
theorem Gro.putR {w : World} {s : Nat} {p q : Int} {R C : List Int} {K : List (Nat × Array Value)} {vr vc : Value} {wr w' : World} (h : Gro w s p q R C K vr vc wr) (hs : w.heap.size < s) {x : Int} {g cap : Nat}
    (ho : w'.ownsRow s 3 1 (.slice (some ⟨g, 0, none⟩) (R.length + 1) cap) (R.length + 1) (R.map (Value.int .i64) ++ [.int .i64 x])) (hg : wr.grownBy w' vr.ownBlock) (hl : vr.ownBlock = some g ∨ g = wr.heap.size) :
    Gro w s p q (R ++ [x]) C K (.slice (some ⟨g, 0, none⟩) (R.length + 1) cap) vc (w'.setCell ⟨s + 1 + 1, 2, none⟩ (.slice (some ⟨g, 0, none⟩) (R.length + 1) cap)) := by
  have hlt := h.r.lt
  have hne : (3 : TypeId) ≠ 26 := by decide
  have hns : (3 : TypeId) ≠ 9 := by decide
  have o1 := blk_grown h.out hg (own_ne h.r h.out hne)
  have r1 := blk_grown h.res hg (own_ne h.r h.res hne)
  have c1 := own_grown h.c hg (fun x y hx hy => (fun e => h.ne y x hy hx e.symm))
  refine ⟨?_, own_far c1 o1 hne _, ?_, ?_, r1.far (by show w.heap.size ≠ s + 1 + 1; omega) _, ?_, (h.b.grown hg h.b.size (fun k e => by have := (hlt k e).1; omega)).setCell (by show w.heap.size ≤ s + 1 + 1; omega) _⟩
  · unfold OwnI
    rw [List.map_append, List.length_append]
    exact own_far ho o1 hne _
  · intro y z hy hz
    obtain rfl : g = y := by simpa [Value.ownBlock] using hy
    rcases hl with hl | hl
    · exact h.ne g z hl hz
    · have := (h.c.lt z hz).2
      omega
  · have := o1.set_ 2 (.slice (some ⟨g, 0, none⟩) (R.length + 1) cap)
    simpa using this
  · intro b cs hk
    have k0 := h.kept b cs hk
    have k1 : Blk w' b 9 cs := blk_grown k0 hg (own_ne h.r k0 hns)
    refine Blk.far k1 (p := ⟨s + 1 + 1, 2, none⟩) ?_ _
    show b ≠ s + 1 + 1
    intro e
    subst e
    have k2 := o1
    unfold Blk at k1 k2
    rw [k1] at k2
    simp at k2
theorem Gro.putC {w : World} {s : Nat} {p q : Int} {R C : List Int} {K : List (Nat × Array Value)} {vr vc : Value} {wr w' : World} (h : Gro w s p q R C K vr vc wr) (hs : w.heap.size < s) {x : Int} {g cap : Nat}
    (ho : w'.ownsRow s 3 1 (.slice (some ⟨g, 0, none⟩) (C.length + 1) cap) (C.length + 1) (C.map (Value.int .i64) ++ [.int .i64 x])) (hg : wr.grownBy w' vc.ownBlock) (hl : vc.ownBlock = some g ∨ g = wr.heap.size) :
    Gro w s p q R (C ++ [x]) K vr (.slice (some ⟨g, 0, none⟩) (C.length + 1) cap) (w'.setCell ⟨s + 1 + 1, 3, none⟩ (.slice (some ⟨g, 0, none⟩) (C.length + 1) cap)) := by
  have hlt := h.c.lt
  have hne : (3 : TypeId) ≠ 26 := by decide
  have hns : (3 : TypeId) ≠ 9 := by decide
  have o1 := blk_grown h.out hg (own_ne h.c h.out hne)
  have r1 := blk_grown h.res hg (own_ne h.c h.res hne)
  have c1 := own_grown h.r hg (fun x y hx hy => h.ne x y hx hy)
  refine ⟨own_far c1 o1 hne _, ?_, ?_, ?_, r1.far (by show w.heap.size ≠ s + 1 + 1; omega) _, ?_, (h.b.grown hg h.b.size (fun k e => by have := (hlt k e).1; omega)).setCell (by show w.heap.size ≤ s + 1 + 1; omega) _⟩
  · unfold OwnI
    rw [List.map_append, List.length_append]
    exact own_far ho o1 hne _
  · intro y z hy hz
    obtain rfl : g = z := by simpa [Value.ownBlock] using hz
    rcases hl with hl | hl
    · exact h.ne y g hy hl
    · have := (h.r.lt y hy).2
      omega
  · have := o1.set_ 3 (.slice (some ⟨g, 0, none⟩) (C.length + 1) cap)
    simpa using this
  · intro b cs hk
    have k0 := h.kept b cs hk
    have k1 : Blk w' b 9 cs := blk_grown k0 hg (own_ne h.c k0 hns)
    refine Blk.far k1 (p := ⟨s + 1 + 1, 3, none⟩) ?_ _
    show b ≠ s + 1 + 1
    intro e
    subst e
    have k2 := o1
    unfold Blk at k1 k2
    rw [k1] at k2
    simp at k2

/-- What has been read: if it is a text of a map, the map's first cells. -/
def Ex (s : ByteArray) (y x : Nat) (R C : List Int) : Prop :=
  R.length ≤ 121 * y + x ∧ C.length ≤ 121 * y + x ∧ ∀ m ww hh, TextOf m ww hh s → R = m.R.take (y * ww + x) ∧ C = m.C.take (y * ww + x)
theorem Ex.zero (s : ByteArray) : Ex s 0 0 [] [] := ⟨by simp, by simp, fun m ww hh T => by simp⟩
theorem Ex.step {s : ByteArray} {y x : Nat} {R C : List Int} {zr zc : Int} (h : Ex s y x R C) (hz : ∀ m ww hh, TextOf m ww hh s → zc = zAt m.C (y * ww + x) ∧ zr = zAt m.R (y * ww + x) ∧ y * ww + x < ww * hh) : Ex s y (x + 1) (R ++ [zr]) (C ++ [zc]) := by
  obtain ⟨h1, h2, h3⟩ := h
  refine ⟨by simp; omega, by simp; omega, fun m ww hh T => ?_⟩
  obtain ⟨e1, e2⟩ := h3 m ww hh T
  obtain ⟨z1, z2, z3⟩ := hz m ww hh T
  have hR := T.g.R
  have hC := T.g.C
  rw [← Nat.add_assoc, zAt_take m.R _ (by omega), zAt_take m.C _ (by omega), ← e1, ← e2, z1, z2]
  exact ⟨rfl, rfl⟩
theorem Ex.line {s : ByteArray} {y n : Nat} {R C : List Int} (h : Ex s y n R C) (hn : n ≤ 121) (hw : ∀ m ww hh, TextOf m ww hh s → n = ww) : Ex s (y + 1) 0 R C := by
  obtain ⟨h1, h2, h3⟩ := h
  refine ⟨by omega, by omega, fun m ww hh T => ?_⟩
  obtain ⟨e1, e2⟩ := h3 m ww hh T
  have := hw m ww hh T
  subst this
  have e : (y + 1) * n + 0 = y * n + n := by rw [Nat.add_mul, Nat.one_mul, Nat.add_zero]
  rw [e]
  exact ⟨e1, e2⟩

theorem read0 (t : ByteArray) (w : World) (h : t.size = 2) :
    Calls Try.prog 69 #[.string (t.extract 0 1)] w fun e w' => RPost (bAt t.data.toList 0) e ∧ Still w w' := by
  have hz : (t.extract 0 1).size = 1 := by rw [ByteArray.size_extract]; omega
  have e := bAt_extract t 0 1 0 (by omega) (by omega)
  rw [← bAt_eq _ 0 (by omega)] at e
  rw [← e]
  exact read_any (t.extract 0 1) w hz
theorem read1 (t : ByteArray) (w : World) (h : t.size = 2) :
    Calls Try.prog 69 #[.string (t.extract 1 2)] w fun e w' => RPost (bAt t.data.toList 1) e ∧ Still w w' := by
  have hz : (t.extract 1 2).size = 1 := by rw [ByteArray.size_extract]; omega
  have e := bAt_extract t 1 2 0 (by omega) (by omega)
  rw [← bAt_eq _ 0 (by omega)] at e
  rw [← e]
  exact read_any (t.extract 1 2) w hz
theorem line_size (s : ByteArray) (c : UInt8) (k : Nat) : (sAt (parts s c) k).size ≤ s.size := by
  have h1 := parts_total s c
  have h2 := parts_length s c
  have h3 := sAt_le (parts s c) k
  omega

set_option maxRecDepth 100000 in
set_option maxHeartbeats 4000000 in
theorem parse_any (s : ByteArray) (w : World) (hs : s.size ≤ 1048576) :
    Calls Try.prog 27 #[.string s] w (PPost w s) := by
  obtain ⟨t0, hi, hz0, hz1, hz2⟩ := info_parts iInfo
  have HB := Lib.hid ((Below.refl w.heap.size w).alloc (Nat.le_refl _) (.cells #[.int .i64 0, .int .i64 0, .slice none 0 0, .slice none 0 0] 26))
  have HQ0 := Lib.hid (Blk.new w 26 #[.int .i64 0, .int .i64 0, .slice none 0 0, .slice none 0 0])
  obtain ⟨L, hL⟩ : ∃ L, parts s 10 = L := ⟨_, rfl⟩
  have hLn := parts_length s 10
  have hLe := parts_ne s 10
  have HSz := Lib.hid (show ∀ m ww hh, TextOf m ww hh s → s.size ≤ 108 ∧ L.length = hh + 1 from fun m ww hh T => by
    have t1 := T.size
    have t2 := T.g.n36
    have t3 := T.lines.1
    rw [hL] at t3
    exact ⟨by omega, t3⟩)
  have HLS := Lib.hid (show ∀ k, (sAt L k).size ≤ s.size from fun k => by rw [← hL]; exact line_size s 10 k)
  have HTW := Lib.hid (show ∀ m ww hh, TextOf m ww hh s → ∀ y, y < hh → (parts (sAt L y) 32).length = ww ∧ ∀ x, x < ww → (sAt (parts (sAt L y) 32) x).size = 2 ∧ rd1 (bAt (sAt (parts (sAt L y) 32) x).data.toList 0) = zAt m.C (y * ww + x) ∧ rd1 (bAt (sAt (parts (sAt L y) 32) x).data.toList 1) = zAt m.R (y * ww + x) ∧ y * ww + x < ww * hh from fun m ww hh T y hy => by
    rw [← hL]
    obtain ⟨z1, z2⟩ := T.words y hy
    refine ⟨z1, fun x hx => ?_⟩
    obtain ⟨z3, z4, z5⟩ := z2 x hx
    have hcell : y * ww + x < ww * hh := by
      have := Nat.mul_le_mul_right ww (show y + 1 ≤ hh from hy)
      rw [Nat.add_mul, Nat.one_mul, Nat.mul_comm hh ww] at this
      omega
    have hF := T.cellF _ hcell
    exact ⟨z3, by rw [z4]; exact hF.2.2.1, by rw [z5]; exact hF.2.2.2.1, hcell⟩)
  rw [hL] at hLn hLe
  have HL := Lib.hid hL
  clear hL
  go_enter Try.func27, Try.ntmps27
  go_wp2_with fail
  refine (split_any s 10 10 _ hs (by decide)).mono ?_
  rw [HL.out]
  rintro e w1 ⟨v, rfl, hn1⟩
  obtain ⟨gl, capl, cl, rfl, hst, hgl, hcl⟩ := strB_of hn1 hLe
  have hb1 := hn1.2
  have HQ1 := Lib.hid (HQ0.out.later hb1)
  have HB1 := Lib.hid (HB.out.trans (hb1.mono (by simp)))
  have HS1 := Lib.hid hst
  clear hn1 hst hb1
  by_cases hbad : 120 < s.size ∨ L.length < 2
  · have HNO := Lib.hid (show ∀ m ww hh, ¬ TextOf m ww hh s from fun m ww hh T => by
      have := HSz.out m ww hh T
      have := T.g.h1
      omega)
    obtain ⟨r0, r1, r2, r3, l0, l1, l2, l3⟩ := HQ1.out.four
    by_cases h120 : 120 < s.size
    · have e1 : decide ((120 : Int) < (s.size : Int)) = true := by simp; omega
      clear hbad h120
      go_wp2
      refine bodyPost_ret (v := .tuple #[.agg #[.int .i64 0, .int .i64 0, .slice none 0 0, .slice none 0 0], .bool false]) (by simp [results, Try.results27, go_sem, r0, r1, r2, r3]) rfl (.inr ⟨HNO.out, _, rfl, own_none _ _, ?_⟩)
      repeat (refine Below.setCell ?_ (by simp) _)
      exact HB1.out
    · have e1 : decide ((120 : Int) < (s.size : Int)) = false := by simp; omega
      have e2 : decide ((L.length : Int) < 2) = true := by simp; omega
      clear hbad h120
      go_wp2
      refine bodyPost_ret (v := .tuple #[.agg #[.int .i64 0, .int .i64 0, .slice none 0 0, .slice none 0 0], .bool false]) (by simp [results, Try.results27, go_sem, r0, r1, r2, r3]) rfl (.inr ⟨HNO.out, _, rfl, own_none _ _, ?_⟩)
      repeat (refine Below.setCell ?_ (by simp) _)
      exact HB1.out
  · have e1 : decide ((120 : Int) < (s.size : Int)) = false := by simp; omega
    have e2 : decide ((L.length : Int) < 2) = false := by simp; omega
    have hs120 : s.size ≤ 120 := by omega
    have hL2 : 2 ≤ L.length := by omega
    have hl0 : w1.cell? ⟨gl, 0, none⟩ = some (.string (sAt L 0)) := by rw [HS1.out.cell]; exact hcl 0 (by omega)
    have HCL := Lib.hid hcl
    clear hbad hcl
    obtain ⟨N, hN⟩ : ∃ N, L.length = N + 1 := ⟨L.length - 1, by omega⟩
    have hN120 : N ≤ 120 := by omega
    have hNi : (L.length : Int) - 1 = (N : Int) := by omega
    have hsl : (sAt L 0).size ≤ 1048576 := by have := HLS.out 0; omega
    go_wp2_with fail
    refine (split_any (sAt L 0) 32 32 _ hsl (by decide)).mono ?_
    rintro e w2 ⟨v, rfl, hn2⟩
    obtain ⟨g2, cap2, c2, rfl, hst2, hg2, hc2⟩ := strB_of hn2 (parts_ne _ _)
    have hb2 := hn2.2
    obtain ⟨W0, hW0⟩ : ∃ W0, (parts (sAt L 0) 32).length = W0 := ⟨_, rfl⟩
    have HW0 := Lib.hid hW0
    rw [hW0]
    have hs1 : w.heap.size < w2.heap.size := by have := HB1.out.size; have := hb2.size; have := HQ1.out.lt; omega
    have HG0 := Lib.hid (show Gro w w2.heap.size W0 N [] [] [(gl, cl)] (.slice (some ⟨w2.heap.size, 0, none⟩) 0 0) (.slice (some ⟨w2.heap.size + 1, 0, none⟩) 0 0)
        (((w2.alloc (.cells #[] 3)).alloc (.cells #[] 3)).alloc (.cells #[.int .i64 W0, .int .i64 N, .slice (some ⟨w2.heap.size, 0, none⟩) 0 0, .slice (some ⟨w2.heap.size + 1, 0, none⟩) 0 0] 26)) from by
      have hB2 := HB1.out.trans (hb2.mono HB1.out.size)
      refine ⟨?_, ?_, ?_, ?_, ((((HQ1.out.later hb2).alloc _).alloc _).alloc _), ?_, ((hB2.alloc (by omega) _).alloc (by simp; omega) _).alloc (by simp; omega) _⟩
      · exact (((World.ownsRow_made (e := 3) (size := 1) (base := w2.heap.size) w2 #[] 0 (Nat.le_refl _) (Nat.zero_le _) rfl).alloc _).alloc _)
      · have := World.ownsRow_made (e := 3) (size := 1) (base := w2.heap.size) (w2.alloc (.cells #[] 3)) #[] 0 (by simp) (Nat.zero_le _) rfl
        rw [World.size_alloc] at this
        exact this.alloc _
      · intro x y hx hy
        simp [Value.ownBlock] at hx hy
        omega
      · have := Blk.new ((w2.alloc (.cells #[] 3)).alloc (.cells #[] 3)) 26 #[.int .i64 W0, .int .i64 N, .slice (some ⟨w2.heap.size, 0, none⟩) 0 0, .slice (some ⟨w2.heap.size + 1, 0, none⟩) 0 0]
        simpa using this
      · intro g cs hk
        obtain ⟨rfl, rfl⟩ : g = gl ∧ cs = cl := by simpa using hk
        exact (((Blk.later HS1.out hb2).alloc _).alloc _).alloc _)
    clear hn2 hst2 hb2 hW0 hc2 hl0
    go_wp2_with fail
    go_loopg [6] N (fun k sy wr => ∃ y : Nat, y ≤ N ∧ k = N - y ∧ sy = .int .i64 y ∧ ∃ R C vr vc, Ex s y 0 R C ∧ Gro w w2.heap.size W0 N R C [(gl, cl)] vr vc wr)
    case atStart => exact ⟨0, Nat.zero_le _, rfl, rfl, [], [], _, _, Ex.zero s, HG0.out⟩
    case round =>
      obtain ⟨y, hyn, hky, rfl, R, C, vr, vc, hex, hG⟩ := hrel
      have HG := Lib.hid hG
      have HEx := Lib.hid hex
      clear hG hex HG0
      by_cases hlt : y < N
      · have hll : wr.cell? ⟨gl, y, none⟩ = some (.string (sAt L y)) := by rw [(HG.out.kept gl cl (by simp)).cell]; exact HCL.out y (by omega)
        have hgll : gl < wr.heap.size := Blk.lt (HG.out.kept gl cl (by simp))
        have hsy : (sAt L y).size ≤ 1048576 := by have := HLS.out y; omega
        have HTy := Lib.hid (show ∀ m ww hh, TextOf m ww hh s → y < hh from fun m ww hh T => by have := (HSz.out m ww hh T).2; omega)
        have hyL : (y : Int) < (L.length : Int) := by omega
        go_wp2_with fail
        refine (split_any (sAt L y) 32 32 _ hsy (by decide)).mono ?_
        rintro e w3 ⟨v, rfl, hn3⟩
        obtain ⟨gw, capw, cw, rfl, hstw, hgw, hcw⟩ := strB_of hn3 (parts_ne _ _)
        have hb3 := hn3.2
        obtain ⟨P, hP⟩ : ∃ P, parts (sAt L y) 32 = P := ⟨_, rfl⟩
        have hPl := parts_length (sAt L y) 32
        rw [hP] at hcw hPl
        have hP121 : P.length ≤ 121 := by have := HLS.out y; omega
        have HP := Lib.hid hP
        rw [hP]
        have HG3 := Lib.hid (show Gro w w2.heap.size W0 N R C [(gl, cl), (gw, cw)] vr vc w3 from by
          have h := HG.out.below hb3
          refine ⟨h.r, h.c, h.ne, h.out, h.res, fun g cs hk => ?_, h.b⟩
          rcases List.mem_cons.1 hk with hk | hk
          · exact h.kept g cs (by simp [hk])
          · obtain ⟨rfl, rfl⟩ : g = gw ∧ cs = cw := by simpa using hk
            exact hstw)
        have HCW := Lib.hid hcw
        have HTP := Lib.hid (show ∀ m ww hh, TextOf m ww hh s → P.length = ww ∧ ∀ x, x < ww → (sAt P x).size = 2 ∧ rd1 (bAt (sAt P x).data.toList 0) = zAt m.C (y * ww + x) ∧ rd1 (bAt (sAt P x).data.toList 1) = zAt m.R (y * ww + x) ∧ y * ww + x < ww * hh from fun m ww hh T => by
          have := HTW.out m ww hh T y (HTy.out m ww hh T)
          rw [HP.out] at this
          exact this)
        clear hn3 hb3 hP hstw hcw hll hgll HG
        go_wp2_with fail
        go_loopg [8] P.length (fun k sx wr' => ∃ x : Nat, x ≤ P.length ∧ k = P.length - x ∧ sx = .int .i64 x ∧ ∃ R C vr vc, Ex s y x R C ∧ Gro w w2.heap.size W0 N R C [(gl, cl), (gw, cw)] vr vc wr')
        case atStart => exact ⟨0, Nat.zero_le _, rfl, rfl, R, C, _, _, HEx.out, HG3.out⟩
        case round =>
          clear HG3 HEx
          obtain ⟨x, hxn, hkx, rfl, R1, C1, vr1, vc1, hex1, hG1⟩ := hrel
          have HG1 := Lib.hid hG1
          have HE1 := Lib.hid hex1
          have hRl : R1.length ≤ 121 * y + x := hex1.1
          have hCl : C1.length ≤ 121 * y + x := hex1.2.1
          clear hG1 hex1
          by_cases hltx : x < P.length
          · have hwx : wr.cell? ⟨gw, x, none⟩ = some (.string (sAt P x)) := by rw [(HG1.out.kept gw cw (by simp)).cell]; exact HCW.out x hltx
            have hgwl : gw < wr.heap.size := Blk.lt (HG1.out.kept gw cw (by simp))
            by_cases h2 : (sAt P x).size = 2
            · have hx2 : (((sAt P x).size : Int) != 2) = false := by simp; omega
              have hx1 : (1 : Int) ≤ ((sAt P x).size : Int) := by omega
              have hPx := Lib.hid (show ∀ m ww hh, TextOf m ww hh s → rd1 (bAt (sAt P x).data.toList 0) = zAt m.C (y * ww + x) ∧ rd1 (bAt (sAt P x).data.toList 1) = zAt m.R (y * ww + x) ∧ y * ww + x < ww * hh from fun m ww hh T => by
                obtain ⟨z1, z2⟩ := HTP.out m ww hh T
                exact (z2 x (by omega)).2)
              have hr0 := Lib.hid (fun w => read0 (sAt P x) w h2)
              have hr1 := Lib.hid (fun w => read1 (sAt P x) w h2)
              go_wp2_with fail
              refine (hr0.out _).mono ?_
              rintro e w4 ⟨⟨ok4, rfl⟩, hst4⟩
              have HG4 := Lib.hid (HG1.out.below (Still.below hst4 _))
              clear hst4 hwx hgwl
              go_wp2_with fail
              refine (hr1.out _).mono ?_
              rintro e w5 ⟨⟨ok5, rfl⟩, hst5⟩
              have HG5 := Lib.hid (HG4.out.below (Still.below hst5 _))
              clear hst5
              obtain ⟨zc, hzc⟩ : ∃ z, rd1 (bAt (sAt P x).data.toList 0) = z := ⟨_, rfl⟩
              obtain ⟨zr, hzr⟩ : ∃ z, rd1 (bAt (sAt P x).data.toList 1) = z := ⟨_, rfl⟩
              have HES := Lib.hid (HE1.out.step (zr := zr) (zc := zc) (fun m ww hh T => by rw [← hzc, ← hzr]; exact hPx.out m ww hh T))
              rw [hzc, hzr]
              clear hzc hzr
              obtain ⟨q0, q1, q2, q3, f0, f1, f2, f3⟩ := HG5.out.out.four
              go_upto_region 17 with (fail)
              go_cut [] from 76 to 81 (fun wx => ∃ vr vc, Gro w w2.heap.size W0 N R1 (C1 ++ [zc]) [(gl, cl), (gw, cw)] vr vc wx)
              case first =>
                have hown : w5.ownsRow w2.heap.size 3 1 vc1 C1.length (C1.map (Value.int .i64)) := HG5.out.c
                have hsz := HG5.out.b.size
                have hso := HG5.out.out.lt
                have h63 : C1.length + 1 ≤ maxLen := by unfold maxLen; omega
                have h64 : (C1.length + 1) * 8 ≤ 140737488355328 := by omega
                have HTa := Lib.hid (show Gro w w2.heap.size W0 N R1 C1 [(gl, cl), (gw, cw)] vr1 vc1 (w5.alloc (.cells #[.int .i64 zc] 3)) from HG5.out.below ((Below.refl _ _).alloc (Nat.le_refl _) _))
                go_wp2_with (at_builtin; (refine wpList_append_lies _ rfl (.tmp 77) (.tmp 79) 24 rfl w2.heap.size 3 t0 (.int .i64 0) 1 8 Try.underlying24 hi hz0 hz1 hz2 rfl (by decide) vc1 C1.length _ rfl (hown.alloc _) ⟨_, 0, none⟩ 1 1 [.int .i64 zc] rfl rfl (cell_one_new _ _ _) (by simp [Value.oneCell']) (by decide) h63 h64 (by simp; omega) _ rfl ?_; intro g' cap' w3 hown3 hgr3 hlies3 _; obtain ⟨k0, k1, k2, k3, l0, l1, l2, l3⟩ := (blk_grown HTa.out.out hgr3 (own_ne HTa.out.c HTa.out.out (by decide))).four; have HP := Lib.hid (HTa.out.putC hs1 hown3 hgr3 (by simpa using hlies3)); clear hown3 hgr3 hlies3))
                go_meet
                exact ⟨_, _, HP.out⟩
              case rest =>
              obtain ⟨vr2, vc2, hG6⟩ := hcut
              have HG6 := Lib.hid hG6
              clear hG6 q0 q1 q2 q3 f0 f1 f2 f3
              obtain ⟨q0, q1, q2, q3, f0, f1, f2, f3⟩ := HG6.out.out.four
              go_upto_region 18 with (fail)
              have hown : wc.ownsRow w2.heap.size 3 1 vr2 R1.length (R1.map (Value.int .i64)) := HG6.out.r
              have hsz := HG6.out.b.size
              have hso := HG6.out.out.lt
              have h63 : R1.length + 1 ≤ maxLen := by unfold maxLen; omega
              have h64 : (R1.length + 1) * 8 ≤ 140737488355328 := by omega
              have HTa := Lib.hid (show Gro w w2.heap.size W0 N R1 (C1 ++ [zc]) [(gl, cl), (gw, cw)] vr2 vc2 (wc.alloc (.cells #[.int .i64 zr] 3)) from HG6.out.below ((Below.refl _ _).alloc (Nat.le_refl _) _))
              go_wp2_with (at_builtin; (refine wpList_append_lies _ rfl (.tmp 83) (.tmp 85) 24 rfl w2.heap.size 3 t0 (.int .i64 0) 1 8 Try.underlying24 hi hz0 hz1 hz2 rfl (by decide) vr2 R1.length _ rfl (hown.alloc _) ⟨_, 0, none⟩ 1 1 [.int .i64 zr] rfl rfl (cell_one_new _ _ _) (by simp [Value.oneCell']) (by decide) h63 h64 (by simp; omega) _ rfl ?_; intro g' cap' w3 hown3 hgr3 hlies3 _; obtain ⟨k0, k1, k2, k3, l0, l1, l2, l3⟩ := (blk_grown HTa.out.out hgr3 (own_ne HTa.out.r HTa.out.out (by decide))).four; have HP := Lib.hid (HTa.out.putR hs1 hown3 hgr3 (by simpa using hlies3)); clear hown3 hgr3 hlies3))
              go_roundg (P.length - (x + 1))
              case measure => omega
              case rel => exact ⟨x + 1, by omega, rfl, by go_num, R1 ++ [zr], C1 ++ [zc], _, _, HES.out, HP.out⟩
            · have hx2 : (((sAt P x).size : Int) != 2) = true := by simp; omega
              have HNO := Lib.hid (show ∀ m ww hh, ¬ TextOf m ww hh s from fun m ww hh T => by
                obtain ⟨z1, z2⟩ := HTP.out m ww hh T
                exact h2 (z2 x (by omega)).1)
              obtain ⟨r0, r1, r2, r3, l0, l1, l2, l3⟩ := HG1.out.res.four
              clear h2
              go_wp2
              refine bodyPost_ret (v := .tuple #[.agg #[.int .i64 0, .int .i64 0, .slice none 0 0, .slice none 0 0], .bool false]) (by simp [results, Try.results27, go_sem, r0, r1, r2, r3]) rfl (.inr ⟨HNO.out, _, rfl, own_none _ _, ?_⟩)
              repeat (refine Below.setCell ?_ (by simp) _)
              exact HG1.out.b
          · obtain rfl : x = P.length := by omega
            have hEL := Lib.hid (HE1.out.line hP121 (fun m ww hh T => (HTP.out m ww hh T).1))
            go_wp2_with fail
            go_roundg (N - (y + 1))
            case measure => omega
            case rel => exact ⟨y + 1, by omega, rfl, by go_num, R1, C1, vr1, vc1, hEL.out, ⟨HG1.out.r, HG1.out.c, HG1.out.ne, HG1.out.out, HG1.out.res, (fun g cs hk => HG1.out.kept g cs (by simp at hk ⊢; exact .inl hk)), HG1.out.b⟩⟩
      · obtain rfl : y = N := by omega
        have hRl : R.length ≤ 121 * y + 0 := HEx.out.1
        have hCl : C.length ≤ 121 * y + 0 := HEx.out.2.1
        obtain ⟨ar, cr, rfl, hra, hrb⟩ := OwnI.slice HG.out.r
        obtain ⟨ac, cc, rfl, hca, hcb⟩ := OwnI.slice HG.out.c
        have HU := Lib.hid (show ∀ m' ww hh, TextOf m' ww hh s → m' = ⟨W0, y, R, C⟩ from fun m' ww hh T => by
          have z1 := (HSz.out m' ww hh T).2
          have z2 := (HTW.out m' ww hh T 0 T.g.h1).1
          rw [HW0.out] at z2
          obtain ⟨z3, z4⟩ := HEx.out.2.2 m' ww hh T
          obtain rfl : y = hh := by omega
          subst z2
          have hR := T.g.R
          have hC := T.g.C
          rw [Nat.add_zero, Nat.mul_comm, List.take_of_length_le (by omega)] at z3 z4
          rw [z3, z4]
          exact mp_eq T.g)
        obtain ⟨m, hm⟩ : ∃ m : Mp, m = ⟨W0, y, R, C⟩ := ⟨_, rfl⟩
        rw [← hm] at HU
        have HMe := Lib.hid hm
        have hRm : R.length ≤ maxLen := by unfold maxLen; omega
        have hCm : C.length ≤ maxLen := by unfold maxLen; omega
        obtain ⟨q0, q1, q2, q3, -⟩ := HG.out.out.four
        have hra' := Lib.hid hra
        have hca' := Lib.hid hca
        clear hm hra hca hrb hcb HEx
        have hlt' : ¬ ((y : Int) + 1 < (L.length : Int)) := by omega
        go_wp2_with fail
        refine (MapV.spec_any ⟨W0, y, R, C⟩ ar ac cr cc _ hRm hCm hra'.out hca'.out).mono ?_
        rintro e w7 ⟨rfl, hb7⟩
        have HG7 := Lib.hid (HG.out.below hb7)
        have HR7 := Lib.hid (RowAt.below hra'.out hb7)
        have HC7 := Lib.hid (RowAt.below hca'.out hb7)
        clear hb7 q0 q1 q2 q3
        obtain ⟨q0, q1, q2, q3, f0, f1, f2, f3⟩ := HG7.out.out.four
        by_cases hok : Mp.ok ⟨W0, y, R, C⟩
        · rw [okB_yes hok]
          obtain ⟨l, ok, hti, hM⟩ := spec_t ⟨W0, y, R, C⟩ hok
          obtain ⟨t, ht⟩ : ∃ t, bs l = t := ⟨_, rfl⟩
          have HTI := Lib.hid hti
          have HTL := Lib.hid ht
          rw [ht] at hM
          have HM := Lib.hid (hM ar ac cr cc)
          clear hti hM ht hok
          go_wp2_with fail
          refine (HM.out _ HR7.out HC7.out).mono ?_
          rintro e w8 ⟨rfl, hb8⟩
          have HG8 := Lib.hid (HG7.out.below hb8)
          clear hb8 q0 q1 q2 q3 f0 f1 f2 f3
          obtain ⟨q0, q1, q2, q3, f0, f1, f2, f3⟩ := HG8.out.out.four
          obtain ⟨r0, r1, r2, r3, l0, l1, l2, l3⟩ := HG8.out.res.four
          cases ok with
          | false =>
            have HNO := Lib.hid (show ∀ m ww hh, ¬ TextOf m ww hh s from fun m' ww hh T => by
              have e := HU.out m' ww hh T
              rw [HMe.out] at e
              rw [e] at T
              have := (HTI.out.all ww hh s T).1
              cases this)
            go_wp2
            refine bodyPost_ret (v := .tuple #[.agg #[.int .i64 0, .int .i64 0, .slice none 0 0, .slice none 0 0], .bool false]) (by simp [results, Try.results27, go_sem, r0, r1, r2, r3]) rfl (.inr ⟨HNO.out, _, rfl, own_none _ _, ?_⟩)
            repeat (refine Below.setCell ?_ (by simp) _)
            exact HG8.out.b
          | true =>
            by_cases hts : t = s
            · have HYES := Lib.hid (show ∃ ww hh, TextOf ⟨W0, y, R, C⟩ ww hh s from by
                obtain ⟨ww, hh, T⟩ := HTI.out.some_ rfl
                rw [HTL.out, hts] at T
                exact ⟨ww, hh, T⟩)
              have hx : (!t.toList == s.toList) = false := by rw [hts]; simp
              clear hts
              go_wp2
              refine bodyPost_ret (v := .tuple #[.agg #[.int .i64 W0, .int .i64 y, .slice ar R.length cr, .slice ac C.length cc], .bool true]) (by simp [results, Try.results27, go_sem, q0, q1, q2, q3, r0, r1, r2, r3]) rfl (.inl ?_)
              obtain ⟨ww, hh, T⟩ := HYES.out
              refine ⟨_, ww, hh, T, _, rfl, ⟨ar, cr, ac, cc, rfl, ?_, ?_, ?_⟩, ?_⟩
              · have h := HG8.out.r
                unfold OwnI at h ⊢
                refine rebase (b := w2.heap.size) ?_ (by omega)
                repeat (refine ownsRow_setCell_below ?_ (by simpa using hs1) _)
                exact h
              · have h := HG8.out.c
                unfold OwnI at h ⊢
                refine rebase (b := w2.heap.size) ?_ (by omega)
                repeat (refine ownsRow_setCell_below ?_ (by simpa using hs1) _)
                exact h
              · intro a b ha hb
                subst ha hb
                exact HG8.out.ne a.block b.block (by simp [Value.ownBlock]) (by simp [Value.ownBlock])
              · repeat (refine Below.setCell ?_ (by simp) _)
                exact HG8.out.b
            · have HNO := Lib.hid (show ∀ m ww hh, ¬ TextOf m ww hh s from fun m' ww hh T => by
                have e := HU.out m' ww hh T
                rw [HMe.out] at e
                rw [e] at T
                have := (HTI.out.all ww hh s T).2
                rw [HTL.out] at this
                exact hts this)
              have hx : (!t.toList == s.toList) = true := str_neq hts
              clear hts
              go_wp2
              refine bodyPost_ret (v := .tuple #[.agg #[.int .i64 0, .int .i64 0, .slice none 0 0, .slice none 0 0], .bool false]) (by simp [results, Try.results27, go_sem, r0, r1, r2, r3]) rfl (.inr ⟨HNO.out, _, rfl, own_none _ _, ?_⟩)
              repeat (refine Below.setCell ?_ (by simp) _)
              exact HG8.out.b
        · rw [okB_no hok]
          have HNO := Lib.hid (show ∀ m ww hh, ¬ TextOf m ww hh s from fun m' ww hh T => by
            have e := HU.out m' ww hh T
            rw [HMe.out] at e
            rw [e] at T
            exact hok (ok_of T.g))
          obtain ⟨r0, r1, r2, r3, l0, l1, l2, l3⟩ := HG7.out.res.four
          clear hok
          go_wp2
          refine bodyPost_ret (v := .tuple #[.agg #[.int .i64 0, .int .i64 0, .slice none 0 0, .slice none 0 0], .bool false]) (by simp [results, Try.results27, go_sem, r0, r1, r2, r3]) rfl (.inr ⟨HNO.out, _, rfl, own_none _ _, ?_⟩)
          repeat (refine Below.setCell ?_ (by simp) _)
          exact HG7.out.b

end Go.Proofs.Ytdphliobjafjaaa.ParsS
