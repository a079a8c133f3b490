/- IsRoute: the program. -/
import Derived.Test.YtdfmfmndmldggaaOpnI
import Derived.Test.YtdfmfmndmldggaaDjkB
import Derived.Deep.RegionHeld3
namespace Go.Proofs.Ytdfmfmndmldggaa.RtI
open Go.RowKit Lb IntS MapS MapV High Cells StepT StpF SpecB DjkB OpnI
set_option linter.unusedSimpArgs false
set_option linter.unusedVariables false

/-- Whether a place of a list keeps to the rules of routes; whether all do. -/
def okAt (m : Mp) (zs : List Int) (i : Nat) : Bool := opB m (zAt zs i) && (!(decide (zAt zs i ∈ zs.take i)) && (decide (i = 0) || decide (zAt zs i ∈ ints (nx m (zAt zs (i - 1)).toNat))))
def rtB (m : Mp) (zs : List Int) : Bool := (List.range zs.length).all (okAt m zs) && decide (0 < zs.length)
theorem rt_all {m : Mp} {zs : List Int} (h : ∀ j, j < zs.length → okAt m zs j = true) : rtB m zs = decide (0 < zs.length) := by
  unfold rtB
  have : (List.range zs.length).all (okAt m zs) = true := by
    rw [List.all_eq_true]
    intro j hj
    exact h j (by simpa using hj)
  rw [this]; rfl
theorem rt_not {m : Mp} {zs : List Int} {j : Nat} (hj : j < zs.length) (h : okAt m zs j = false) : rtB m zs = false := by
  unfold rtB
  have : (List.range zs.length).all (okAt m zs) = false := by
    rw [List.all_eq_false]
    exact ⟨j, by simpa using hj, by rw [h]; simp⟩
  rw [this]; rfl
theorem ok_shut {m : Mp} {zs : List Int} {i : Nat} (h : opB m (zAt zs i) = false) : okAt m zs i = false := by unfold okAt; rw [h]; rfl
theorem ok_twice {m : Mp} {zs : List Int} {i : Nat} (h : zAt zs i ∈ zs.take i) : okAt m zs i = false := by unfold okAt; rw [decide_eq_true h]; simp
theorem ok_far {m : Mp} {zs : List Int} {i : Nat} (h0 : i ≠ 0) (h : zAt zs i ∉ ints (nx m (zAt zs (i - 1)).toNat)) : okAt m zs i = false := by unfold okAt; rw [decide_eq_false h0, decide_eq_false h]; simp
theorem ok_yes {m : Mp} {zs : List Int} {i : Nat} (h1 : opB m (zAt zs i) = true) (h2 : zAt zs i ∉ zs.take i) (h3 : i = 0 ∨ zAt zs i ∈ ints (nx m (zAt zs (i - 1)).toNat)) : okAt m zs i = true := by
  unfold okAt
  rw [h1, decide_eq_false h2]
  rcases h3 with h | h
  · rw [decide_eq_true h]; rfl
  · rw [decide_eq_true h]; simp
theorem ok_opn {m : Mp} {zs : List Int} {i : Nat} (h : okAt m zs i = true) : opB m (zAt zs i) = true := by
  unfold okAt at h
  rw [Bool.and_eq_true] at h
  exact h.1
theorem take_at {zs : List Int} {k : Nat} (h : k < zs.length) : zs.take (k + 1) = zs.take k ++ [zAt zs k] := zAt_take zs k h

/-- What stands while a list is looked at. -/
structure Sn (w : World) (box : Array Value) (gs : Nat) (sb : Nat → Bool) (wr : World) : Prop where
  b : Below w.heap.size w wr
  box : Blk wr w.heap.size 26 box
  bits : Blk wr gs 122 (bitCs sb)
  hg : w.heap.size < gs
theorem Sn.later {w : World} {box : Array Value} {gs : Nat} {sb : Nat → Bool} {wr w' : World} (h : Sn w box gs sb wr) (hb : Below wr.heap.size wr w') : Sn w box gs sb w' := ⟨h.b.trans (hb.mono h.b.size), h.box.later hb, h.bits.later hb, h.hg⟩
theorem Sn.bit {w : World} {box : Array Value} {gs : Nat} {sb : Nat → Bool} {wr : World} (h : Sn w box gs sb wr) (j : Nat) : Sn w box gs (setT sb j) (wr.setCell ⟨gs, j, none⟩ (.bool true)) :=
  ⟨h.b.setCell (Nat.le_of_lt h.hg) _, h.box.far (by have := h.hg; show w.heap.size ≠ gs; omega) _, by rw [← bitCs_set]; exact h.bits.set_ j _, h.hg⟩
def Bs (zs : List Int) (k : Nat) (sb : Nat → Bool) : Prop := ∀ c : Nat, sb c = true ↔ (c : Int) ∈ zs.take k
theorem Bs.start (zs : List Int) : Bs zs 0 (fun _ => false) := fun c => by simp
theorem Bs.put {zs : List Int} {k : Nat} {sb : Nat → Bool} (h : Bs zs k sb) (hk : k < zs.length) {c : Nat} (hc : zAt zs k = (c : Int)) : Bs zs (k + 1) (setT sb c) := fun d => by
  rw [take_at hk, List.mem_append, List.mem_singleton, hc, ← h d]
  unfold setT
  rw [Bool.or_eq_true, beq_iff_eq]
  constructor
  · rintro (h | h)
    · exact .inl h
    · exact .inr (by rw [h])
  · rintro (h | h)
    · exact .inl h
    · exact .inr (by omega)

/-- The same, and a cell that is known. -/
def Sk (w : World) (box : Array Value) (gs : Nat) (sb : Nat → Bool) (b1 o : Nat) (d : Int) (W : World) : Prop := Sn w box gs sb W ∧ W.cell? ⟨b1, o, none⟩ = some (.int .i64 d)
theorem Sk.later {w : World} {box : Array Value} {gs : Nat} {sb : Nat → Bool} {b1 o : Nat} {d : Int} {W W' : World} (h : Sk w box gs sb b1 o d W) (hb : Below W.heap.size W W') : Sk w box gs sb b1 o d W' := ⟨h.1.later hb, (hb.cell (World.block_lt_of_cell? _ _ h.2)).trans h.2⟩
theorem Sk.keep {w : World} {x0 x1 x2 x3 : Value} {gs : Nat} {sb : Nat → Bool} {b1 o : Nat} {d : Int} {W : World} (h : Sk w #[x0, x1, x2, x3] gs sb b1 o d W) :
    W.cell? ⟨b1, o, none⟩ = some (.int .i64 d) ∧ W.cell? ⟨w.heap.size, 0, none⟩ = some x0 ∧ W.cell? ⟨w.heap.size, 1, none⟩ = some x1 ∧ W.cell? ⟨w.heap.size, 2, none⟩ = some x2 ∧ W.cell? ⟨w.heap.size, 3, none⟩ = some x3 := by
  obtain ⟨p0, p1, p2, p3, -⟩ := h.1.box.four
  exact ⟨h.2, p0, p1, p2, p3⟩
/-- Two answers. -/
def BPost (w : World) (x ok : Bool) (e : Ending) (w' : World) : Prop := e = .returned (.tuple #[.bool x, .bool ok]) ∧ Below w.heap.size w w'
theorem bret {x y : Bool} {b b' : Bool} (h1 : y = x) (h2 : b' = b) : Ending.returned (.tuple #[.bool x, .bool b]) = .returned (.tuple #[.bool y, .bool b']) := by rw [h1, h2]

set_option maxHeartbeats 1000000 in
theorem impl_bad (m : Mp) (zs : List Int) (h : ¬ m.ok) (a b al : Option Addr) (ca cb cl : Nat) (w : World) (hR : m.R.length ≤ maxLen) (hC : m.C.length ≤ maxLen) (hr : IRow w a m.R) (hc : IRow w b m.C) :
    Calls Try.prog 111 #[.agg #[.int .i64 m.W, .int .i64 m.H, .slice a m.R.length ca, .slice b m.C.length cb], .slice al zs.length cl] w (BPost w false false) := by
  have HB := Lib.hid ((Below.refl w.heap.size w).alloc (Nat.le_refl _) (.cells #[.int .i64 m.W, .int .i64 m.H, .slice a m.R.length ca, .slice b m.C.length cb] 26))
  have hk := okB_no h
  clear h
  go_enter Try.func111, Try.ntmps111
  go_wp2_with fail
  refine (MapV.impl_any m a b ca cb _ hR hC (RowAt.below hr HB.out) (RowAt.below hc HB.out)).mono ?_
  rw [hk]
  rintro e w1 ⟨rfl, hb1⟩
  have HB1 := Lib.hid (HB.out.trans (hb1.mono (by simp)))
  clear hb1
  go_wp2_with fail
  go_ret2
  exact ⟨rfl, HB1.out⟩

set_option maxRecDepth 20000 in
set_option maxHeartbeats 8000000 in
theorem impl_ok (m : Mp) (ww hh : Nat) (g : GoodM m ww hh) (zs : List Int) (hl : zs.length ≤ 1048576) (a b al : Option Addr) (ca cb cl : Nat) (w : World) (hr : IRow w a m.R) (hc : IRow w b m.C) (hz : IRow w al zs) :
    Calls Try.prog 111 #[.agg #[.int .i64 m.W, .int .i64 m.H, .slice a m.R.length ca, .slice b m.C.length cb], .slice al zs.length cl] w (BPost w (rtB m zs) true) := by
  have n36 := g.n36
  have hR : m.R.length ≤ maxLen := by rw [g.R]; unfold maxLen; omega
  have hC : m.C.length ≤ maxLen := by rw [g.C]; unfold maxLen; omega
  have HB := Lib.hid ((Below.refl w.heap.size w).alloc (Nat.le_refl _) (.cells #[.int .i64 m.W, .int .i64 m.H, .slice a m.R.length ca, .slice b m.C.length cb] 26))
  have HK := Lib.hid (Blk.new w 26 #[.int .i64 m.W, .int .i64 m.H, .slice a m.R.length ca, .slice b m.C.length cb])
  have hok : m.ok := by
    have hW := g.W
    have hH := g.H
    have hw1 := g.w1
    have hw6 := g.w6
    have hh1 := g.h1
    have hh6 := g.h6
    have hR := g.R
    have hC := g.C
    refine ⟨⟨by omega, by omega, by omega, by omega, ?_, by omega⟩, fun i hi => g.cell i (by omega)⟩
    rw [hR, hW, hH, Int.natCast_mul]
  have HG := Lib.hid g
  have HR := Lib.hid hr
  have HC := Lib.hid hc
  have HZ := Lib.hid hz
  have hk := okB_yes hok
  clear g hr hc hz hok
  go_enter Try.func111, Try.ntmps111
  go_wp2_with fail
  refine (MapV.impl_any m a b ca cb _ hR hC (RowAt.below HR.out HB.out) (RowAt.below HC.out HB.out)).mono ?_
  rw [hk]
  rintro e w1 ⟨rfl, hb1⟩
  have HK1 := HK.out.later hb1
  have HS1 := Lib.hid (show Sn w #[.int .i64 m.W, .int .i64 m.H, .slice a m.R.length ca, .slice b m.C.length cb] w1.heap.size (fun _ => false) (w1.alloc (.cells (bitCs fun _ => false) 122)) from
    ⟨(HB.out.trans (hb1.mono (by simp))).alloc (Nat.le_of_lt HK1.lt) _, HK1.alloc _, Blk.new w1 122 (bitCs fun _ => false), HK1.lt⟩)
  obtain ⟨gs, hgs⟩ : ∃ gs, w1.heap.size = gs := ⟨_, rfl⟩
  have HGs := Lib.hid hgs
  clear hb1 hk HB HK HK1 hgs
  go_wp2_with fail
  rw [HGs.out] at HS1
  go_loopg [14] zs.length (fun q i wr => ∃ k : Nat, k ≤ zs.length ∧ q = zs.length - k ∧ i = .int .i64 k ∧ ∃ sb, (∀ j, j < k → okAt m zs j = true) ∧ Bs zs k sb ∧ Sn w #[.int .i64 m.W, .int .i64 m.H, .slice a m.R.length ca, .slice b m.C.length cb] w1.heap.size sb wr)
  case atStart => exact ⟨0, Nat.zero_le _, rfl, rfl, _, (fun j hj => by omega), .start zs, by rw [HGs.out]; exact HS1.out⟩
  case round =>
    clear HS1
    obtain ⟨k, hk, hq, rfl, sb, hall, hbs, hS⟩ := hrel
    have HA := Lib.hid hall
    have HBs := Lib.hid hbs
    have HS := Lib.hid hS
    clear hall hbs hS
    obtain ⟨p0, p1, p2, p3, -⟩ := HS.out.box.four
    by_cases hlt : k < zs.length
    · rcases RowAt.below HZ.out HS.out.b with h0 | ⟨b1, off1, rfl, hc1⟩
      · omega
      have g1 : wr.cell? ⟨b1, off1 + k, none⟩ = some (.int .i64 (zAt zs k)) := hc1 k hlt
      have HC1 := Lib.hid hc1
      obtain ⟨x, hx⟩ : ∃ x, zAt zs k = x := ⟨_, rfl⟩
      rw [hx] at g1
      have HX := Lib.hid hx
      clear hc1 hx
      cases hob : opB m x with
      | false =>
        have HO := Lib.hid hob
        have HF := Lib.hid (rt_not hlt (ok_shut (by rw [HX.out]; exact hob)))
        clear hob
        go_wp2_with fail
        refine (impl_open m ww hh HG.out x a b ca cb _ (RowAt.below HC.out HS.out.b)).mono ?_
        rw [HO.out]
        rintro e w2 ⟨rfl, hb2⟩
        have HS2 := Lib.hid (HS.out.later hb2)
        clear hb2
        go_wp2_with fail
        go_ret2
        exact ⟨bret HF.out rfl, HS2.out.b⟩
      | true =>
        have HO := Lib.hid hob
        obtain ⟨c, hc, hco⟩ := opB_of HG.out hob
        subst hc
        have hcl : c < ww * hh := hco.1
        have hc36 : c < 36 := by omega
        have hc0 : (0 : Int) ≤ (c : Int) := by omega
        have hci : (c : Int) < 36 := by omega
        have HCo := Lib.hid hco
        clear hob hco
        by_cases hs : sb c = true
        · have HF := Lib.hid (rt_not hlt (ok_twice (m := m) (by rw [HX.out]; exact (HBs.out c).1 hs)))
          go_wp2_with fail
          refine (impl_open m ww hh HG.out c a b ca cb _ (RowAt.below HC.out HS.out.b)).mono ?_
          rw [HO.out]
          rintro e w2 ⟨rfl, hb2⟩
          have HS2 := Lib.hid (HS.out.later hb2)
          obtain ⟨s1, s2⟩ := bit_cell HS2.out.bits hc36
          rw [hs] at s1
          clear hb2 hs
          go_wp2_with fail
          go_ret2
          exact ⟨bret HF.out rfl, HS2.out.b⟩
        · have hs' : sb c = false := by simpa using hs
          have HNt := Lib.hid (show zAt zs k ∉ zs.take k from by rw [HX.out]; intro h; exact hs ((HBs.out c).2 h))
          have HBp := Lib.hid (HBs.out.put hlt HX.out)
          clear hs
          cases k with
          | zero =>
            have HOk := Lib.hid (ok_yes (m := m) (by rw [HX.out]; exact HO.out) HNt.out (.inl rfl))
            rw [Nat.add_zero] at g1
            go_wp2_with fail
            refine (impl_open m ww hh HG.out c a b ca cb _ (RowAt.below HC.out HS.out.b)).mono ?_
            rw [HO.out]
            rintro e w2 ⟨rfl, hb2⟩
            have HS2 := Lib.hid (HS.out.later hb2)
            obtain ⟨s1, s2⟩ := bit_cell HS2.out.bits hc36
            rw [hs'] at s1
            have HS3 := Lib.hid (HS2.out.bit c)
            clear hb2 hs'
            clear p0 p1 p2 p3 g1
            go_upto_region 9 with (fail)
            go_quiet (fail)
            go_wp2_with fail
            go_roundg (zs.length - 1)
            case measure => omega
            case rel => exact ⟨1, by omega, rfl, rfl, _, (fun j hj => by
              obtain rfl : j = 0 := by omega
              exact HOk.out), HBp.out, HS3.out.later (Next.below_drewN (Below.refl _ _) _)⟩
          | succ k =>
            have hkl : k < zs.length := by omega
            obtain ⟨d, hd, hdo⟩ := opB_of HG.out (ok_opn (HA.out k (by omega)))
            have hdl : d < ww * hh := hdo.1
            have HDd := Lib.hid hd
            have g2 : wr.cell? ⟨b1, off1 + k, none⟩ = some (.int .i64 (d : Nat)) := by
              rw [HC1.out k hkl]
              show some (Value.int .i64 (zAt zs k)) = _
              rw [hd]
            have hk0 : (0 : Int) ≤ (k : Int) := by omega
            have hki : (k : Int) < (zs.length : Int) := by omega
            have hk1 : (k : Int) + 1 < (zs.length : Int) := by omega
            have hwk : IntKind.i64.wrap (k : Int) = (k : Int) := IntWalk.i64_in _ (by omega)
            have hwk2 : IntKind.i64.wrap ((k : Int) + 1 - 1) = (k : Int) := by rw [Int.add_sub_cancel]; exact hwk
            clear hd hdo
            go_wp2_with fail
            refine (impl_open m ww hh HG.out c a b ca cb _ (RowAt.below HC.out HS.out.b)).mono ?_
            rw [HO.out]
            rintro e w2 ⟨rfl, hb2⟩
            have HS2 := Lib.hid (HS.out.later hb2)
            have HRw := Lib.hid (RowAt.below HZ.out HS2.out.b)
            obtain ⟨s1, s2⟩ := bit_cell HS2.out.bits hc36
            rw [hs'] at s1
            clear hb2 hs'
            have HSk := Lib.hid (show Sk w #[.int .i64 m.W, .int .i64 m.H, .slice a m.R.length ca, .slice b m.C.length cb] w1.heap.size sb b1 (off1 + k) (d : Nat) w2.drew from Sk.later (W := w2) ⟨HS2.out, by rcases HRw.out with h0 | ⟨b9, off9, e9, h9⟩; omega; cases e9; rw [h9 k hkl]; show some (Value.int .i64 (zAt zs k)) = _; rw [HDd.out]⟩ (Below.refl _ _).drew)
            clear p0 p1 p2 p3 g1 g2
            obtain ⟨tb, htb⟩ : ∃ tb, decide ((c : Int) ∈ ints (nx m d)) = tb := ⟨_, rfl⟩
            have HTb := Lib.hid htb
            have hnl := nx_length m d
            clear htb
            go_upto_region 9 with (fail)
            clear s1 s2
            have HS := HSk
            go_region_held3 (fun W : World => W.cell? ⟨b1, off1 + k, none⟩ = some (.int .i64 (d : Nat)) ∧ W.cell? ⟨w.heap.size, 0, none⟩ = some (.int .i64 m.W) ∧ W.cell? ⟨w.heap.size, 1, none⟩ = some (.int .i64 m.H) ∧ W.cell? ⟨w.heap.size, 2, none⟩ = some (.slice a m.R.length ca) ∧ W.cell? ⟨w.heap.size, 3, none⟩ = some (.slice b m.C.length cb)) (first | with_reducible exact HS.out.keep) (first
              | (go_at_call 118; refine (impl_next m ww hh HG.out a b ca cb d _ (RowAt.below HC.out HS.out.1.b) hdl).mono ?_; rintro e w5 ⟨⟨v8, rfl, ho8⟩, hb5⟩; obtain ⟨a8, c8, rfl, hr8, -⟩ := OwnI.slice ho8; have HS5 := Lib.hid (HS.out.later hb5); have hcn := cont_any a8 c8 (ints (nx m d)) c w5 hr8 (by rw [ints_length]; exact hnl); rw [ints_length] at hcn; rw [ints_length]; have HCn := Lib.hid hcn; clear hb5 ho8 hr8 hcn; have HS := HS5)
              | (go_at_call 94; refine HCn.out.mono ?_; rw [HTb.out]; rintro e w6 ⟨rfl, rfl⟩))
            cases tb with
            | true =>
              have HOk := Lib.hid (ok_yes (m := m) (by rw [HX.out]; exact HO.out) HNt.out (.inr (by rw [HX.out, show k + 1 - 1 = k from rfl, HDd.out]; exact of_decide_eq_true HTb.out)))
              obtain ⟨s1, s2⟩ := bit_cell HS.out.1.bits hc36
              have HS7 := Lib.hid (HS.out.1.bit c)
              go_wp2_with fail
              go_roundg (zs.length - (k + 1 + 1))
              case measure => omega
              case rel => exact ⟨k + 1 + 1, by omega, rfl, by go_num, _, all_succ (p := fun j => okAt m zs j = true) HA.out HOk.out, HBp.out, HS7.out⟩
            | false =>
              have HF := Lib.hid (rt_not hlt (ok_far (m := m) (by omega) (by rw [HX.out, show k + 1 - 1 = k from rfl, HDd.out]; exact of_decide_eq_false HTb.out)))
              go_wp2_with fail
              go_ret2
              exact ⟨bret HF.out rfl, HS.out.1.b⟩
    · obtain rfl : k = zs.length := by omega
      have HF := Lib.hid (rt_all HA.out)
      go_wp2_with fail
      go_ret2
      exact ⟨bret HF.out rfl, HS.out.b⟩
end Go.Proofs.Ytdfmfmndmldggaa.RtI
