/- Whether cells are open: the program and the model. -/
import Derived.Test.YtdfmfmndmldggaaBaN
namespace Go.Proofs.Ytdfmfmndmldggaa.OpnI
open Go.RowKit Lb IntS MapS MapV High Cells StepT StpF
set_option linter.unusedSimpArgs false
set_option linter.unusedVariables false

/-- Whether a number is that of a cell that is not forbidden. -/
def opB (m : Mp) (c : Int) : Bool := decide (0 ≤ c ∧ c < (m.C.length : Int) ∧ 0 < zAt m.C c.toNat)
theorem opB_iff {m : Mp} {ww hh : Nat} (g : GoodM m ww hh) {c : Int} : opB m c = true ↔ ∃ k : Nat, c = k ∧ k < ww * hh ∧ 0 < zAt m.C k := by
  unfold opB
  rw [decide_eq_true_iff, g.C]
  constructor
  · rintro ⟨h1, h2, h3⟩
    exact ⟨c.toNat, by omega, by omega, h3⟩
  · rintro ⟨k, rfl, h2, h3⟩
    exact ⟨by omega, by omega, by simpa using h3⟩
theorem opB_yes {m : Mp} {ww hh : Nat} (g : GoodM m ww hh) {k : Nat} (h : Opn m (ww * hh) k) : opB m (k : Nat) = true := (opB_iff g).2 ⟨k, rfl, h.1, h.2⟩
theorem opB_of {m : Mp} {ww hh : Nat} (g : GoodM m ww hh) {c : Int} (h : opB m c = true) : ∃ k : Nat, c = k ∧ Opn m (ww * hh) k := by
  obtain ⟨k, h1, h2, h3⟩ := (opB_iff g).1 h
  exact ⟨k, h1, h2, h3⟩
theorem bool_same {x y : Bool} {p : Prop} (hx : x = true ↔ p) (hy : y = true ↔ p) : x = y := by
  cases x <;> cases y <;> simp_all

theorem spec_open (m : Mp) (ww hh : Nat) (g : GoodM m ww hh) (c : Int) (a b : Option Addr) (ca cb : Nat) (w : World) (hc : IRow w b m.C) :
    Calls Try.prog 113 #[.agg #[.int .i64 m.W, .int .i64 m.H, .slice a m.R.length ca, .slice b m.C.length cb], .int .i64 c] w fun e w' => e = .returned (.bool (opB m c)) ∧ Below w.heap.size w w' := by
  obtain ⟨o, ho, h⟩ := sopen m ww hh g c
  rw [← bool_same ho (opB_iff g)]
  exact h a b ca cb w hc

set_option maxHeartbeats 1000000 in
theorem impl_open (m : Mp) (ww hh : Nat) (g : GoodM m ww hh) (c : Int) (a b : Option Addr) (ca cb : Nat) (w : World) (hc : IRow w b m.C) :
    Calls Try.prog 122 #[.agg #[.int .i64 m.W, .int .i64 m.H, .slice a m.R.length ca, .slice b m.C.length cb], .int .i64 c] w fun e w' => e = .returned (.bool (opB m c)) ∧ Below w.heap.size w w' := by
  have n36 := g.n36
  have hC : m.C.length ≤ maxLen := by rw [g.C]; unfold maxLen; omega
  have HB := Lib.hid ((Below.refl w.heap.size w).alloc (Nat.le_refl _) (.cells #[.int .i64 m.W, .int .i64 m.H, .slice a m.R.length ca, .slice b m.C.length cb] 26))
  have HK := Lib.hid (Blk.new w 26 #[.int .i64 m.W, .int .i64 m.H, .slice a m.R.length ca, .slice b m.C.length cb])
  by_cases hin : 0 ≤ c ∧ c < ((ww * hh : Nat) : Int)
  · obtain ⟨k, rfl⟩ : ∃ k : Nat, c = k := ⟨c.toNat, by omega⟩
    have hk : k < m.C.length := by rw [g.C]; omega
    have hkk : k < ww * hh := by omega
    obtain ⟨-, -, z0, z9⟩ := g.cell k hkk
    have HR := Lib.hid hc
    by_cases hf : zAt m.C k = 0
    · have HV := Lib.hid (show opB m (k : Nat) = false from by unfold opB; rw [decide_eq_false_iff_not]; intro h; simp at h; omega)
      have HF := Lib.hid hf
      clear hf hc z0 z9
      go_enter Try.func122, Try.ntmps122
      go_wp2_with fail
      refine (cell_yes m a b ca cb k _ hk hC).mono ?_
      rintro e w2 ⟨rfl, hb2⟩
      have HB2 := Lib.hid (HB.out.trans (hb2.mono (by simp)))
      obtain ⟨p0, p1, p2, p3, -⟩ := (HK.out.later hb2).four
      clear hb2
      go_wp2_with fail
      refine (forb_yes m a b ca cb k _ (RowAt.below HR.out HB2.out) hk hC HF.out).mono ?_
      rintro e w3 ⟨rfl, hb3⟩
      have HB3 := Lib.hid (HB2.out.trans (hb3.mono HB2.out.size))
      clear hb3
      go_wp2_with fail
      go_ret
      exact ⟨by rw [HV.out]; rfl, HB3.out⟩
    · have HV := Lib.hid (show opB m (k : Nat) = true from opB_yes g ⟨hkk, by omega⟩)
      have HF := Lib.hid hf
      clear hf hc z0 z9
      go_enter Try.func122, Try.ntmps122
      go_wp2_with fail
      refine (cell_yes m a b ca cb k _ hk hC).mono ?_
      rintro e w2 ⟨rfl, hb2⟩
      have HB2 := Lib.hid (HB.out.trans (hb2.mono (by simp)))
      obtain ⟨p0, p1, p2, p3, -⟩ := (HK.out.later hb2).four
      clear hb2
      go_wp2_with fail
      refine (forb_no m a b ca cb k _ (RowAt.below HR.out HB2.out) hk hC HF.out).mono ?_
      rintro e w3 ⟨rfl, hb3⟩
      have HB3 := Lib.hid (HB2.out.trans (hb3.mono HB2.out.size))
      clear hb3
      go_wp2_with fail
      go_ret
      exact ⟨by rw [HV.out]; rfl, HB3.out⟩
  · have HO := Lib.hid (show c < 0 ∨ (m.C.length : Int) ≤ c from by rw [g.C]; omega)
    have HV := Lib.hid (show opB m c = false from by unfold opB; rw [decide_eq_false_iff_not, g.C]; intro h; omega)
    clear hin
    go_enter Try.func122, Try.ntmps122
    go_wp2_with fail
    refine (cell_no m a b ca cb c _ HO.out hC).mono ?_
    rintro e w2 ⟨rfl, hb2⟩
    have HB2 := Lib.hid (HB.out.trans (hb2.mono (by simp)))
    clear hb2
    go_wp2_with fail
    go_ret
    exact ⟨by rw [HV.out]; rfl, HB2.out⟩

/-- Whether a map is valid and cells of it are open. -/
def allO (m : Mp) (zs : List Int) : Bool := okB m && zs.all (opB m)
theorem all_take {f : Int → Bool} {zs : List Int} (h : ∀ j, j < zs.length → f (zAt zs j) = true) : zs.all f = true := by
  rw [List.all_eq_true]
  intro x hx
  obtain ⟨j, hj, rfl⟩ := List.mem_iff_getElem.1 hx
  have := h j hj
  simpa [zAt, hj] using this
theorem all_not {f : Int → Bool} {zs : List Int} {j : Nat} (hj : j < zs.length) (h : f (zAt zs j) = false) : zs.all f = false := by
  rw [List.all_eq_false]
  exact ⟨zs[j], List.getElem_mem hj, by have : zAt zs j = zs[j] := by simp [zAt, hj]
                                        rw [← this, h]; simp⟩

set_option maxHeartbeats 1000000 in
theorem areopen_any (m : Mp) (a b : Option Addr) (ca cb : Nat) (al : Option Addr) (cl : Nat) (zs : List Int) (w : World) (hR : m.R.length ≤ maxLen) (hC : m.C.length ≤ maxLen) (hr : IRow w a m.R) (hc : IRow w b m.C) (hz : IRow w al zs) (hl : zs.length ≤ 100) :
    Calls Try.prog 116 #[.agg #[.int .i64 m.W, .int .i64 m.H, .slice a m.R.length ca, .slice b m.C.length cb], .slice al zs.length cl] w fun e w' => e = .returned (.bool (allO m zs)) ∧ Below w.heap.size w w' := by
  have HB := Lib.hid ((Below.refl w.heap.size w).alloc (Nat.le_refl _) (.cells #[.int .i64 m.W, .int .i64 m.H, .slice a m.R.length ca, .slice b m.C.length cb] 26))
  have HK := Lib.hid (Blk.new w 26 #[.int .i64 m.W, .int .i64 m.H, .slice a m.R.length ca, .slice b m.C.length cb])
  have HR := Lib.hid hr
  have HC := Lib.hid hc
  have HZ := Lib.hid hz
  by_cases h : m.ok
  · obtain ⟨ww, hh, g⟩ := good_of h
    have HG := Lib.hid g
    have hk := okB_yes h
    have HE := Lib.hid (show allO m zs = zs.all (opB m) from by unfold allO; rw [hk]; rfl)
    clear h hr hc hz g
    go_enter Try.func116, Try.ntmps116
    go_wp2_with fail
    refine (MapV.impl_any m a b ca cb _ hR hC (RowAt.below HR.out HB.out) (RowAt.below HC.out HB.out)).mono ?_
    rw [hk]
    rintro e w1 ⟨rfl, hb1⟩
    have HB1 := Lib.hid (HB.out.trans (hb1.mono (by simp)))
    have HK1 := Lib.hid (HK.out.later hb1)
    clear hb1 hk HB HK
    go_wp2_with fail
    go_loopw [12] (fun i wr => ∃ k : Nat, k ≤ zs.length ∧ i = .int .i64 k ∧ (∀ j, j < k → opB m (zAt zs j) = true) ∧ Below w.heap.size w wr ∧ Blk wr w.heap.size 26 #[.int .i64 m.W, .int .i64 m.H, .slice a m.R.length ca, .slice b m.C.length cb]) (fun i _ => zs.length - (intOf i).toNat)
    case atStart => exact ⟨0, Nat.zero_le _, rfl, (fun j hj => by omega), HB1.out, HK1.out⟩
    case round =>
      clear HB1 HK1
      obtain ⟨k, hk, rfl, hall, hb, hkb⟩ := hrel
      have HA := Lib.hid hall
      have HB := Lib.hid hb
      have HK := Lib.hid hkb
      clear hall hb hkb
      by_cases hlt : k < zs.length
      · rcases RowAt.below HZ.out HB.out with h0 | ⟨b1, off1, rfl, hc1⟩
        · omega
        have g1 : wr.cell? ⟨b1, off1 + k, none⟩ = some (.int .i64 (zAt zs k)) := hc1 k hlt
        obtain ⟨p0, p1, p2, p3, -⟩ := HK.out.four
        obtain ⟨x, hx⟩ : ∃ x, zAt zs k = x := ⟨_, rfl⟩
        rw [hx] at g1
        have HX := Lib.hid hx
        clear hc1 hx
        obtain ⟨ob, hob⟩ : ∃ ob, opB m x = ob := ⟨_, rfl⟩
        have HO := Lib.hid hob
        go_wp2_with fail
        refine (impl_open m ww hh HG.out x a b ca cb _ (RowAt.below HC.out HB.out)).mono ?_
        rw [hob]
        rintro e w2 ⟨rfl, hb2⟩
        have HB2 := Lib.hid (HB.out.trans (hb2.mono HB.out.size))
        have HK2 := Lib.hid (HK.out.later hb2)
        clear hb2 hob p0 p1 p2 p3 g1
        cases ob with
        | true =>
          go_wp2_with fail
          go_roundw
          case rel => exact ⟨k + 1, by omega, by go_num, all_succ (p := fun j => opB m (zAt zs j) = true) HA.out (by rw [HX.out]; exact HO.out), HB2.out, HK2.out⟩
          case measure => simp [intOf]; omega
        | false =>
          have HF := Lib.hid (all_not (f := opB m) hlt (by rw [HX.out]; exact HO.out))
          go_wp2_with fail
          go_ret
          exact ⟨ret_bool (by rw [HE.out, HF.out]), HB2.out⟩
      · obtain rfl : k = zs.length := by omega
        have HF := Lib.hid (all_take (f := opB m) HA.out)
        go_wp2_with fail
        go_ret
        exact ⟨ret_bool (by rw [HE.out, HF.out]), HB.out⟩
  · have hk := okB_no h
    have HE := Lib.hid (show allO m zs = false from by unfold allO; rw [hk]; rfl)
    clear h hr hc hz
    go_enter Try.func116, Try.ntmps116
    go_wp2_with fail
    refine (MapV.impl_any m a b ca cb _ hR hC (RowAt.below HR.out HB.out) (RowAt.below HC.out HB.out)).mono ?_
    rw [hk]
    rintro e w1 ⟨rfl, hb1⟩
    have HB1 := Lib.hid (HB.out.trans (hb1.mono (by simp)))
    clear hb1 hk HB HK
    go_wp2_with fail
    go_ret
    exact ⟨ret_bool HE.out.symm, HB1.out⟩

/-- Whether a question is answered: the map is valid, both cells are open. -/
def askB (m : Mp) (p q : Int) : Bool := okB m && (opB m p && opB m q)
theorem allO_one (m : Mp) (p : Int) : allO m [p] = askB m p p := by simp [allO, askB]
theorem allO_two (m : Mp) (p q : Int) : allO m [p, q] = askB m p q := by simp [allO, askB]
theorem askB_of {m : Mp} {p q : Int} (h : askB m p q = true) : m.ok ∧ opB m p = true ∧ opB m q = true := by
  unfold askB at h
  rw [Bool.and_eq_true, Bool.and_eq_true] at h
  exact ⟨okB_iff.1 h.1, h.2.1, h.2.2⟩

end Go.Proofs.Ytdfmfmndmldggaa.OpnI
