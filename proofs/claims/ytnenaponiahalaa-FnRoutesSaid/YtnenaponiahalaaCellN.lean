/- The cells next to a cell: contracts. -/
import Derived.Test.YtnenaponiahalaaNextS
namespace Go.Proofs.Ytnenaponiahalaa.Cells
open Go.RowKit Lb IntS MapS MapV High
open Go.Proofs.Ytnenaponiahalaa.Next (below_drewN bAD impl_raw)
open Go.Proofs.Ytnenaponiahalaa.NextS (spec_raw)
set_option linter.unusedSimpArgs false
set_option linter.unusedVariables false

theorem mp_eq {m : Mp} {ww hh : Nat} (g : GoodM m ww hh) : m = ⟨ww, hh, m.R, m.C⟩ := by
  have h1 := g.W
  have h2 := g.H
  cases m
  simp only at h1 h2
  subst h1 h2
  rfl

/-- The contract of the program's search, at a map. -/
theorem impl_next (m : Mp) (ww hh : Nat) (g : GoodM m ww hh) (a b : Option Addr) (ca cb : Nat) (c : Nat) (w : World) (hc : IRow w b m.C) (hl : c < ww * hh) :
    Calls Try.prog 77 #[.agg #[.int .i64 m.W, .int .i64 m.H, .slice a m.R.length ca, .slice b m.C.length cb], .int .i64 c] w fun e w' => (∃ v, e = .returned v ∧ OwnI w' w.heap.size v (ints (nx m c))) ∧ Below w.heap.size w w' := by
  have e := mp_eq g
  obtain ⟨W, H, R, C⟩ := m
  cases e
  have h := impl_raw ww hh R C a b ca cb c w g hc hl
  rw [nxTo_all g] at h
  exact h
theorem spec_next (m : Mp) (ww hh : Nat) (g : GoodM m ww hh) (a b : Option Addr) (ca cb : Nat) (c : Nat) (w : World) (hc : IRow w b m.C) (hl : c < ww * hh) :
    Calls Try.prog 132 #[.agg #[.int .i64 m.W, .int .i64 m.H, .slice a m.R.length ca, .slice b m.C.length cb], .int .i64 c] w fun e w' => (∃ v, e = .returned v ∧ OwnI w' w.heap.size v (ints (nx m c))) ∧ Below w.heap.size w w' := by
  have e := mp_eq g
  obtain ⟨W, H, R, C⟩ := m
  cases e
  exact spec_raw ww hh R C a b ca cb c w g hc hl

theorem cell_yes (m : Mp) (a b : Option Addr) (ca cb : Nat) (c : Nat) (w : World) (hl : c < m.C.length) (hm : m.C.length ≤ maxLen) :
    Calls Try.prog 135 #[.agg #[.int .i64 m.W, .int .i64 m.H, .slice a m.R.length ca, .slice b m.C.length cb], .int .i64 c] w fun e w' => e = .returned (.bool true) ∧ Below w.heap.size w w' := by
  unfold maxLen at hm
  go_enter Try.func135, Try.ntmps135
  go_wp2
  go_ret
  exact ⟨rfl, (Below.refl _ _).alloc (Nat.le_refl _) _⟩
theorem cell_no (m : Mp) (a b : Option Addr) (ca cb : Nat) (c : Int) (w : World) (hl : c < 0 ∨ (m.C.length : Int) ≤ c) (hm : m.C.length ≤ maxLen) :
    Calls Try.prog 135 #[.agg #[.int .i64 m.W, .int .i64 m.H, .slice a m.R.length ca, .slice b m.C.length cb], .int .i64 c] w fun e w' => e = .returned (.bool false) ∧ Below w.heap.size w w' := by
  unfold maxLen at hm
  by_cases h0 : c < 0
  · have h1 : decide (0 ≤ c) = false := by simpa using h0
    go_enter Try.func135, Try.ntmps135
    go_wp2
    go_ret
    exact ⟨rfl, (Below.refl _ _).alloc (Nat.le_refl _) _⟩
  · have h1 : decide (0 ≤ c) = true := by simpa using h0
    have h2 : decide (c < (m.C.length : Int)) = false := by simp; omega
    clear hl h0
    go_enter Try.func135, Try.ntmps135
    go_wp2
    go_ret
    exact ⟨rfl, (Below.refl _ _).alloc (Nat.le_refl _) _⟩

theorem scell (m : Mp) (ww hh : Nat) (g : GoodM m ww hh) (a b : Option Addr) (ca cb : Nat) (c : Int) (w : World) :
    Calls Try.prog 139 #[.agg #[.int .i64 m.W, .int .i64 m.H, .slice a m.R.length ca, .slice b m.C.length cb], .int .i64 c] w fun e w' => e = .returned (.bool (decide (0 ≤ c ∧ c < (ww * hh : Nat)))) ∧ Below w.heap.size w w' := by
  have e := mp_eq g
  obtain ⟨W, H, R, C⟩ := m
  cases e
  have w1 := g.w1
  have w6 := g.w6
  have h1 := g.h1
  have h6 := g.h6
  have n1 := g.n1
  have n36 := g.n36
  have hm : (ww : Int) * (hh : Int) = ((ww * hh : Nat) : Int) := by rw [Int.natCast_mul]
  have hm1 : 1 ≤ (ww : Int) * (hh : Int) := by omega
  have hm2 : (ww : Int) * (hh : Int) ≤ 36 := by omega
  clear g
  by_cases hin : 0 ≤ c ∧ c < ((ww * hh : Nat) : Int)
  · have H1 := Lib.hid hin.1
    have H2 := Lib.hid (show c ≤ (ww : Int) * (hh : Int) - 1 by omega)
    have H3 := Lib.hid (decide_eq_true hin)
    clear hin hm
    go_enter Try.func139, Try.ntmps139
    go_wp2_with fail
    refine (in_yes _ _ _ _ H1.out H2.out).mono ?_
    rintro e w' ⟨rfl, rfl⟩
    go_wp2
    go_ret
    exact ⟨ret_bool H3.out.symm, (Below.refl _ _).alloc (Nat.le_refl _) _⟩
  · have H1 := Lib.hid (show c < 0 ∨ (ww : Int) * (hh : Int) - 1 < c by omega)
    have H3 := Lib.hid (decide_eq_false hin)
    clear hin hm
    go_enter Try.func139, Try.ntmps139
    go_wp2_with fail
    refine (in_no _ _ _ _ H1.out).mono ?_
    rintro e w' ⟨rfl, rfl⟩
    go_wp2
    go_ret
    exact ⟨ret_bool H3.out.symm, (Below.refl _ _).alloc (Nat.le_refl _) _⟩

/-- A list of numbers and whether there is one. -/
def NPost (w : World) (zs : List Int) (ok : Bool) (e : Ending) (w' : World) : Prop := ∃ v, e = .returned (.tuple #[v, .bool ok]) ∧ OwnI w' w.heap.size v zs ∧ Below w.heap.size w w'
theorem ownI_nil (w w0 : World) (h : w0.heap.size ≤ w.heap.size) : OwnI (w.alloc (.cells #[] 3)) w0.heap.size (.slice (some ⟨w.heap.size, 0, none⟩) 0 0) [] :=
  World.ownsRow_made (e := 3) (size := 1) w #[] 0 h (Nat.zero_le _) rfl

end Go.Proofs.Ytnenaponiahalaa.Cells
