/- LeastTime: the program and the model. -/
import Derived.Test.YtdfmfmndmldggaaTmsI
import Derived.Test.YtdfmfmndmldggaaBfoS
namespace Go.Proofs.Ytdfmfmndmldggaa.LtI
open Go.RowKit Lb IntS MapS MapV High Cells StepT StpF SpecB DjkB OpnI TmsI
open Go.Proofs.Ytdfmfmndmldggaa.BfoB (oL oL_len oL_at own_at own_cell)
set_option linter.unusedSimpArgs false
set_option linter.unusedVariables false

theorem ok_of {m : Mp} {ww hh : Nat} (g : GoodM m ww hh) : m.ok := by
  have hW := g.W
  have hH := g.H
  have hw1 := g.w1
  have hw6 := g.w6
  have hh1 := g.h1
  have hh6 := g.h6
  have hR := g.R
  have hC := g.C
  refine ⟨⟨by omega, by omega, by omega, by omega, ?_, by omega⟩, fun i hi => g.cell i (by omega)⟩
  rw [hR, hW, hH, Int.natCast_mul]
/-- The least times to all open cells. -/
def TT (m : Mp) (T : Nat → Nat → Int) : Prop := ∀ ww hh, GoodM m ww hh → ∀ b, Opn m (ww * hh) b → IsD m (fun x y => stp m y x) b (T b)
theorem tt_ex (m : Mp) : ∃ T, TT m T := by
  by_cases h : m.ok
  · obtain ⟨ww, hh, g⟩ := good_of h
    have hu : ∀ w' h', GoodM m w' h' → w' = ww ∧ h' = hh := fun w' h' g' => by
      have e1 := g.W
      have e2 := g'.W
      have e3 := g.H
      have e4 := g'.H
      exact ⟨by omega, by omega⟩
    have : ∀ b, ∃ D, Opn m (ww * hh) b → IsD m (fun x y => stp m y x) b D := fun b => by
      by_cases ho : Opn m (ww * hh) b
      · obtain ⟨D, hD⟩ := isD_ex g ho (wts_to g)
        exact ⟨D, fun _ => hD⟩
      · exact ⟨fun _ => 0, fun e => absurd e ho⟩
    refine ⟨fun b => (this b).choose, fun w' h' g' b hb => ?_⟩
    obtain ⟨rfl, rfl⟩ := hu w' h' g'
    exact (this b).choose_spec hb
  · exact ⟨fun _ _ => 0, fun w' h' g' => absurd (ok_of g') h⟩

/-- The answer. -/
def ltB (m : Mp) (T : Nat → Nat → Int) (p q : Int) : Bool := askB m p q && decide (0 ≤ T q.toNat p.toNat)
def ltN (m : Mp) (T : Nat → Nat → Int) (p q : Int) : Int := if ltB m T p q then T q.toNat p.toNat else 0
theorem lt_no {m : Mp} {T : Nat → Nat → Int} {p q : Int} (h : askB m p q = false) : ltB m T p q = false ∧ ltN m T p q = 0 := by
  have h1 : ltB m T p q = false := by unfold ltB; rw [h]; rfl
  exact ⟨h1, by unfold ltN; rw [h1]; rfl⟩
theorem lt_far {m : Mp} {T : Nat → Nat → Int} {i j : Nat} (h : T j i < 0) : ltB m T (i : Nat) (j : Nat) = false ∧ ltN m T (i : Nat) (j : Nat) = 0 := by
  have h1 : ltB m T (i : Nat) (j : Nat) = false := by unfold ltB; rw [Int.toNat_natCast, Int.toNat_natCast, decide_eq_false (by omega)]; simp
  exact ⟨h1, by unfold ltN; rw [h1]; rfl⟩
theorem lt_yes {m : Mp} {T : Nat → Nat → Int} {i j : Nat} (ha : askB m (i : Nat) (j : Nat) = true) (h : 0 ≤ T j i) : ltB m T (i : Nat) (j : Nat) = true ∧ ltN m T (i : Nat) (j : Nat) = T j i := by
  have h1 : ltB m T (i : Nat) (j : Nat) = true := by unfold ltB; rw [ha, Int.toNat_natCast, Int.toNat_natCast, decide_eq_true h]; rfl
  exact ⟨h1, by unfold ltN; rw [h1, Int.toNat_natCast, Int.toNat_natCast]; rfl⟩
theorem irow_two (w : World) (p q : Int) (B : Nat) (hB : w.heap.size = B) : IRow (w.alloc (.cells #[.int .i64 p, .int .i64 q] 3)) (some ⟨B, 0, none⟩) [p, q] := by
  subst hB
  exact irow_new w [p, q]
theorem irow_one (w : World) (p : Int) (B : Nat) (hB : w.heap.size = B) : IRow (w.alloc (.cells #[.int .i64 p] 3)) (some ⟨B, 0, none⟩) [p] := by
  subst hB
  exact irow_new w [p]
theorem lret {n n' : Int} {b b' : Bool} (h1 : n' = n) (h2 : b' = b) : Ending.returned (.tuple #[.int .i64 n, .bool b]) = .returned (.tuple #[.int .i64 n', .bool b']) := by rw [h1, h2]
/-- A number and whether there is one. -/
def LPost (w : World) (n : Int) (ok : Bool) (e : Ending) (w' : World) : Prop := e = .returned (.tuple #[.int .i64 n, .bool ok]) ∧ Below w.heap.size w w'
theorem lens {m : Mp} {ww hh : Nat} (g : GoodM m ww hh) : m.R.length ≤ maxLen ∧ m.C.length ≤ maxLen := by
  have h1 := g.R
  have h2 := g.C
  have h3 := g.n36
  unfold maxLen
  omega

end Go.Proofs.Ytdfmfmndmldggaa.LtI
