/- CellOfCode and CodeAt: both texts. -/
import Derived.Test.YtdfmfmndmldggaaCoA
import Derived.Test.YtdfmfmndmldggaaCoG
import Derived.Test.YtdfmfmndmldggaaCoF
namespace Go.Proofs.Ytdfmfmndmldggaa.CoC
open Go.RowKit Lb IntS CtK CoM CoP CoF
open OpnI (opB opB_iff opB_of)
set_option linter.unusedSimpArgs false
set_option linter.unusedVariables false

/-- The standing facts of a map and a list that are read. -/
structure Rd (m : Mp) (cs : List Ct) (a b ad : Option Addr) (w : World) : Prop where
  r : IRow w a m.R
  c : IRow w b m.C
  l : Row w ad cs
theorem Rd.later {m : Mp} {cs : List Ct} {a b ad : Option Addr} {w w' : World} (h : Rd m cs a b ad w) (hb : Below w.heap.size w w') : Rd m cs a b ad w' := ⟨RowAt.below h.r hb, RowAt.below h.c hb, h.l.later hb⟩
theorem Rd.drew {m : Mp} {cs : List Ct} {a b ad : Option Addr} {w : World} (h : Rd m cs a b ad w) : Rd m cs a b ad w.drew := ⟨h.r, h.c, h.l⟩

theorem impl_good (m : Mp) (cs : List Ct) (hl : cs.length ≤ 1048576) (hR : m.R.length ≤ maxLen) (hC : m.C.length ≤ maxLen) (a b : Option Addr) (ca cb : Nat) (ad : Option Addr) (cap : Nat) (w : World) (h : Rd m cs a b ad w) :
    Calls Try.prog 97 #[.agg #[.int .i64 m.W, .int .i64 m.H, .slice a m.R.length ca, .slice b m.C.length cb], .slice ad cs.length cap] w fun e w' => e = .returned (.bool (goodB m cs)) ∧ Below w.heap.size w w' :=
  CoA.impl_any m cs (by unfold maxLen; omega) hR hC a b ca cb ad cap w h.r h.c h.l
theorem spec_good (m : Mp) (cs : List Ct) (hl : cs.length ≤ 1048576) (hR : m.R.length ≤ maxLen) (hC : m.C.length ≤ maxLen) (a b : Option Addr) (ca cb : Nat) (ad : Option Addr) (cap : Nat) (w : World) (h : Rd m cs a b ad w) :
    Calls Try.prog 85 #[.agg #[.int .i64 m.W, .int .i64 m.H, .slice a m.R.length ca, .slice b m.C.length cb], .slice ad cs.length cap] w fun e w' => e = .returned (.bool (goodB m cs)) ∧ Below w.heap.size w w' :=
  CoG.good_any m cs (by unfold maxLen; omega) hR hC a b ca cb ad cap w h.r h.c h.l

/-- What CellOfCode answers. -/
def ccB (m : Mp) (cs : List Ct) (x : Int) : Bool := goodB m cs && decide (0 ≤ fiZ cs x)
def ccZ (m : Mp) (cs : List Ct) (x : Int) : Int := if ccB m cs x then (at_ cs (fiZ cs x).toNat).ce else 0
def ZPost (w : World) (z : Int) (ok : Bool) (e : Ending) (w' : World) : Prop := e = .returned (.tuple #[.int .i64 z, .bool ok]) ∧ Below w.heap.size w w'

/-- Where a cell stands first. -/
def fcI (cs : List Ct) (c : Int) : Nat := cs.findIdx (fun r => r.ce == c)
theorem fc_at {cs : List Ct} {c : Int} {k : Nat} (hk : k < cs.length) (h : ∀ j, j < k → (at_ cs j).ce ≠ c) (h1 : (at_ cs k).ce = c) : fcI cs c = k := by
  unfold fcI
  rw [List.findIdx_eq hk]
  refine ⟨by rw [← at_lt hk]; simpa using h1, fun j hj => ?_⟩
  have := h j hj
  rw [at_lt (by omega)] at this
  simpa using this
theorem fc_no {cs : List Ct} {c : Int} (h : ∀ j, j < cs.length → (at_ cs j).ce ≠ c) : ¬ fcI cs c < cs.length := by
  intro hk
  have := List.findIdx_getElem (w := hk)
  have h2 := h _ hk
  rw [at_lt hk] at h2
  simp at this
  exact h2 this
/-- What CodeAt answers. -/
def caB (m : Mp) (cs : List Ct) (c : Int) : Bool := goodB m cs && decide (fcI cs c < cs.length)
def caZ (m : Mp) (cs : List Ct) (c : Int) : Int := if caB m cs c then (at_ cs (fcI cs c)).co else 0
theorem ca_bad {m : Mp} {cs : List Ct} {c : Int} (h : goodB m cs = false) : caB m cs c = false ∧ caZ m cs c = 0 := by
  have : caB m cs c = false := by unfold caB; rw [h]; rfl
  exact ⟨this, by unfold caZ; rw [this]; rfl⟩
theorem ca_no {m : Mp} {cs : List Ct} {c : Int} (h : ∀ j, j < cs.length → (at_ cs j).ce ≠ c) : caB m cs c = false ∧ caZ m cs c = 0 := by
  have : caB m cs c = false := by unfold caB; rw [decide_eq_false (fc_no h), Bool.and_false]
  exact ⟨this, by unfold caZ; rw [this]; rfl⟩
theorem ca_at {m : Mp} {cs : List Ct} {c : Int} {k : Nat} (hg : goodB m cs = true) (hk : k < cs.length) (h : ∀ j, j < k → (at_ cs j).ce ≠ c) (h1 : (at_ cs k).ce = c) : caB m cs c = true ∧ caZ m cs c = (at_ cs k).co := by
  have : caB m cs c = true := by unfold caB; rw [hg, fc_at hk h h1]; simpa using hk
  exact ⟨this, by unfold caZ; rw [this, fc_at hk h h1]; rfl⟩

end Go.Proofs.Ytdfmfmndmldggaa.CoC
