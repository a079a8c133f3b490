/- RunnersAged: both texts. -/
import Derived.Test.YtleoljnofdajfaaGreatDoorRuD
namespace Go.Proofs.YtleoljnofdajfaaGreatDoor.RuE
open Go.RowKit Lb Bk InA Wd RuK RuI RuU RuA RuG RuC RuD
open IntK (Gr)
open IntS (OwnI iInfo)
set_option linter.unusedSimpArgs false
set_option linter.unusedVariables false

def agedB (lo hi : Int) (r : Ru) : Bool := decide (lo ≤ 2026 - r.bo ∧ 2026 - r.bo ≤ hi)
theorem good_bo {rs : List Ru} (h : goodB rs = true) {j : Nat} (hj : j < rs.length) : 1920 ≤ (at_ rs j).bo ∧ (at_ rs j).bo ≤ 2020 := by
  have := ((of_decide_eq_true h : GoodP rs).2 j hj).1
  unfold okR at this
  simp at this
  omega
theorem good_len {rs : List Ru} (h : goodB rs = true) : rs.length ≤ 10 := (of_decide_eq_true h : GoodP rs).1

set_option maxHeartbeats 1000000 in
theorem age_any (r : Ru) (h1 : 1920 ≤ r.bo) (h2 : r.bo ≤ 2020) (w : World) : Calls Tryz.prog 76 #[.agg #[.int .i64 r.id, .string r.nm, .string r.cl, .int .i64 r.bo, .bool r.wo, .int .i64 r.ca]] w fun e w' => e = .returned (.int .i64 (2026 - r.bo)) ∧ Below w.heap.size w w' := by
  obtain ⟨⟨p0, p1, p2, p3, p4, p5⟩, -⟩ := blk_cells (Blk.new w 35 #[.int .i64 r.id, .string r.nm, .string r.cl, .int .i64 r.bo, .bool r.wo, .int .i64 r.ca])
  go_enter Tryz.func76, Tryz.ntmps76
  go_wp2
  go_ret
  exact ⟨rfl, (Below.refl _ _).alloc (Nat.le_refl _) _⟩

set_option maxHeartbeats 1000000 in
theorem ages_any (lo hi : Int) (w : World) : Calls Tryz.prog 28 #[.int .i64 lo, .int .i64 hi] w fun e w' => e = .returned (.bool (decide (0 ≤ lo ∧ lo ≤ hi ∧ hi ≤ 120))) ∧ w' = w := by
  by_cases a1 : 0 ≤ lo
  case neg =>
    have HE := Lib.hid (show decide (0 ≤ lo ∧ lo ≤ hi ∧ hi ≤ 120) = false from decide_eq_false (by omega))
    have d1 : decide (0 ≤ lo) = false := decide_eq_false a1
    rw [HE.out]
    clear a1 HE
    go_enter Tryz.func28, Tryz.ntmps28
    go_wp2
    go_ret
    exact ⟨rfl, rfl⟩
  have d1 : decide (0 ≤ lo) = true := decide_eq_true a1
  by_cases a2 : lo ≤ hi
  case neg =>
    have HE := Lib.hid (show decide (0 ≤ lo ∧ lo ≤ hi ∧ hi ≤ 120) = false from decide_eq_false (by omega))
    have d2 : decide (lo ≤ hi) = false := decide_eq_false a2
    rw [HE.out]
    clear a1 a2 HE
    go_enter Tryz.func28, Tryz.ntmps28
    go_wp2
    go_ret
    exact ⟨rfl, rfl⟩
  have d2 : decide (lo ≤ hi) = true := decide_eq_true a2
  obtain ⟨d, hd⟩ : ∃ d, decide (hi ≤ 120) = d := ⟨_, rfl⟩
  have HE := Lib.hid (show decide (0 ≤ lo ∧ lo ≤ hi ∧ hi ≤ 120) = d from by rw [← hd]; simp [a1, a2])
  rw [HE.out]
  clear a1 a2 HE
  go_enter Tryz.func28, Tryz.ntmps28
  go_wp2
  go_ret
  exact ⟨rfl, rfl⟩

/-- What RunnersAged answers. -/
def rgB (rs : List Ru) (lo hi : Int) : Bool := goodB rs && decide (0 ≤ lo ∧ lo ≤ hi ∧ hi ≤ 120)
def rgL (rs : List Ru) (lo hi : Int) : List Int := if rgB rs lo hi then idsL (agedB lo hi) rs else []
theorem rg_len (rs : List Ru) (lo hi : Int) : (rgL rs lo hi).length ≤ rs.length := by
  unfold rgL
  split
  · exact ids_len _ _
  · exact Nat.zero_le _
/-- The answer: a list of the call's own, and whether. -/
def NPost (w : World) (zs : List Int) (ok : Bool) (e : Ending) (w' : World) : Prop := ∃ v, e = .returned (.tuple #[v, .bool ok]) ∧ IntK.Own w' w.heap.size v zs ∧ Below w.heap.size w w'
theorem own_none (w : World) (b : Nat) (hb : b ≤ w.heap.size) : IntK.Own (w.alloc (.cells #[] 3)) b (.slice (some ⟨w.heap.size, 0, none⟩) 0 0) [] := World.ownsRow_made w #[] 0 hb (Nat.zero_le _) rfl

end Go.Proofs.YtleoljnofdajfaaGreatDoor.RuE
