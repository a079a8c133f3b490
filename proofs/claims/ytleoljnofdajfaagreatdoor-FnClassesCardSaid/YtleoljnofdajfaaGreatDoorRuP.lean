/- The place of an Id: the program's search. -/
import Derived.Test.YtleoljnofdajfaaGreatDoorRuC
import Derived.Deep.LoopGhost
namespace Go.Proofs.YtleoljnofdajfaaGreatDoor.RuP
open Go.RowKit Lb Bk InA Wd RuK RuI RuU RuA RuG RuC
set_option linter.unusedSimpArgs false
set_option linter.unusedVariables false

def cmpZ (x y : Int) : Int := if x < y then -1 else if y < x then 1 else 0

set_option maxHeartbeats 400000 in
theorem nan_any (x : Int) (w : World) : Calls Tryz.prog 87 #[.int .i64 x] w fun e w' => e = .returned (.bool false) ∧ w' = w := by
  go_enter Tryz.func87, Tryz.ntmps87
  go_wp2
  go_ret
  exact ⟨rfl, rfl⟩
set_option maxHeartbeats 1000000 in
theorem cmp_any (x y : Int) (w : World) : Calls Tryz.prog 74 #[.int .i64 x, .int .i64 y] w fun e w' => e = .returned (.int .i64 (cmpZ x y)) ∧ w' = w := by
  by_cases h1 : x < y
  · have HE := Lib.hid (show cmpZ x y = -1 from if_pos h1)
    rw [HE.out]
    have d1 : decide (x < y) = true := decide_eq_true h1
    clear h1 HE
    go_enter Tryz.func74, Tryz.ntmps74
    go_wp2_with fail
    refine (nan_any _ _).mono ?_
    rintro e w1 ⟨rfl, rfl⟩
    go_wp2_with fail
    refine (nan_any _ _).mono ?_
    rintro e w1 ⟨rfl, rfl⟩
    go_wp2
    go_ret
    exact ⟨rfl, rfl⟩
  · have d1 : decide (x < y) = false := decide_eq_false h1
    by_cases h2 : y < x
    · have HE := Lib.hid (show cmpZ x y = 1 from by unfold cmpZ; rw [if_neg h1, if_pos h2])
      rw [HE.out]
      have d2 : decide (y < x) = true := decide_eq_true h2
      clear h1 h2 HE
      go_enter Tryz.func74, Tryz.ntmps74
      go_wp2_with fail
      refine (nan_any _ _).mono ?_
      rintro e w1 ⟨rfl, rfl⟩
      go_wp2_with fail
      refine (nan_any _ _).mono ?_
      rintro e w1 ⟨rfl, rfl⟩
      go_wp2
      go_ret
      exact ⟨rfl, rfl⟩
    · have HE := Lib.hid (show cmpZ x y = 0 from by unfold cmpZ; rw [if_neg h1, if_neg h2])
      rw [HE.out]
      have d2 : decide (y < x) = false := decide_eq_false h2
      clear h1 h2 HE
      go_enter Tryz.func74, Tryz.ntmps74
      go_wp2_with fail
      refine (nan_any _ _).mono ?_
      rintro e w1 ⟨rfl, rfl⟩
      go_wp2_with fail
      refine (nan_any _ _).mono ?_
      rintro e w1 ⟨rfl, rfl⟩
      go_wp2
      go_ret
      exact ⟨rfl, rfl⟩

/-- Ids ascend strictly. -/
def Asc (rs : List Ru) : Prop := ∀ i, i + 1 < rs.length → (at_ rs i).id < (at_ rs (i + 1)).id
theorem good_asc {rs : List Ru} (h : goodB rs = true) : Asc rs := fun i hi => by
  have := ((of_decide_eq_true h : GoodP rs).2 (i + 1) hi).2.1 (Nat.succ_pos _)
  simpa using this
theorem Asc.lt {rs : List Ru} (h : Asc rs) : ∀ {j i : Nat}, i < j → j < rs.length → (at_ rs i).id < (at_ rs j).id
  | 0, i, hij, _ => absurd hij (Nat.not_lt_zero _)
  | j + 1, i, hij, hj => by
    rcases Nat.lt_or_ge i j with h1 | h1
    · exact Int.lt_trans (h.lt h1 (by omega)) (h j hj)
    · obtain rfl : i = j := by omega
      exact h i hj
/-- The place of an Id in an ascending list. -/
def Plc (rs : List Ru) (id : Int) (k : Nat) : Prop := k ≤ rs.length ∧ (∀ j, j < k → (at_ rs j).id < id) ∧ ∀ j, k ≤ j → j < rs.length → id ≤ (at_ rs j).id
theorem Asc.plc {rs : List Ru} (h : Asc rs) (id : Int) : ∃ k, Plc rs id k := by
  refine ⟨rs.findIdx (fun r => decide (id ≤ r.id)), List.findIdx_le_length, fun j hj => ?_, fun j hk hj => ?_⟩
  · have hjl : j < rs.length := Nat.lt_of_lt_of_le hj List.findIdx_le_length
    have := List.not_of_lt_findIdx hj
    rw [at_lt hjl]
    simp at this
    omega
  · have hkl : rs.findIdx (fun r => decide (id ≤ r.id)) < rs.length := by omega
    have h1 := List.findIdx_getElem (w := hkl)
    have h1' : id ≤ (at_ rs (rs.findIdx (fun r => decide (id ≤ r.id)))).id := by rw [at_lt hkl]; simpa using h1
    rcases Nat.lt_or_ge (rs.findIdx (fun r => decide (id ≤ r.id))) j with h2 | h2
    · have := h.lt h2 hj
      omega
    · have : j = rs.findIdx (fun r => decide (id ≤ r.id)) := by omega
      rw [this]; exact h1'
theorem Plc.unique {rs : List Ru} {id : Int} {k j : Nat} (h : Plc rs id k) (hj : j ≤ rs.length) (h1 : ∀ t, t < j → (at_ rs t).id < id) (h2 : ∀ t, j ≤ t → t < rs.length → id ≤ (at_ rs t).id) : j = k := by
  rcases Nat.lt_trichotomy j k with hl | he | hg
  · have a := h.2.1 j hl
    have b := h2 j (Nat.le_refl _) (by have := h.1; omega)
    omega
  · exact he
  · have a := h1 k hg
    have b := h.2.2 k (Nat.le_refl _) (by omega)
    omega
def fndB (rs : List Ru) (id : Int) (k : Nat) : Bool := decide (k < rs.length ∧ (at_ rs k).id = id)

end Go.Proofs.YtleoljnofdajfaaGreatDoor.RuP
