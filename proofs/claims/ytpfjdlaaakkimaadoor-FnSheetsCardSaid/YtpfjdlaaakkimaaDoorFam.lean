/- The program's table of families: contracts. -/
import Derived.Test.YtpfjdlaaakkimaaDoorBk
import Derived.Test.YtpfjdlaaakkimaaDoorShelf
namespace Go.Proofs.YtpfjdlaaakkimaaDoor.Fam
open Go.RowKit Lb Bk
set_option linter.unusedSimpArgs false
set_option linter.unusedVariables false

def rowOf (B i : Nat) : List Value := [.string (famN i), .slice (some ⟨B + 2 * i, 0, none⟩) (famW i).length (famW i).length, .slice (some ⟨B + (2 * i + 1), 0, none⟩) (famS i).length (famS i).length]
/-- The table in memory: from block 'B' on. -/
structure TabAt (w : World) (B : Nat) : Prop where
  W : ∀ i, i < 5 → StrB w (B + 2 * i) (famW i)
  S : ∀ i, i < 5 → StrB w (B + (2 * i + 1)) (famS i)
  T : Blk w (B + 10) 67 (rowOf B 0 ++ rowOf B 1 ++ rowOf B 2 ++ rowOf B 3 ++ rowOf B 4).toArray
theorem TabAt.later {w w' : World} {B : Nat} (h : TabAt w B) (hb : Below w.heap.size w w') : TabAt w' B :=
  ⟨fun i hi => (h.W i hi).later hb, fun i hi => (h.S i hi).later hb, h.T.later hb⟩
theorem TabAt.cells {w : World} {B : Nat} (h : TabAt w B) (i : Nat) (hi : i < 5) :
    w.cell? ⟨B + 10, i * 3, none⟩ = some (.string (famN i)) ∧ w.cell? ⟨B + 10, i * 3 + 1, none⟩ = some (.slice (some ⟨B + 2 * i, 0, none⟩) (famW i).length (famW i).length) ∧ w.cell? ⟨B + 10, i * 3 + 2, none⟩ = some (.slice (some ⟨B + (2 * i + 1), 0, none⟩) (famS i).length (famS i).length) := by
  obtain rfl | rfl | rfl | rfl | rfl : i = 0 ∨ i = 1 ∨ i = 2 ∨ i = 3 ∨ i = 4 := by omega
  all_goals exact ⟨h.T.cell _ rfl, h.T.cell _ rfl, h.T.cell _ rfl⟩

set_option maxHeartbeats 2000000 in
theorem tab_any (w : World) : Calls Tryd.prog 72 #[] w fun e w' => e = .returned (.slice (some ⟨w.heap.size + 10, 0, none⟩) 5 5) ∧ TabAt w' w.heap.size ∧ Below w.heap.size w w' := by
  go_enter Tryd.func72, Tryd.ntmps72
  go_wp2
  go_ret
  refine ⟨rfl, ⟨fun i hi => ?_, fun i hi => ?_, ?_⟩, ?_⟩
  · obtain rfl | rfl | rfl | rfl | rfl : i = 0 ∨ i = 1 ∨ i = 2 ∨ i = 3 ∨ i = 4 := by omega
    · iterate 10 (refine Blk.alloc ?_ _)
      exact Blk.at_ rfl
    · iterate 8 (refine Blk.alloc ?_ _)
      exact Blk.at_ (by simp only [World.size_alloc])
    · iterate 6 (refine Blk.alloc ?_ _)
      exact Blk.at_ (by simp only [World.size_alloc])
    · iterate 4 (refine Blk.alloc ?_ _)
      exact Blk.at_ (by simp only [World.size_alloc])
    · iterate 2 (refine Blk.alloc ?_ _)
      exact Blk.at_ (by simp only [World.size_alloc])
  · obtain rfl | rfl | rfl | rfl | rfl : i = 0 ∨ i = 1 ∨ i = 2 ∨ i = 3 ∨ i = 4 := by omega
    · iterate 9 (refine Blk.alloc ?_ _)
      exact Blk.at_ (by simp only [World.size_alloc])
    · iterate 7 (refine Blk.alloc ?_ _)
      exact Blk.at_ (by simp only [World.size_alloc])
    · iterate 5 (refine Blk.alloc ?_ _)
      exact Blk.at_ (by simp only [World.size_alloc])
    · iterate 3 (refine Blk.alloc ?_ _)
      exact Blk.at_ (by simp only [World.size_alloc])
    · iterate 1 (refine Blk.alloc ?_ _)
      exact Blk.at_ (by simp only [World.size_alloc])
  · exact Blk.at_ (by simp only [World.size_alloc])
  · iterate 11 (refine Below.alloc ?_ (by simp <;> omega) _)
    exact Below.refl _ _

end Go.Proofs.YtpfjdlaaakkimaaDoor.Fam
