/- CellsWithin: the program and the model. -/
import Derived.Test.YtdfmfmndmldggaaFarI
namespace Go.Proofs.Ytdfmfmndmldggaa.WinI
open Go.RowKit Lb IntS MapS MapV High Cells StepT StpF SpecB DjkB OpnI TmsI LtI FarI
open Go.Proofs.Ytdfmfmndmldggaa.BfoB (oL oL_len oL_at own_at own_cell own_put Rw)
set_option linter.unusedSimpArgs false
set_option linter.unusedVariables false

/-- The cells within a time, of the first 'k'. -/
def wl (F : Nat → Int) (t : Int) (k : Nat) : List Nat := (List.range k).filter fun c => decide (0 ≤ F c ∧ F c ≤ t)
theorem wl_zero (F : Nat → Int) (t : Int) : wl F t 0 = [] := rfl
theorem wl_take {F : Nat → Int} {t : Int} {k : Nat} (h : 0 ≤ F k ∧ F k ≤ t) : ints (wl F t (k + 1)) = ints (wl F t k) ++ [(k : Int)] := by
  simp [wl, List.range_succ, h, ints]
theorem wl_skip {F : Nat → Int} {t : Int} {k : Nat} (h : ¬ (0 ≤ F k ∧ F k ≤ t)) : wl F t (k + 1) = wl F t k := by
  unfold wl
  rw [List.range_succ, List.filter_append]
  simp only [List.filter_cons, List.filter_nil, decide_eq_false h]
  simp
theorem wl_len (F : Nat → Int) (t : Int) (k : Nat) : (ints (wl F t k)).length ≤ k := by
  rw [ints_length]
  have := List.length_filter_le (fun c => decide (0 ≤ F c ∧ F c ≤ t)) (List.range k)
  simpa [wl] using this
theorem mem_wl {F : Nat → Int} {t : Int} {k c : Nat} : c ∈ wl F t k ↔ c < k ∧ 0 ≤ F c ∧ F c ≤ t := by
  simp [wl]

/-- What stands in the program's loop. -/
structure Wi (w : World) (box : Array Value) (gt : Nat) (tm : Nat → Int) (v : Value) (zs : List Int) (wr : World) : Prop where
  fa : Fa w box gt tm wr
  own : OwnI wr w.heap.size v zs
theorem Wi.below {w : World} {box : Array Value} {gt : Nat} {tm : Nat → Int} {v : Value} {zs : List Int} {wr w' : World} (h : Wi w box gt tm v zs wr) (hb : Below wr.heap.size wr w') : Wi w box gt tm v zs w' := ⟨h.fa.later hb, h.own.below hb⟩
theorem Wi.alloc {w : World} {box : Array Value} {gt : Nat} {tm : Nat → Int} {v : Value} {zs : List Int} {wr : World} (h : Wi w box gt tm v zs wr) (o : Obj) : Wi w box gt tm v zs (wr.alloc o) := h.below ((Below.refl _ _).alloc (Nat.le_refl _) _)
theorem Wi.grown {w : World} {box : Array Value} {gt : Nat} {tm : Nat → Int} {v v' : Value} {zs zs' : List Int} {wr w' : World} (h : Wi w box gt tm v zs wr) (hg : wr.grownBy w' v.ownBlock) (ho : OwnI w' w.heap.size v' zs') : Wi w box gt tm v' zs' w' :=
  ⟨⟨h.fa.b.grown hg h.fa.b.size (fun k e => (h.own.lt k e).1), blk_grown h.fa.box hg (own_ne h.own h.fa.box (by decide)), blk_grown h.fa.tms hg (own_ne h.own h.fa.tms (by decide))⟩, ho⟩
theorem fa_row {w : World} {box : Array Value} {gt : Nat} {tm : Nat → Int} {wr : World} (h : Fa w box gt tm wr) : Wi w box gt tm (.slice (some ⟨wr.heap.size, 0, none⟩) 0 0) [] (wr.alloc (.cells #[] 3)) :=
  ⟨h.later ((Below.refl _ _).alloc (Nat.le_refl _) _), ownI_nil wr w h.b.size⟩

end Go.Proofs.Ytdfmfmndmldggaa.WinI
