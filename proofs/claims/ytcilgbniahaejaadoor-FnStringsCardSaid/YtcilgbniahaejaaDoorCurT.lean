/- The drawing of texts: contracts that tell sizes alone. -/
import Derived.Test.YtcilgbniahaejaaDoorCurP
namespace Go.Proofs.YtcilgbniahaejaaDoor.Cur
open Go.RowKit Lb
set_option linter.unusedSimpArgs false
set_option linter.unusedVariables false

theorem row_alloc (w : World) (e : TypeId) (ss : List ByteArray) : StrRow (w.alloc (.cells (ss.map Value.string).toArray e)) (some ⟨w.heap.size, 0, none⟩) ss := by
  refine .inr ⟨w.heap.size, 0, rfl, fun k hk => ?_⟩
  rw [Nat.zero_add, World.cell?_alloc_at _ _ _ _ rfl]
  simp [sAt, hk]

theorem sAt_small {ss : List ByteArray} {n : Nat} (h : ∀ s ∈ ss, s.size ≤ n) (k : Nat) : (sAt ss k).size ≤ n := by
  by_cases hk : k < ss.length
  · have : sAt ss k = ss[k] := by simp [sAt, hk]
    rw [this]
    exact h _ (List.getElem_mem hk)
  · have : sAt ss k = ByteArray.empty := by simp [sAt, List.getD, List.getElem?_eq_none (Nat.le_of_not_lt hk)]
    rw [this]
    exact Nat.zero_le _

def texts1 : List ByteArray := [⟨#[]⟩, ⟨#[97]⟩, ⟨#[97, 44, 98]⟩, ⟨#[115, 111, 109, 101, 32, 119, 111, 114, 100, 115]⟩, ⟨#[120, 35, 121]⟩, ⟨#[45, 49, 50]⟩, ⟨#[0, 255]⟩, ⟨#[44, 44]⟩, ⟨#[48]⟩]
theorem texts1_small : ∀ s ∈ texts1, s.size ≤ 16 := by
  intro s hs
  simp only [texts1, List.mem_cons, List.not_mem_nil, or_false] at hs
  rcases hs with rfl | rfl | rfl | rfl | rfl | rfl | rfl | rfl | rfl <;> decide

/-- A short text. -/
def Text (n : Nat) (e : Ending) : Prop := ∃ s : ByteArray, e = .returned (.string s) ∧ s.size ≤ n

set_option maxHeartbeats 400000 in
theorem any1_any (b m : Nat) (w : World) (hm : m ≤ 1152921504606846970) (hok : Ok w b m) :
    Calls Tryd.prog 30 #[.pointer (some ⟨b, 0, none⟩)] w fun e w' => Text 16 e ∧ Ok w' b (m + 2) ∧ w.grownBy w' (some b) := by
  have hl := hok.lt
  have hB : Below w.heap.size w (w.alloc (.cells (texts1.map Value.string).toArray 9)) := (Below.refl _ _).alloc (Nat.le_refl _) _
  have c1 := Lib.hid (of_any b m (some ⟨w.heap.size, 0, none⟩) 9 texts1 _ hm (by decide) (by decide) (row_alloc w 9 texts1) (fun x e => by cases e; exact fun e => absurd e (by show w.heap.size ≠ b; omega)) (hok.below hB))
  have HB := Lib.hid (gbelow hB (some b))
  clear hok hB hl
  go_enter Tryd.func30, Tryd.ntmps30
  go_wp2_with fail
  refine Calls.mono (show Calls Tryd.prog 27 #[.pointer (some ⟨b, 0, none⟩), .slice (some ⟨w.heap.size, 0, none⟩) 9 9] _ _ from c1.out) ?_
  rintro e w1 ⟨⟨r, _, rfl⟩, hok1, hg1⟩
  have HG := Lib.hid (gtrans HB.out hg1)
  have HO := Lib.hid hok1
  clear hok1 hg1
  have hz := sAt_small texts1_small r
  go_wp2_with fail
  go_ret
  exact ⟨⟨_, rfl, hz⟩, HO.out, HG.out⟩

end Go.Proofs.YtcilgbniahaejaaDoor.Cur
