/- A drawn map, an open cell and a time: the contract. -/
import Derived.Test.YtfpfnnindlfgfaaOpnD
import Derived.Test.YtfpfnnindlfgfaaDSt
import Derived.Deep.RegionHeld3
import Derived.Deep.MidRow
namespace Go.Proofs.Ytfpfnnindlfgfaa.DrwM
open Go.RowKit Lb Cur IntS MapS MapV SpecB CurM CodM
set_option linter.unusedSimpArgs false
set_option linter.unusedVariables false

set_option maxHeartbeats 400000 in
theorem amongz_any (b m : Nat) (a : Option Addr) (cap : Nat) (zs : List Int) (w : World) (hm : m ≤ 1152921504606846970) (hpos : 0 < zs.length) (hl : zs.length ≤ 65536) (hr : IRow w a zs) (hne : ∀ x, a = some x → x.block ≠ b) (hok : Ok w b m) :
    Calls Try.prog 100 #[.pointer (some ⟨b, 0, none⟩), .slice a zs.length cap] w fun e w' => (∃ z : Int, e = .returned (.int .i64 z) ∧ z ∈ zs) ∧ Ok w' b (m + 2) ∧ w.grownBy w' (some b) := by
  have c1 := Lib.hid (pick_any b m zs.length w hm (by omega) (by omega) hok)
  rcases hr with hr | ⟨g, off, rfl, hc⟩
  · omega
  have HC := Lib.hid hc
  have HN := Lib.hid (hne _ rfl)
  clear hok hne hc
  go_enter Try.func100, Try.ntmps100
  go_wp2_with fail
  refine c1.out.mono ?_
  rintro e w1 ⟨⟨r, rfl, _, hr⟩, hok1, hg1⟩
  have hlt : r < zs.length := by omega
  have HL := Lib.hid hlt
  have g1 : w1.cell? ⟨g, off + r, none⟩ = some (.int .i64 (zAt zs r)) := hg1.cell (HC.out r hlt) (fun e => HN.out (by simpa using e))
  have HG := Lib.hid hg1
  have HO := Lib.hid hok1
  clear hok1 hg1 hr
  go_wp2_with fail
  go_ret
  exact ⟨⟨_, rfl, by simp [zAt, HL.out]⟩, HO.out, HG.out⟩
/-- A map, a number, a small number that were drawn. -/
def WPost (w : World) (e : Ending) (w' : World) : Prop := ∃ (v : Value) (y z : Int), e = .returned (.tuple #[v, .int .i64 y, .int .i64 z]) ∧ (∃ m : Mp, OwnM w' w.heap.size v m ∧ m.R.length ≤ 21 ∧ m.C.length ≤ 21) ∧ Below w.heap.size w w' ∧ -1 ≤ z ∧ z ≤ 20
theorem row_lit (L : List Int) (w : World) (h : L.length ≤ 65536) : IRow (w.alloc (.cells (L.map (Value.int .i64)).toArray 3)) (some ⟨w.heap.size, 0, none⟩) L :=
  OwnI.row (base := w.heap.size) (cap := L.length) ⟨by simp, .inr ⟨w.heap.size, L.length, _, rfl, Nat.le_refl _, heap_alloc_new w _, Nat.le_refl _, by unfold maxLen; omega, by simp, by rw [Nat.mul_one]; exact List.take_of_length_le (by simp)⟩⟩

end Go.Proofs.Ytfpfnnindlfgfaa.DrwM
