/- What the laws' helpers answer at equal lists; the bytes that a law gets. -/
import Derived.Test.YtjngnjokbnklfaaCodB
import Derived.Test.YtjngnjokbnklfaaIntA
import Derived.Test.YtjngnjokbnklfaaStrA
import Derived.Deep.LoopGhost
import Derived.Deep.QuietTactic
namespace Go.Proofs.Ytjngnjokbnklfaa.SamH
open Go.RowKit Lb Bk
set_option linter.unusedSimpArgs false
set_option linter.unusedVariables false

set_option maxHeartbeats 1000000 in
theorem ints_same (a b : Option Addr) (cap cap' n : Nat) (zs : List Int) (w : World) (hn : zs.length = n) (hr : IntRow w a zs) (hr' : IntRow w b zs) (hl : n ≤ 1048576) :
    Calls Try.prog 50 #[.slice a n cap, .slice b n cap'] w fun e w' => e = .returned (.bool true) ∧ Below w.heap.size w w' := by
  go_enter Try.func50, Try.ntmps50
  go_wp2
  go_loopw [5] (fun i wr => ∃ k : Nat, k ≤ n ∧ i = .int .i64 k ∧ Still w wr) (fun i _ => n - (intOf i).toNat)
  case atStart => exact ⟨0, Nat.zero_le _, rfl, Still.refl _⟩
  case round =>
    obtain ⟨k, hk, rfl, hst⟩ := hrel
    obtain ⟨q, rfl⟩ := hst
    by_cases hlt : k < n
    · rcases hr with hr | ⟨b1, off1, rfl, hc1⟩
      · omega
      rcases hr' with hr' | ⟨b2, off2, rfl, hc2⟩
      · omega
      obtain ⟨z, hz⟩ : ∃ z : Int, zs.getD k 0 = z := ⟨_, rfl⟩
      have g1 : w.cell? ⟨b1, off1 + k, none⟩ = some (.int .i64 z) := by rw [← hz]; exact hc1 k (by omega)
      have g2 : w.cell? ⟨b2, off2 + k, none⟩ = some (.int .i64 z) := by rw [← hz]; exact hc2 k (by omega)
      clear hc1 hc2 hz
      go_wp2
      go_quiet (fail)
      go_wp2
      go_roundw
      case rel => exact ⟨k + 1, by omega, by go_num, ⟨_, rfl⟩⟩
      case measure => simp [intOf]; omega
    · go_wp2
      go_ret
      exact ⟨rfl, Still.below ⟨_, rfl⟩ _⟩

set_option maxHeartbeats 1000000 in
theorem texts_same (a b : Option Addr) (cap cap' n : Nat) (ss : List ByteArray) (w : World) (hn : ss.length = n) (hr : StrRow w a ss) (hr' : StrRow w b ss) (hl : n ≤ 1048576) :
    Calls Try.prog 43 #[.slice a n cap, .slice b n cap'] w fun e w' => e = .returned (.bool true) ∧ Below w.heap.size w w' := by
  go_enter Try.func43, Try.ntmps43
  go_wp2
  go_loopw [5] (fun i wr => ∃ k : Nat, k ≤ n ∧ i = .int .i64 k ∧ Still w wr) (fun i _ => n - (intOf i).toNat)
  case atStart => exact ⟨0, Nat.zero_le _, rfl, Still.refl _⟩
  case round =>
    obtain ⟨k, hk, rfl, hst⟩ := hrel
    obtain ⟨q, rfl⟩ := hst
    by_cases hlt : k < n
    · rcases hr with hr | ⟨b1, off1, rfl, hc1⟩
      · omega
      rcases hr' with hr' | ⟨b2, off2, rfl, hc2⟩
      · omega
      obtain ⟨z, hz⟩ : ∃ z, sAt ss k = z := ⟨_, rfl⟩
      have g1 : w.cell? ⟨b1, off1 + k, none⟩ = some (.string z) := by rw [← hz]; exact hc1 k (by omega)
      have g2 : w.cell? ⟨b2, off2 + k, none⟩ = some (.string z) := by rw [← hz]; exact hc2 k (by omega)
      clear hc1 hc2 hz
      go_wp2
      go_quiet (fail)
      go_wp2
      go_roundw
      case rel => exact ⟨k + 1, by omega, by go_num, ⟨_, rfl⟩⟩
      case measure => simp [intOf]; omega
    · go_wp2
      go_ret
      exact ⟨rfl, Still.below ⟨_, rfl⟩ _⟩
theorem int_row {w : World} {base : Nat} {v : Value} {zs : List Int} (h : IntK.Own w base v zs) : ∃ a cap, v = .slice a zs.length cap ∧ IntRow w a zs := by
  have h' : w.ownsRow base 3 1 v zs.length (zs.map (Value.int .i64)) := h
  rcases h'.2 with ⟨rfl, h0⟩ | ⟨g, cap, cur, rfl, hb, _⟩
  · exact ⟨none, 0, by rw [h0], .inl h0⟩
  · refine ⟨some ⟨g, 0, none⟩, cap, rfl, .inr ⟨g, 0, rfl, fun k hk => ?_⟩⟩
    rw [Nat.zero_add, World.ownsRow.cellAt h' k (by omega)]
    simp [hk]
theorem IntRow.later {w w' : World} {a : Option Addr} {zs : List Int} (h : IntRow w a zs) (hb : Below w.heap.size w w') : IntRow w' a zs := RowAt.below h hb
end Go.Proofs.Ytjngnjokbnklfaa.SamH
