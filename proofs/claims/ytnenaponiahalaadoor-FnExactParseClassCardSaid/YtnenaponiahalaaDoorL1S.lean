/- The model's splitting at a byte: a contract. -/
import Derived.Test.YtnenaponiahalaaDoorProg
import Derived.Test.YtnenaponiahalaaDoorSplM
import Derived.Maps.AppendAt
namespace Go.Proofs.YtnenaponiahalaaDoor.L1S
open Go.RowKit Lb
set_option linter.unusedSimpArgs false
set_option linter.unusedVariables false

theorem sInfo : (Tryd.prog.info? 9).map (fun i => (i.zero, i.size, i.bytes)) = some (some (.string ByteArray.empty), 1, 16) := by kernel_rfl

/-- A new list of strings. -/
def NewStrs (w : World) (ps : List ByteArray) (v : Value) (W' : World) : Prop :=
  W'.ownsRow w.heap.size 9 1 v ps.length (ps.map Value.string) ∧ Below w.heap.size w W'

set_option maxHeartbeats 1000000 in
theorem l1Split_any (s : ByteArray) (c : UInt8) (w : World) (hs : s.size ≤ 1048576) :
    Calls Tryd.prog 17 #[.string s, .int .u8 c.toNat] w fun e W' => ∃ v, e = .returned v ∧ NewStrs w (parts s c) v W' := by
  obtain ⟨i0, hi, hz0, hz1, hz2⟩ := info_parts sInfo
  go_enter Tryd.func17, Tryd.ntmps17
  go_wp2
  have hO0 : (w.alloc (.cells #[] 9)).ownsRow w.heap.size 9 1 (.slice (some ⟨w.heap.size, 0, none⟩) 0 0) 0 [] := World.ownsRow_made w #[] 0 (Nat.le_refl _) (Nat.zero_le _) rfl
  go_loopw [5, 6, 7] (fun o f i wr => ∃ k : Nat, k ≤ s.size ∧ i = .int .i64 k ∧ f = .int .i64 ((cut s c k).1 : Nat) ∧ wr.ownsRow w.heap.size 9 1 o (cut s c k).2.length ((cut s c k).2.map .string) ∧ Below w.heap.size w wr) (fun _ _ i _ => s.size - (intOf i).toNat)
  case atStart => exact ⟨0, Nat.zero_le _, rfl, rfl, hO0, (Below.refl _ _).alloc (Nat.le_refl _) _⟩
  case round =>
    obtain ⟨k, hk, rfl, rfl, hown, hbel⟩ := hrel
    have hcl := cut_le s c k
    have hsz := hbel.size
    by_cases hlt : k < s.size
    · by_cases he : s[k] = c
      · have hb := u8_beq_yes he
        have hm := Lib.hid (cut_hit hlt he)
        clear he
        go_wp2_with (at_builtin; refine wpList_append_own _ rfl (.tmp 20) (.tmp 25) 37 rfl w.heap.size 9 i0 (.string ByteArray.empty) 1 16 Tryd.underlying37 hi hz0 hz1 hz2 rfl (by decide) _ _ _ rfl (hown.alloc _) ⟨wr.heap.size, 0, none⟩ 1 1 [.string (s.extract (cut s c k).1 k)] rfl rfl (cell_one_new _ _ _) (by simp [Value.oneCell']) (by unfold maxLen; omega) (by omega) (by simp; omega) ?_; intro v' w1 hown1 hgrow _)
        have hb1 := ((hbel.alloc hsz (.cells #[.string (s.extract (cut s c k).1 k)] 9)).grown hgrow (by simp; omega) (fun k e => (hown.lt k e).1))
        go_roundw
        case rel => exact ⟨k + 1, by omega, by go_num, by rw [hm.out]; go_num, by rw [hm.out]; simpa using hown1, hb1⟩
        case measure => simp [intOf]; omega
      · have hb := u8_beq_no he
        have hm := Lib.hid (cut_miss hlt he)
        clear he
        go_wp2
        go_roundw
        case rel => exact ⟨k + 1, by omega, by go_num, by rw [hm.out], by rw [hm.out]; exact hown, hbel⟩
        case measure => simp [intOf]; omega
    · obtain rfl : k = s.size := by omega
      go_wp2_with (at_builtin; refine wpList_append_own _ rfl (.tmp 29) (.tmp 33) 37 rfl w.heap.size 9 i0 (.string ByteArray.empty) 1 16 Tryd.underlying37 hi hz0 hz1 hz2 rfl (by decide) _ _ _ rfl (hown.alloc _) ⟨wr.heap.size, 0, none⟩ 1 1 [.string (s.extract (cut s c s.size).1 s.size)] rfl rfl (cell_one_new _ _ _) (by simp [Value.oneCell']) (by unfold maxLen; omega) (by omega) (by simp; omega) ?_; intro v' w1 hown1 hgrow _)
      go_ret
      exact ⟨v', rfl, by simpa [parts] using hown1, ((hbel.alloc hsz _).grown hgrow (by simp; omega) (fun k e => (hown.lt k e).1))⟩

end Go.Proofs.YtnenaponiahalaaDoor.L1S
