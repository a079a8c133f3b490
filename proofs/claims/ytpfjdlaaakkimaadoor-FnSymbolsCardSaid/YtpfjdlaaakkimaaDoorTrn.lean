/- Directions turned: the program and the model. -/
import Derived.Test.YtpfjdlaaakkimaaDoorSpF
import Derived.Test.YtpfjdlaaakkimaaDoorFtT
namespace Go.Proofs.YtpfjdlaaakkimaaDoor.Trn
open Go.RowKit Lb Bk Word
set_option linter.unusedSimpArgs false
set_option linter.unusedVariables false

theorem dirs_next (x : ByteArray) (k : Nat) (h : ∀ j, j < k → sAt dirs j ≠ x) (hk : k = 4) : x ∉ dirs := by
  subst hk
  intro hm
  obtain ⟨j, hj, e⟩ := mem_sAt.1 hm
  exact h j hj e

theorem ix0 (W : World) : (Instr.index 111 (.agg #[.string ⟨#[110, 111, 114, 116, 104]⟩, .string ⟨#[101, 97, 115, 116]⟩, .string ⟨#[115, 111, 117, 116, 104]⟩, .string ⟨#[119, 101, 115, 116]⟩]) (.int .i64 0)).run Tryd.prog W = .ok (.string ⟨#[110, 111, 114, 116, 104]⟩) W := by
  have hsz : ∀ h, (Tryd.prog.types[9]'h).size = 1 := fun h => by kernel_rfl
  simp [Instr.index, run_underlying Tryd.underlying111, asIntOf, go_sem]
theorem ix1 (W : World) : (Instr.index 111 (.agg #[.string ⟨#[110, 111, 114, 116, 104]⟩, .string ⟨#[101, 97, 115, 116]⟩, .string ⟨#[115, 111, 117, 116, 104]⟩, .string ⟨#[119, 101, 115, 116]⟩]) (.int .i64 1)).run Tryd.prog W = .ok (.string ⟨#[101, 97, 115, 116]⟩) W := by
  have hsz : ∀ h, (Tryd.prog.types[9]'h).size = 1 := fun h => by kernel_rfl
  simp [Instr.index, run_underlying Tryd.underlying111, asIntOf, go_sem]
theorem ix2 (W : World) : (Instr.index 111 (.agg #[.string ⟨#[110, 111, 114, 116, 104]⟩, .string ⟨#[101, 97, 115, 116]⟩, .string ⟨#[115, 111, 117, 116, 104]⟩, .string ⟨#[119, 101, 115, 116]⟩]) (.int .i64 2)).run Tryd.prog W = .ok (.string ⟨#[115, 111, 117, 116, 104]⟩) W := by
  have hsz : ∀ h, (Tryd.prog.types[9]'h).size = 1 := fun h => by kernel_rfl
  simp [Instr.index, run_underlying Tryd.underlying111, asIntOf, go_sem]
theorem ix3 (W : World) : (Instr.index 111 (.agg #[.string ⟨#[110, 111, 114, 116, 104]⟩, .string ⟨#[101, 97, 115, 116]⟩, .string ⟨#[115, 111, 117, 116, 104]⟩, .string ⟨#[119, 101, 115, 116]⟩]) (.int .i64 3)).run Tryd.prog W = .ok (.string ⟨#[119, 101, 115, 116]⟩) W := by
  have hsz : ∀ h, (Tryd.prog.types[9]'h).size = 1 := fun h => by kernel_rfl
  simp [Instr.index, run_underlying Tryd.underlying111, asIntOf, go_sem]

set_option maxHeartbeats 4000000 in
theorem impl_turn (x : ByteArray) (q : Nat) (hq : q < 4) (w : World) : Calls Tryd.prog 66 #[.string x, .int .i64 q] w fun e w' => e = .returned (.string (turnW x q)) ∧ Below w.heap.size w w' := by
  have HB := Lib.hid ((Below.refl w.heap.size w).alloc (Nat.le_refl _) (.cells #[.string ⟨#[110, 111, 114, 116, 104]⟩, .string ⟨#[101, 97, 115, 116]⟩, .string ⟨#[115, 111, 117, 116, 104]⟩, .string ⟨#[119, 101, 115, 116]⟩] 111))
  have hi0 := ix0
  have hi1 := ix1
  have hi2 := ix2
  have hi3 := ix3
  go_enter Tryd.func66, Tryd.ntmps66
  go_wp2
  go_loop [10, 6, 7] (fun i _ _ => ∃ k : Nat, k ≤ 4 ∧ i = .int .i64 k ∧ ∀ j, j < k → sAt dirs j ≠ x) (fun i _ _ => 4 - (intOf i).toNat)
  case atStart => exact ⟨0, Nat.zero_le _, rfl, fun j h => by omega⟩
  case round =>
    obtain ⟨k, hk, rfl, hno⟩ := hrel
    by_cases e0 : k = 0
    · subst e0
      by_cases he : sAt dirs 0 = x
      · have HT := Lib.hid (fun q => turnW_at (x := x) (k := 0) q (by omega) he hno)
        have hx : x = ⟨#[110, 111, 114, 116, 104]⟩ := he.symm
        subst hx
        clear hno he
        obtain rfl | rfl | rfl | rfl : q = 0 ∨ q = 1 ∨ q = 2 ∨ q = 3 := by omega
        all_goals
          go_wp2
          go_ret
          exact ⟨by rw [HT.out]; rfl, HB.out⟩
      · have hn1 : ¬ [110, 111, 114, 116, 104] = x.toList := fun e => he (toList_inj (by rw [← e, ByteArray.toList_eq]; rfl))
        have hn2 : ([110, 111, 114, 116, 104] == x.toList) = false := by simp only [beq_eq_false_iff_ne, ne_eq]; exact hn1
        clear hn1
        have HN := Lib.hid (all_succ (p := fun j => sAt dirs j ≠ x) hno he)
        clear hno he
        go_wp2
        go_round
        case rel => exact ⟨1, by omega, rfl, HN.out⟩
        case measure => simp [intOf]
    by_cases e1 : k = 1
    · subst e1
      by_cases he : sAt dirs 1 = x
      · have HT := Lib.hid (fun q => turnW_at (x := x) (k := 1) q (by omega) he hno)
        have hx : x = ⟨#[101, 97, 115, 116]⟩ := he.symm
        subst hx
        clear hno he
        obtain rfl | rfl | rfl | rfl : q = 0 ∨ q = 1 ∨ q = 2 ∨ q = 3 := by omega
        all_goals
          go_wp2
          go_ret
          exact ⟨by rw [HT.out]; rfl, HB.out⟩
      · have hn1 : ¬ [101, 97, 115, 116] = x.toList := fun e => he (toList_inj (by rw [← e, ByteArray.toList_eq]; rfl))
        have hn2 : ([101, 97, 115, 116] == x.toList) = false := by simp only [beq_eq_false_iff_ne, ne_eq]; exact hn1
        clear hn1
        have HN := Lib.hid (all_succ (p := fun j => sAt dirs j ≠ x) hno he)
        clear hno he
        go_wp2
        go_round
        case rel => exact ⟨2, by omega, rfl, HN.out⟩
        case measure => simp [intOf]
    by_cases e2 : k = 2
    · subst e2
      by_cases he : sAt dirs 2 = x
      · have HT := Lib.hid (fun q => turnW_at (x := x) (k := 2) q (by omega) he hno)
        have hx : x = ⟨#[115, 111, 117, 116, 104]⟩ := he.symm
        subst hx
        clear hno he
        obtain rfl | rfl | rfl | rfl : q = 0 ∨ q = 1 ∨ q = 2 ∨ q = 3 := by omega
        all_goals
          go_wp2
          go_ret
          exact ⟨by rw [HT.out]; rfl, HB.out⟩
      · have hn1 : ¬ [115, 111, 117, 116, 104] = x.toList := fun e => he (toList_inj (by rw [← e, ByteArray.toList_eq]; rfl))
        have hn2 : ([115, 111, 117, 116, 104] == x.toList) = false := by simp only [beq_eq_false_iff_ne, ne_eq]; exact hn1
        clear hn1
        have HN := Lib.hid (all_succ (p := fun j => sAt dirs j ≠ x) hno he)
        clear hno he
        go_wp2
        go_round
        case rel => exact ⟨3, by omega, rfl, HN.out⟩
        case measure => simp [intOf]
    by_cases e3 : k = 3
    · subst e3
      by_cases he : sAt dirs 3 = x
      · have HT := Lib.hid (fun q => turnW_at (x := x) (k := 3) q (by omega) he hno)
        have hx : x = ⟨#[119, 101, 115, 116]⟩ := he.symm
        subst hx
        clear hno he
        obtain rfl | rfl | rfl | rfl : q = 0 ∨ q = 1 ∨ q = 2 ∨ q = 3 := by omega
        all_goals
          go_wp2
          go_ret
          exact ⟨by rw [HT.out]; rfl, HB.out⟩
      · have hn1 : ¬ [119, 101, 115, 116] = x.toList := fun e => he (toList_inj (by rw [← e, ByteArray.toList_eq]; rfl))
        have hn2 : ([119, 101, 115, 116] == x.toList) = false := by simp only [beq_eq_false_iff_ne, ne_eq]; exact hn1
        clear hn1
        have HN := Lib.hid (all_succ (p := fun j => sAt dirs j ≠ x) hno he)
        clear hno he
        go_wp2
        go_round
        case rel => exact ⟨4, by omega, rfl, HN.out⟩
        case measure => simp [intOf]
    have e5 : k = 4 := by omega
    subst e5
    have HT := Lib.hid (turnW_none q (dirs_next x 4 hno rfl))
    clear hno
    go_wp2
    go_ret
    exact ⟨by rw [HT.out]; rfl, HB.out⟩

set_option maxHeartbeats 4000000 in
theorem spec_turn (x : ByteArray) (q : Nat) (hq : q < 4) (w : World) : Calls Tryd.prog 68 #[.string x, .int .i64 q] w fun e w' => e = .returned (.string (turnW x q)) ∧ Below w.heap.size w w' := by
  have HB := Lib.hid ((Below.refl w.heap.size w).alloc (Nat.le_refl _) (.cells (dirs.map Value.string).toArray 9))
  have HS := Lib.hid (show StrB _ _ dirs from Blk.new w 9 (dirs.map Value.string).toArray)
  by_cases hin : x ∈ dirs
  · obtain ⟨j, hz, hj, he⟩ := idxZ_pos hin
    have HT := Lib.hid (show turnW x q = sAt dirs ((j + q) % 4) from by
      unfold idxZ at hz
      rw [if_pos hin] at hz
      unfold turnW
      rw [if_pos hin, show idxN dirs x = j by omega])
    clear hin he
    have hj4 : j < 4 := hj
    obtain rfl | rfl | rfl | rfl : j = 0 ∨ j = 1 ∨ j = 2 ∨ j = 3 := by omega
    all_goals
      obtain rfl | rfl | rfl | rfl : q = 0 ∨ q = 1 ∨ q = 2 ∨ q = 3 := by omega
      all_goals
        go_enter Tryd.func68, Tryd.ntmps68
        go_wp2_with fail
        refine (at_any _ 4 dirs x _ HS.out (by decide)).mono ?_
        rw [hz]
        rintro e w' ⟨rfl, rfl⟩
        have c0 := Blk.cell HS.out 0 (v := .string ⟨#[110, 111, 114, 116, 104]⟩) rfl
        have c1 := Blk.cell HS.out 1 (v := .string ⟨#[101, 97, 115, 116]⟩) rfl
        have c2 := Blk.cell HS.out 2 (v := .string ⟨#[115, 111, 117, 116, 104]⟩) rfl
        have c3 := Blk.cell HS.out 3 (v := .string ⟨#[119, 101, 115, 116]⟩) rfl
        go_wp2
        go_ret
        exact ⟨by rw [HT.out]; rfl, HB.out⟩
  · have hz := idxZ_none hin
    have HT := Lib.hid (turnW_none q hin)
    clear hin
    go_enter Tryd.func68, Tryd.ntmps68
    go_wp2_with fail
    refine (at_any _ 4 dirs x _ HS.out (by decide)).mono ?_
    rw [hz]
    rintro e w' ⟨rfl, rfl⟩
    go_wp2
    go_ret
    exact ⟨by rw [HT.out]; rfl, HB.out⟩

end Go.Proofs.YtpfjdlaaakkimaaDoor.Trn
