/- Words: looks into lists of strings: contracts. -/
import Derived.Test.YtpfjdlaaakkimaaDoorFam
namespace Go.Proofs.YtpfjdlaaakkimaaDoor.Word
open Go.RowKit Lb Bk Fam
set_option linter.unusedSimpArgs false
set_option linter.unusedVariables false

theorem in_any (x a b : Int) (w : World) : Calls Tryd.prog 67 #[.int .i64 x, .int .i64 a, .int .i64 b] w fun e w' => e = .returned (.bool (decide (a ≤ x ∧ x ≤ b))) ∧ w' = w := by
  by_cases h1 : a ≤ x
  · by_cases h2 : x ≤ b
    · have H := Lib.hid (decide_eq_true (And.intro h1 h2))
      go_enter Tryd.func67, Tryd.ntmps67
      go_wp2
      go_ret
      exact ⟨ret_bool H.out.symm, rfl⟩
    · have H := Lib.hid (show decide (a ≤ x ∧ x ≤ b) = false from decide_eq_false (fun h => h2 h.2))
      have h2' : decide (x ≤ b) = false := decide_eq_false h2
      clear h2
      go_enter Tryd.func67, Tryd.ntmps67
      go_wp2
      go_ret
      exact ⟨ret_bool H.out.symm, rfl⟩
  · have H := Lib.hid (show decide (a ≤ x ∧ x ≤ b) = false from decide_eq_false (fun h => h1 h.1))
    have h1' : decide (a ≤ x) = false := decide_eq_false h1
    clear h1
    go_enter Tryd.func67, Tryd.ntmps67
    go_wp2
    go_ret
    exact ⟨ret_bool H.out.symm, rfl⟩

theorem code_any (x : Int) (w : World) : Calls Tryd.prog 48 #[.int .i64 x] w fun e w' => e = .returned (.bool (decide (31 ≤ x ∧ x ≤ 99))) ∧ w' = w := by
  by_cases h1 : 31 ≤ x
  · by_cases h2 : x ≤ 99
    · have H := Lib.hid (decide_eq_true (And.intro h1 h2))
      go_enter Tryd.func48, Tryd.ntmps48
      go_wp2
      go_ret
      exact ⟨ret_bool H.out.symm, rfl⟩
    · have H := Lib.hid (show decide (31 ≤ x ∧ x ≤ 99) = false from decide_eq_false (fun h => h2 h.2))
      have h2' : decide (x ≤ 99) = false := decide_eq_false h2
      clear h2
      go_enter Tryd.func48, Tryd.ntmps48
      go_wp2
      go_ret
      exact ⟨ret_bool H.out.symm, rfl⟩
  · have H := Lib.hid (show decide (31 ≤ x ∧ x ≤ 99) = false from decide_eq_false (fun h => h1 h.1))
    have h1' : decide (31 ≤ x) = false := decide_eq_false h1
    clear h1
    go_enter Tryd.func48, Tryd.ntmps48
    go_wp2
    go_ret
    exact ⟨ret_bool H.out.symm, rfl⟩

theorem cont_any (g : Nat) (cap : Nat) (ss : List ByteArray) (x : ByteArray) (w : World) (h : StrB w g ss) (hl : ss.length ≤ maxLen) :
    Calls Tryd.prog 51 #[.slice (some ⟨g, 0, none⟩) ss.length cap, .string x] w fun e w' => e = .returned (.bool (decide (x ∈ ss))) ∧ w' = w := by
  unfold maxLen at hl
  have := Tryd.slices_Contains_string g 0 ss.length cap ss x w (Nat.le_refl _) (by omega) (fun j hj => by rw [Nat.zero_add]; exact Blk.cell h j (by simp [hj]))
  rw [List.take_length] at this
  rwa [show Lib.containsS ss x = decide (x ∈ ss) from by
    rw [Bool.eq_iff_iff, Lib.containsS_iff, decide_eq_true_iff]] at this

set_option maxHeartbeats 1000000 in
theorem at_row (a : Option Addr) (cap : Nat) (ss : List ByteArray) (x : ByteArray) (w : World) (h : StrRow w a ss) (hl : ss.length ≤ 1048576) :
    Calls Tryd.prog 61 #[.slice a ss.length cap, .string x] w fun e w' => e = .returned (.int .i64 (idxZ ss x)) ∧ w' = w := by
  have H := Lib.hid h
  clear h
  go_enter Tryd.func61, Tryd.ntmps61
  go_wp2
  go_loop [5] (fun i => ∃ k : Nat, k ≤ ss.length ∧ i = .int .i64 k ∧ ∀ j, j < k → sAt ss j ≠ x) (fun i => ss.length - (intOf i).toNat)
  case atStart => exact ⟨0, Nat.zero_le _, rfl, fun j h => by omega⟩
  case round =>
    obtain ⟨k, hk, rfl, hno⟩ := hrel
    by_cases hlt : k < ss.length
    · rcases H.out with h0 | ⟨b, off, rfl, hc⟩
      · omega
      have c : w.cell? ⟨b, off + k, none⟩ = some (.string (sAt ss k)) := hc k hlt
      clear hc
      by_cases he : sAt ss k = x
      · have HH := Lib.hid (idxZ_first hlt he hno)
        rw [he] at c
        clear hno he
        go_wp2
        go_ret
        exact ⟨ret_int HH.out.symm, rfl⟩
      · have hb := str_beq he
        have HN := Lib.hid (all_succ (p := fun j => sAt ss j ≠ x) hno he)
        clear hno he
        go_wp2
        go_round
        case rel => exact ⟨k + 1, by omega, by go_num, HN.out⟩
        case measure => simp [intOf]; omega
    · have HH := Lib.hid (idxZ_none (ss := ss) (x := x) (fun h => by
        obtain ⟨j, hj, e⟩ := mem_sAt.1 h
        exact hno j (by omega) e))
      clear hno
      go_wp2
      go_ret
      exact ⟨ret_int HH.out.symm, rfl⟩
theorem at_any (g cap : Nat) (ss : List ByteArray) (x : ByteArray) (w : World) (h : StrB w g ss) (hl : ss.length ≤ 10) :
    Calls Tryd.prog 61 #[.slice (some ⟨g, 0, none⟩) ss.length cap, .string x] w fun e w' => e = .returned (.int .i64 (idxZ ss x)) ∧ w' = w := at_row _ cap ss x w h.row (by omega)

set_option maxHeartbeats 1000000 in
theorem which_any (x : ByteArray) (w : World) : Calls Tryd.prog 49 #[.string x] w fun e w' => e = .returned (.bool (decide (x ∈ whichs))) ∧ Below w.heap.size w w' := by
  have H := Lib.hid (show StrB _ _ whichs from Blk.new w 9 (whichs.map Value.string).toArray)
  go_enter Tryd.func49, Tryd.ntmps49
  go_wp2_with fail
  refine (cont_any _ 7 whichs x _ H.out (by decide)).mono ?_
  rintro e w' ⟨rfl, rfl⟩
  go_wp2
  go_ret
  exact ⟨rfl, (Below.refl _ _).alloc (Nat.le_refl _) _⟩
set_option maxHeartbeats 1000000 in
theorem look_any (x : ByteArray) (w : World) : Calls Tryd.prog 50 #[.string x] w fun e w' => e = .returned (.bool (decide (x ∈ looks))) ∧ Below w.heap.size w w' := by
  have H := Lib.hid (show StrB _ _ looks from Blk.new w 9 (looks.map Value.string).toArray)
  go_enter Tryd.func50, Tryd.ntmps50
  go_wp2_with fail
  refine (cont_any _ 4 looks x _ H.out (by decide)).mono ?_
  rintro e w' ⟨rfl, rfl⟩
  go_wp2
  go_ret
  exact ⟨rfl, (Below.refl _ _).alloc (Nat.le_refl _) _⟩

theorem whiches_any (w : World) : Calls Tryd.prog 62 #[] w fun e w' => e = .returned (.slice (some ⟨w.heap.size, 0, none⟩) whichs.length whichs.length) ∧ w' = w.alloc (.cells (whichs.map Value.string).toArray 9) := by
  go_enter Tryd.func62, Tryd.ntmps62
  go_wp2
  go_ret
  exact ⟨rfl, rfl⟩
theorem looks_any (w : World) : Calls Tryd.prog 63 #[] w fun e w' => e = .returned (.slice (some ⟨w.heap.size, 0, none⟩) looks.length looks.length) ∧ w' = w.alloc (.cells (looks.map Value.string).toArray 9) := by
  go_enter Tryd.func63, Tryd.ntmps63
  go_wp2
  go_ret
  exact ⟨rfl, rfl⟩

end Go.Proofs.YtpfjdlaaakkimaaDoor.Word
