/- Confusable codes: both texts. -/
import Derived.Test.YtfpfnnindlfgfaaCoM
namespace Go.Proofs.Ytfpfnnindlfgfaa.CoL
open Go.RowKit Lb Bk CtK CoM
set_option linter.unusedSimpArgs false
set_option linter.unusedVariables false

/-- Whether two different codes are confusable. -/
def lkN (x y : Nat) : Bool := decide ((x % 10 = y / 10 ∧ x / 10 = y % 10) ∨ x = y + 10 ∨ y = x + 10)
def lkB (x y : Int) : Bool := lkN x.toNat y.toNat
theorem lkN_comm (x y : Nat) : lkN x y = lkN y x := by
  unfold lkN
  congr 1
  apply propext
  omega

set_option maxHeartbeats 1000000 in
theorem digits_any (x : Nat) (hx : x ≤ 1000) (w : World) : Calls Try.prog 144 #[.int .i64 x] w fun e w' => e = .returned (.agg #[.int .i64 (x / 10 : Nat), .int .i64 (x % 10 : Nat)]) ∧ Below w.heap.size w w' := by
  obtain ⟨d, hd⟩ : ∃ d, x / 10 = d := ⟨_, rfl⟩
  obtain ⟨r, hr⟩ : ∃ d, x % 10 = d := ⟨_, rfl⟩
  have t1 : (x : Int).tdiv 10 = (d : Int) := by rw [← hd]; exact (Int.ofNat_tdiv _ 10).symm
  have t2 : (x : Int).tmod 10 = (r : Int) := by rw [← hr]; exact (Int.ofNat_tmod _ 10).symm
  have t3 : (x : Int) / 10 = (d : Int) := by omega
  have t4 : (x : Int) % 10 = (r : Int) := by omega
  have t5 : x / 10 ≤ 1000 := by omega
  have t6 : d ≤ 1000 := by omega
  rw [hd, hr]
  clear hd hr
  go_enter Try.func144, Try.ntmps144
  go_wp2
  refine bodyPost_ret (v := .agg #[.int .i64 (d : Nat), .int .i64 (r : Nat)]) (by simp [results, Try.results144, go_sem]) rfl ⟨rfl, (Below.refl _ _).alloc (Nat.le_refl _) _⟩

theorem digits_eq (x : Nat) (hx : x ≤ 1000) : ∃ a b : Nat, (x / 10 = a ∧ x % 10 = b) ∧ (∀ w, Calls Try.prog 144 #[.int .i64 x] w fun e w' => e = .returned (.agg #[.int .i64 a, .int .i64 b]) ∧ Below w.heap.size w w') ∧ a ≤ 1000 :=
  ⟨_, _, ⟨rfl, rfl⟩, fun w => digits_any x hx w, by omega⟩

set_option maxRecDepth 20000 in
set_option maxHeartbeats 2000000 in
theorem conf_any (x y : Nat) (hx : x ≤ 1000) (hy : y ≤ 1000) (w : World) : Calls Try.prog 111 #[.int .i64 x, .int .i64 y] w fun e w' => e = .returned (.bool (lkN x y)) ∧ Below w.heap.size w w' := by
  obtain ⟨a, b, h1, k1, ha⟩ := digits_eq x hx
  obtain ⟨c, d, h2, k2, hc⟩ := digits_eq y hy
  have C1 := Lib.hid k1
  have C2 := Lib.hid k2
  have HF := Lib.hid (And.intro h1 h2)
  clear h1 h2 k1 k2
  go_enter Try.func111, Try.ntmps111
  go_wp2_with fail
  refine (C1.out _).mono ?_
  rintro e w1 ⟨rfl, hb1⟩
  have HB1 := Lib.hid hb1
  clear hb1
  go_wp2_with fail
  refine (C2.out _).mono ?_
  rintro e w2 ⟨rfl, hb1⟩
  have HB2 := Lib.hid (HB1.out.trans (hb1.mono HB1.out.size))
  clear hb1
  have hsz := HB2.out.size
  go_wp2
  all_goals
    go_ret
    refine ⟨ret_bool ?_, ?_⟩
    · obtain ⟨⟨e1, e2⟩, e3, e4⟩ := HF.out
      unfold lkN
      first
        | exact (decide_eq_true (by omega)).symm
        | exact (decide_eq_false (by omega)).symm
    · refine ((((HB2.out.alloc ?_ _).alloc ?_ _).alloc ?_ _).alloc ?_ _).alloc ?_ _
      all_goals first | omega | (simp; done) | (simp; omega)

set_option maxRecDepth 20000 in
set_option maxHeartbeats 2000000 in
theorem like_any (x y : Nat) (hx : x ≤ 1000) (hy : y ≤ 1000) (hne : x ≠ y) (w : World) : Calls Try.prog 108 #[.int .i64 x, .int .i64 y] w fun e w' => e = .returned (.bool (lkN x y)) ∧ w' = w := by
  have hq : ((x : Int) == (y : Int)) = false := by simpa using (by omega : ¬ (x : Int) = y)
  have hq2 : ¬ (x : Int) = y := by omega
  obtain ⟨a, ha⟩ : ∃ d, x / 10 = d := ⟨_, rfl⟩
  obtain ⟨b, hb⟩ : ∃ d, x % 10 = d := ⟨_, rfl⟩
  obtain ⟨c, hc⟩ : ∃ d, y / 10 = d := ⟨_, rfl⟩
  obtain ⟨d, hd⟩ : ∃ d, y % 10 = d := ⟨_, rfl⟩
  have t1 : (x : Int).tdiv 10 = (a : Int) := by rw [← ha]; exact (Int.ofNat_tdiv _ 10).symm
  have t2 : (x : Int).tmod 10 = (b : Int) := by rw [← hb]; exact (Int.ofNat_tmod _ 10).symm
  have t3 : (y : Int).tdiv 10 = (c : Int) := by rw [← hc]; exact (Int.ofNat_tdiv _ 10).symm
  have t4 : (y : Int).tmod 10 = (d : Int) := by rw [← hd]; exact (Int.ofNat_tmod _ 10).symm
  have l1 : a ≤ 1000 := by omega
  have l2 : c ≤ 1000 := by omega
  have HF := Lib.hid (And.intro (And.intro ha hb) (And.intro hc hd))
  have s1 : (x : Int) / 10 = (a : Int) := by omega
  have s2 : (x : Int) % 10 = (b : Int) := by omega
  have s3 : (y : Int) / 10 = (c : Int) := by omega
  have s4 : (y : Int) % 10 = (d : Int) := by omega
  clear ha hb hc hd
  go_enter Try.func108, Try.ntmps108
  go_wp2
  all_goals
    go_ret
    refine ⟨ret_bool ?_, rfl⟩
    obtain ⟨⟨e1, e2⟩, e3, e4⟩ := HF.out
    unfold lkN
    first
      | exact (decide_eq_true (by omega)).symm
      | exact (decide_eq_false (by omega)).symm
      | (show decide _ = decide _; congr 1; apply propext; constructor <;> intro h <;> omega)
      | (rw [Bool.eq_iff_iff]; simp; omega)
end Go.Proofs.Ytfpfnnindlfgfaa.CoL
