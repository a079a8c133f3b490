/- The model's decimal texts: contracts. -/
import Derived.Test.YtleoljnofdajfaaGreatDoorLib
import Derived.Test.YtleoljnofdajfaaGreatDoorShelf
import Derived.WalkLawsBesides
import Derived.WalkSpells
namespace Go.Proofs.YtleoljnofdajfaaGreatDoor.Fmt
open Go.RowKit Lb
set_option linter.unusedSimpArgs false
set_option linter.unusedVariables false

def dec (u : Nat) : ByteArray := ⟨(Lib.decDigits u).toArray⟩

theorem digit_piece (i : Nat) (h : i < 10) : (ByteArray.extract ⟨#[48, 49, 50, 51, 52, 53, 54, 55, 56, 57]⟩ i (i + 1)) = dec i := by
  unfold dec
  rw [Lib.decDigits_one h]
  match i, h with
  | 0, _ => decide +kernel
  | 1, _ => decide +kernel
  | 2, _ => decide +kernel
  | 3, _ => decide +kernel
  | 4, _ => decide +kernel
  | 5, _ => decide +kernel
  | 6, _ => decide +kernel
  | 7, _ => decide +kernel
  | 8, _ => decide +kernel
  | 9, _ => decide +kernel

theorem dec_step (u : Nat) (h : ¬ u < 10) : dec (u / 10) ++ dec (u % 10) = dec u := by
  unfold dec
  rw [Lib.decDigits_one (Nat.mod_lt u (by omega)), Lib.decDigits.eq_1 u, dif_neg h]
  apply toList_inj
  rw [ByteArray.toList_eq, ByteArray.toList_eq, ByteArray.toList_data_append]

theorem dec_size (u : Nat) (h : u ≤ 9999999) : (dec u).size ≤ 7 := by
  have hl : (Lib.decDigits u).length = Lib.nDigits u := Lib.decDigits_length u
  have : (dec u).size = (Lib.decDigits u).length := by simp [dec, ByteArray.size]
  rw [this, hl]
  have key : ∀ k v : Nat, v < 10 ^ k → 0 < k → Lib.nDigits v ≤ k := by
    intro k
    induction k with
    | zero => intro v _ h; omega
    | succ k ih =>
      intro v hv _
      by_cases h10 : v < 10
      · rw [Lib.nDigits_small h10]; omega
      · rw [Lib.nDigits, dif_neg h10]
        have hk : 0 < k := by
          rcases Nat.eq_zero_or_pos k with h0 | h0
          · subst h0; omega
          · exact h0
        have := ih (v / 10) (by rw [Nat.pow_succ] at hv; omega) hk
        omega
  exact key 7 u (by omega) (by omega)

set_option maxHeartbeats 1000000 in
theorem num_nat : ∀ (u : Nat), u ≤ 999999 → ∀ (w : World),
    Calls Tryz.prog 58 #[.int .i64 u] w fun e w' => e = .returned (.string (dec u)) ∧ ∃ m, w' = w.drewN m := by
  intro u
  induction u using Nat.strongRecOn with
  | _ u ih =>
    intro hu w
    by_cases h10 : u < 10
    · have hp := digit_piece u h10
      go_enter Tryz.func58, Tryz.ntmps58
      go_wp2_with fail
      go_ret
      exact ⟨by first | rw [← hp]; rfl | (rw [← hp]; simp), 0, rfl⟩
    · have ih' := Lib.hid (ih (u / 10) (by omega) (by omega))
      have hd := Lib.hid (dec_step u h10)
      have hp := Lib.hid (digit_piece (u % 10) (Nat.mod_lt u (by omega)))
      have hs1 := dec_size (u / 10) (by omega)
      have hs2 := dec_size (u % 10) (by omega)
      clear ih
      go_enter Tryz.func58, Tryz.ntmps58
      go_wp2_with fail
      go_quiet ((go_at_call 58; exact Calls.quiet_of (ih'.out _)))
      go_wp2_with fail
      go_ret
      exact ⟨by rw [← hd.out, ← hp.out]; rfl, nq, rfl⟩

/-- The decimal text of a number. -/
def fmtB (n : Int) : ByteArray := ⟨(Lib.itoa n).toArray⟩

theorem fmtB_nat (u : Nat) : fmtB u = dec u := by
  unfold fmtB dec Lib.itoa
  rw [if_neg (by omega)]
  simp

theorem fmtB_neg (u : Nat) (h : 0 < u) : fmtB (-(u : Int)) = ⟨#[45]⟩ ++ dec u := by
  unfold fmtB dec Lib.itoa
  rw [if_pos (by omega)]
  apply toList_inj
  rw [ByteArray.toList_eq, ByteArray.toList_eq, ByteArray.toList_data_append]
  simp

theorem fmtB_size (n : Int) (h0 : -9999999 ≤ n) (h1 : n ≤ 9999999) : (fmtB n).size ≤ 8 := by
  by_cases h : n < 0
  · obtain ⟨u, rfl⟩ : ∃ u : Nat, n = -(u : Int) := ⟨n.natAbs, by omega⟩
    rw [fmtB_neg u (by omega), ByteArray.size_append]
    have := dec_size u (by omega)
    show 1 + _ ≤ 8
    omega
  · obtain ⟨u, rfl⟩ : ∃ u : Nat, n = (u : Int) := ⟨n.toNat, by omega⟩
    rw [fmtB_nat]
    have := dec_size u (by omega)
    omega

set_option maxHeartbeats 1000000 in
theorem num_any (n : Int) (h0 : -999999 ≤ n) (h1 : n ≤ 999999) (w : World) :
    Calls Tryz.prog 58 #[.int .i64 n] w fun e w' => e = .returned (.string (fmtB n)) ∧ Still w w' := by
  by_cases h : n < 0
  · obtain ⟨u, rfl⟩ : ∃ u : Nat, n = -(u : Int) := ⟨n.natAbs, by omega⟩
    have hf := Lib.hid (fmtB_neg u (by omega))
    have hc := Lib.hid (num_nat u (by omega))
    have hs := dec_size u (by omega)
    go_enter Tryz.func58, Tryz.ntmps58
    go_wp2_with fail
    refine (hc.out _).mono ?_
    rintro e w1 ⟨rfl, m, rfl⟩
    go_wp2_with fail
    go_ret
    exact ⟨by rw [hf.out]; rfl, m, rfl⟩
  · obtain ⟨u, rfl⟩ : ∃ u : Nat, n = (u : Int) := ⟨n.toNat, by omega⟩
    rw [fmtB_nat]
    exact num_nat u (by omega) w

/-- The library's table, as every world of a call holds it. -/
def Tab (w : World) : Prop := Lib.TabIs Tryz.prog w "internal/strconv.uint64pow10" .u64 Lib.pow10Tab

end Go.Proofs.YtleoljnofdajfaaGreatDoor.Fmt
