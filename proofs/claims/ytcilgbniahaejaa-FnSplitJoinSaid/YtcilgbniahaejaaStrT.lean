/- The copy of a list of strings that the laws make: a contract. -/
import Derived.Test.YtcilgbniahaejaaStrS
namespace Go.Proofs.Ytcilgbniahaejaa.StrS
open Go.RowKit Lb
set_option linter.unusedSimpArgs false
set_option linter.unusedVariables false

theorem sInfo : (Try.prog.info? 9).map (fun i => (i.zero, i.size, i.bytes)) = some (some (.string ByteArray.empty), 1, 16) := by kernel_rfl

/-- The cells after 'k' of the strings have been copied. -/
def half (ss : List ByteArray) (k : Nat) : List Value := (ss.take k).map .string ++ List.replicate (ss.length - k) (.string ByteArray.empty)

theorem half_zero (ss : List ByteArray) : half ss 0 = List.replicate ss.length (.string ByteArray.empty) := by simp [half]
theorem half_all (ss : List ByteArray) : half ss ss.length = ss.map .string := by simp [half]
theorem half_set (ss : List ByteArray) (k : Nat) (h : k < ss.length) : (half ss k).set k (.string (sAt ss k)) = half ss (k + 1) := by
  unfold half
  rw [take_succ_getD ss ByteArray.empty k h, List.map_append, List.set_append_right _ _ (by simp; omega)]
  have e : ss.length - k = (ss.length - (k + 1)) + 1 := by omega
  rw [e, List.replicate_succ]
  simp [List.length_take, Nat.min_eq_left (Nat.le_of_lt h), sAt]
theorem half_at (ss : List ByteArray) (k : Nat) (h : k < ss.length) : (half ss k)[k]? = some (.string ByteArray.empty) := by
  unfold half
  rw [List.getElem?_append_right (by simp; omega), List.getElem?_replicate, if_pos (by simp; omega)]

set_option maxHeartbeats 400000 in
theorem to_any (a : Option Addr) (cap : Nat) (ss : List ByteArray) (w : World) (hr : StrRow w a ss) (hl : ss.length ≤ 1048576) :
    Calls Try.prog 22 #[.slice a ss.length cap] w fun e w' => e = .returned (.slice (some ⟨w.heap.size, 0, none⟩) ss.length ss.length) ∧
      w'.ownsRow w.heap.size 9 1 (.slice (some ⟨w.heap.size, 0, none⟩) ss.length ss.length) ss.length (ss.map .string) ∧ Below w.heap.size w w' := by
  obtain ⟨i0, hi, hz0, hz1, hz2⟩ := info_parts sInfo
  go_enter Try.func22, Try.ntmps22
  go_wp2_with (at_make; refine wpList_make_full _ rfl _ _ 26 rfl w.heap.size 9 i0 (.string ByteArray.empty) 1 Try.underlying26 hi hz0 hz1 .i64 .i64 _ _ ss.length rfl rfl rfl rfl ?b2 ?b3 (Nat.le_refl _) ?_)
  case b2 => rw [hz2]; omega
  case b3 => unfold maxLen; omega
  intro w0 hown0 hgrow0
  have hcells : (madeCells #[Value.string ByteArray.empty] ss.length).toList = half ss 0 := by
    rw [half_zero]; exact toList_madeCells_one _ _
  rw [hcells] at hown0
  clear hcells
  go_wp2
  go_loopw [4] (fun i wr => ∃ k : Nat, k ≤ ss.length ∧ i = .int .i64 k ∧ wr.ownsRow w.heap.size 9 1 (.slice (some ⟨w.heap.size, 0, none⟩) ss.length ss.length) ss.length (half ss k) ∧ Below w.heap.size w wr) (fun i _ => ss.length - (intOf i).toNat)
  case atStart => exact ⟨0, Nat.zero_le _, rfl, hown0, (Below.refl _ _).grown hgrow0 (Nat.le_refl _) (fun k h => by cases h)⟩
  case round =>
    obtain ⟨k, hk, rfl, hown, hbel⟩ := hrel
    by_cases hkl : k < ss.length
    · have hr' : StrRow wr a ss := RowAt.below hr hbel
      rcases hr' with hr' | ⟨b, off, rfl, hc⟩
      · omega
      have g1 : wr.cell? ⟨b, off + k, none⟩ = some (.string (sAt ss k)) := hc k hkl
      have g2 : wr.cell? ⟨w.heap.size, k, none⟩ = some (.string ByteArray.empty) := (hown.cellAt k (by omega)).trans (half_at ss k hkl)
      have g3 : wr.frozen? ⟨w.heap.size, k, none⟩ = false := hown.frozenAt k
      have hs := Lib.hid (hown.stored k (.string (sAt ss k)))
      rw [half_set ss k hkl] at hs
      have hb2 := hbel.setCell (p := ⟨w.heap.size, k, none⟩) (Nat.le_refl _) (.string (sAt ss k))
      clear hc hown hbel hown0 hgrow0
      go_wp2
      go_roundw
      case rel => exact ⟨k + 1, by omega, by go_num, hs.out.1, hb2⟩
      case measure => simp [intOf]; omega
    · obtain rfl : k = ss.length := by omega
      rw [half_all] at hown
      go_wp2
      go_ret
      exact ⟨rfl, hown, hbel⟩

end Go.Proofs.Ytcilgbniahaejaa.StrS
