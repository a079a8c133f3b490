/- The laws' marks in lists of Control: contracts. -/
import Derived.Test.YtfpfnnindlfgfaaCtL
import Derived.Test.YtfpfnnindlfgfaaIntE
namespace Go.Proofs.Ytfpfnnindlfgfaa.CtK
open IntS (grownBy_trans)
open Go.RowKit Lb Bk
set_option linter.unusedSimpArgs false
set_option linter.unusedVariables false

def mkOne (k : Nat) : Ct := ⟨((k : Nat) : Int), ((k + 1 : Nat) : Int)⟩
def mkL (k n : Nat) : List Ct := (List.range n).map fun i => mkOne (k + 2 * i)
theorem mkL_len (k n : Nat) : (mkL k n).length = n := by simp [mkL]
theorem mkL_at {k n i : Nat} (h : i < n) : at_ (mkL k n) i = mkOne (k + 2 * i) := by rw [at_lt (by rw [mkL_len]; exact h)]; simp [mkL]
theorem mk_set (k : Nat) (rs : List Ct) (i : Nat) (h : i < rs.length) : (mkL k i ++ rs.drop i).set i (mkOne (k + 2 * i)) = mkL k (i + 1) ++ rs.drop (i + 1) := by
  rw [List.set_append_right _ _ (by rw [mkL_len]; exact Nat.le_refl _), mkL_len, Nat.sub_self, List.drop_eq_getElem_cons h, List.set_cons_zero]
  unfold mkL
  rw [List.range_succ, List.map_append, List.append_assoc]
  rfl
theorem mk_part_len (k : Nat) (rs : List Ct) (i : Nat) (h : i ≤ rs.length) : (mkL k i ++ rs.drop i).length = rs.length := by rw [List.length_append, mkL_len, List.length_drop]; omega


set_option maxHeartbeats 4000000 in
theorem markS_any (base : Nat) (a : Option Addr) (cap : Nat) (rs : List Ct) (k : Nat) (w : World) (hown : Own w base (.slice a rs.length cap) rs) (h0 : 1 ≤ k) (h1 : k + 2 * rs.length ≤ 8000000) :
    Calls Try.prog 67 #[.slice a rs.length cap, .int .i64 k] w fun e w' => e = .returned (.int .i64 (k + 2 * rs.length : Nat)) ∧ Own w' base (.slice a rs.length cap) (mkL k rs.length) ∧ w.grownBy w' (Value.slice a rs.length cap).ownBlock := by
  have HO0 := Lib.hid hown
  obtain ⟨n, hn⟩ : ∃ n, rs.length = n := ⟨_, rfl⟩
  have HN := Lib.hid hn
  rw [hn] at h1 ⊢
  clear hown hn
  go_enter Try.func67, Try.ntmps67
  go_wp2
  go_loopw [1, 5] (fun kk ii wr => ∃ i : Nat, i ≤ n ∧ ii = .int .i64 i ∧ kk = .int .i64 (k + 2 * i : Nat) ∧ Own wr base (.slice a n cap) (mkL k i ++ rs.drop i) ∧ w.grownBy wr (Value.slice a n cap).ownBlock) (fun _ ii _ => n - (intOf ii).toNat)
  case atStart => exact ⟨0, Nat.zero_le _, rfl, rfl, by have := HO0.out; rw [HN.out] at this; simpa [mkL] using this, World.grownBy.refl _ _⟩
  case round =>
    obtain ⟨i, hi, rfl, rfl, ho, hg⟩ := hrel
    have HO := Lib.hid ho
    have HG := Lib.hid hg
    clear ho hg
    by_cases hlt : i < n
    · obtain ⟨g, rfl⟩ : ∃ g, a = some ⟨g, 0, none⟩ := by
        rcases HO.out.2 with ⟨_, h0⟩ | ⟨g, c, cur, hv, _⟩
        · rw [mk_part_len k rs i (by rw [HN.out]; exact hi), HN.out] at h0; omega
        · exact ⟨g, by simpa using (Value.slice.inj hv).1⟩
      obtain ⟨L, hL⟩ : ∃ L, cells (mkL k i ++ rs.drop i) = L := ⟨_, rfl⟩
      have R0 := Lib.hid (show wr.ownsRow base 58 2 (.slice (some ⟨g, 0, none⟩) n cap) n L from by
        have h := HO.out
        unfold Own at h
        rw [hL, mk_part_len k rs i (by rw [HN.out]; exact hi), HN.out] at h
        exact h)
      have HL := Lib.hid hL
      have G0 := HG
      obtain ⟨K, hK⟩ : ∃ K, k + 2 * i = K := ⟨_, rfl⟩
      have hK1 : 1 ≤ K := by omega
      have hK2 : K + 2 ≤ 8000000 := by omega
      have HK := Lib.hid hK
      rw [hK]
      clear hK hL HO HG
      obtain ⟨u0, c0, q0⟩ := raw_at R0.out (k := i * 2) (by omega)
      obtain ⟨u1, c1, q1⟩ := raw_at R0.out (k := i * 2 + 1) (by omega)
      have R1 := Lib.hid (World.ownsRow.stored R0.out (i * 2) (.int .i64 ((K : Int)))).1
      have G1 := Lib.hid (grownBy_trans G0.out (World.ownsRow.stored R0.out (i * 2) (.int .i64 ((K : Int)))).2)
      have R2 := Lib.hid (World.ownsRow.stored R1.out (i * 2 + 1) (.int .i64 ((K : Int) + 1))).1
      have G2 := Lib.hid (grownBy_trans G1.out (World.ownsRow.stored R1.out (i * 2 + 1) (.int .i64 ((K : Int) + 1))).2)
      go_wp2
      go_roundw
      case rel =>
        refine ⟨i + 1, by omega, by go_num, by have := HK.out; exact congrArg (Value.int IntKind.i64) (by omega), ?_, G2.out⟩
        have h := R2.out
        unfold Own
        rw [mk_part_len k rs (i + 1) (by rw [HN.out]; omega), HN.out, ← mk_set k rs i (by rw [HN.out]; exact hlt), cells_set _ _ _ (by rw [mk_part_len k rs i (by rw [HN.out]; exact hi), HN.out]; exact hlt), HL.out, HK.out]
        exact h
      case measure => simp [intOf]; omega
    · obtain rfl : i = n := by omega
      go_wp2
      go_ret
      refine ⟨rfl, ?_, HG.out⟩
      have h := HO.out
      rw [List.drop_of_length_le (by rw [HN.out]; exact Nat.le_refl _), List.append_nil] at h
      exact h

set_option maxHeartbeats 4000000 in
theorem heldS_any (a : Option Addr) (cap n k : Nat) (w : World) (hr : Row w a (mkL k n)) (h0 : 1 ≤ k) (h1 : k + 2 * n ≤ 8000000) :
    Calls Try.prog 70 #[.slice a n cap, .int .i64 k] w fun e w' => e = .returned (.int .i64 (k + 2 * n : Nat)) ∧ Below w.heap.size w w' := by
  have H := Lib.hid hr
  clear hr
  go_enter Try.func70, Try.ntmps70
  go_wp2
  go_loopw [1, 5] (fun kk ii wr => ∃ i : Nat, i ≤ n ∧ ii = .int .i64 i ∧ kk = .int .i64 (k + 2 * i : Nat) ∧ Below w.heap.size w wr) (fun _ ii _ => n - (intOf ii).toNat)
  case atStart => exact ⟨0, Nat.zero_le _, rfl, rfl, Below.refl _ _⟩
  case round =>
    obtain ⟨i, hi, rfl, rfl, hb⟩ := hrel
    have B0 := Lib.hid hb
    clear hb
    by_cases hlt : i < n
    · obtain ⟨b, off, rfl, c0, c1⟩ := (H.out.later B0.out).cells (i := i) (by rw [mkL_len]; exact hlt)
      rw [mkL_at hlt] at c0 c1
      obtain ⟨K, hK⟩ : ∃ K, k + 2 * i = K := ⟨_, rfl⟩
      have hK1 : 1 ≤ K := by omega
      have hK2 : K + 2 ≤ 8000000 := by omega
      rw [hK] at c0 c1 ⊢
      have HK := Lib.hid hK
      clear hK
      simp only [mkOne] at c0 c1
      go_wp2
      go_roundw
      all_goals first | (exact ⟨i + 1, by omega, by go_num, by have := HK.out; exact congrArg (Value.int IntKind.i64) (by omega), B0.out⟩) | (simp [intOf]; omega)
    · obtain rfl : i = n := by omega
      go_wp2
      go_ret
      exact ⟨rfl, B0.out⟩

end Go.Proofs.Ytfpfnnindlfgfaa.CtK
