/- The laws' marks in lists of Runner: contracts. -/
import Derived.Test.YtnenaponiahalaaRuL
import Derived.Test.YtnenaponiahalaaMark
namespace Go.Proofs.Ytnenaponiahalaa.RuK
open Mrk (markOf markText_any grownBy_trans)
open Go.RowKit Lb Bk
set_option linter.unusedSimpArgs false
set_option linter.unusedVariables false

def mkOne (k : Nat) : Ru := ⟨((k : Nat) : Int), markOf (k + 1), markOf (k + 2), ((k + 3 : Nat) : Int), (((k + 4 : Nat) : Int) % 3 == 0), ((k + 5 : Nat) : Int)⟩
def mkL (k n : Nat) : List Ru := (List.range n).map fun i => mkOne (k + 6 * i)
theorem mkL_len (k n : Nat) : (mkL k n).length = n := by simp [mkL]
theorem mkL_at {k n i : Nat} (h : i < n) : at_ (mkL k n) i = mkOne (k + 6 * i) := by rw [at_lt (by rw [mkL_len]; exact h)]; simp [mkL]
theorem mk_set (k : Nat) (rs : List Ru) (i : Nat) (h : i < rs.length) : (mkL k i ++ rs.drop i).set i (mkOne (k + 6 * i)) = mkL k (i + 1) ++ rs.drop (i + 1) := by
  rw [List.set_append_right _ _ (by rw [mkL_len]; exact Nat.le_refl _), mkL_len, Nat.sub_self, List.drop_eq_getElem_cons h, List.set_cons_zero]
  unfold mkL
  rw [List.range_succ, List.map_append, List.append_assoc]
  rfl
theorem mk_part_len (k : Nat) (rs : List Ru) (i : Nat) (h : i ≤ rs.length) : (mkL k i ++ rs.drop i).length = rs.length := by rw [List.length_append, mkL_len, List.length_drop]; omega


set_option maxHeartbeats 4000000 in
theorem markS_any (base : Nat) (a : Option Addr) (cap : Nat) (rs : List Ru) (k : Nat) (w : World) (hown : Own w base (.slice a rs.length cap) rs) (h0 : 1 ≤ k) (h1 : k + 6 * rs.length ≤ 100000000) :
    Calls Try.prog 73 #[.slice a rs.length cap, .int .i64 k] w fun e w' => e = .returned (.int .i64 (k + 6 * rs.length : Nat)) ∧ Own w' base (.slice a rs.length cap) (mkL k rs.length) ∧ w.grownBy w' (Value.slice a rs.length cap).ownBlock := by
  have HO0 := Lib.hid hown
  obtain ⟨n, hn⟩ : ∃ n, rs.length = n := ⟨_, rfl⟩
  have HN := Lib.hid hn
  rw [hn] at h1 ⊢
  clear hown hn
  go_enter Try.func73, Try.ntmps73
  go_wp2
  go_loopw [1, 5] (fun kk ii wr => ∃ i : Nat, i ≤ n ∧ ii = .int .i64 i ∧ kk = .int .i64 (k + 6 * i : Nat) ∧ Own wr base (.slice a n cap) (mkL k i ++ rs.drop i) ∧ w.grownBy wr (Value.slice a n cap).ownBlock) (fun _ ii _ => n - (intOf ii).toNat)
  case atStart => exact ⟨0, Nat.zero_le _, rfl, rfl, by have := HO0.out; rw [HN.out] at this; simpa [mkL] using this, World.grownBy.refl _ _⟩
  case round =>
    obtain ⟨i, hi, rfl, rfl, ho, hg⟩ := hrel
    have HO := Lib.hid ho
    have HG := Lib.hid hg
    clear ho hg
    by_cases hlt : i < n
    · obtain ⟨g, rfl⟩ : ∃ g, a = some ⟨g, 0, none⟩ := by
        rcases HO.out.2 with ⟨_, h0⟩ | ⟨g, c, cur, hv, _⟩
        · rw [mk_part_len k rs i (by rw [HN.out]; exact hi), HN.out] at h0; omega
        · exact ⟨g, by simpa using (Value.slice.inj hv).1⟩
      obtain ⟨L, hL⟩ : ∃ L, cells (mkL k i ++ rs.drop i) = L := ⟨_, rfl⟩
      have R0 := Lib.hid (show wr.ownsRow base 49 6 (.slice (some ⟨g, 0, none⟩) n cap) n L from by
        have h := HO.out
        unfold Own at h
        rw [hL, mk_part_len k rs i (by rw [HN.out]; exact hi), HN.out] at h
        exact h)
      have HL := Lib.hid hL
      have G0 := HG
      obtain ⟨K, hK⟩ : ∃ K, k + 6 * i = K := ⟨_, rfl⟩
      have hK1 : 1 ≤ K := by omega
      have hK2 : K + 6 ≤ 100000000 := by omega
      have HK := Lib.hid hK
      rw [hK]
      clear hK hL HO HG
      obtain ⟨u0, c0, q0⟩ := raw_at R0.out (k := i * 6) (by omega)
      have R1 := Lib.hid (World.ownsRow.stored R0.out (i * 6) (.int .i64 ((K : Int)))).1
      have G1 := Lib.hid (grownBy_trans G0.out (World.ownsRow.stored R0.out (i * 6) (.int .i64 ((K : Int)))).2)
      go_wp2_with fail
      clear c0 q0
      rw [show (((K : Int) + 1)) = ((K + 1 : Nat) : Int) from by omega]
      refine (markText_any (K + 1) _ (by omega) (by omega)).mono ?_
      rintro e w1 ⟨rfl, hb⟩
      have R2 := Lib.hid (owns_below R1.out hb)
      have G2 := Lib.hid (grownBy_trans G1.out (grownBy_of_below hb _))
      clear hb
      obtain ⟨u1, c1, q1⟩ := raw_at R2.out (k := i * 6 + 1) (by omega)
      have R3 := Lib.hid (World.ownsRow.stored R2.out (i * 6 + 1) (.string (markOf (K + 1)))).1
      have G3 := Lib.hid (grownBy_trans G2.out (World.ownsRow.stored R2.out (i * 6 + 1) (.string (markOf (K + 1)))).2)
      go_wp2_with fail
      clear c1 q1
      rw [show (((K : Int) + 1 + 1)) = ((K + 2 : Nat) : Int) from by omega]
      refine (markText_any (K + 2) _ (by omega) (by omega)).mono ?_
      rintro e w2 ⟨rfl, hb⟩
      have R4 := Lib.hid (owns_below R3.out hb)
      have G4 := Lib.hid (grownBy_trans G3.out (grownBy_of_below hb _))
      clear hb
      obtain ⟨u2, c2, q2⟩ := raw_at R4.out (k := i * 6 + 2) (by omega)
      obtain ⟨u3, c3, q3⟩ := raw_at R4.out (k := i * 6 + 3) (by omega)
      obtain ⟨u4, c4, q4⟩ := raw_at R4.out (k := i * 6 + 4) (by omega)
      obtain ⟨u5, c5, q5⟩ := raw_at R4.out (k := i * 6 + 5) (by omega)
      have R5 := Lib.hid (World.ownsRow.stored R4.out (i * 6 + 2) (.string (markOf (K + 2)))).1
      have G5 := Lib.hid (grownBy_trans G4.out (World.ownsRow.stored R4.out (i * 6 + 2) (.string (markOf (K + 2)))).2)
      have R6 := Lib.hid (World.ownsRow.stored R5.out (i * 6 + 3) (.int .i64 ((K : Int) + 1 + 1 + 1))).1
      have G6 := Lib.hid (grownBy_trans G5.out (World.ownsRow.stored R5.out (i * 6 + 3) (.int .i64 ((K : Int) + 1 + 1 + 1))).2)
      have R7 := Lib.hid (World.ownsRow.stored R6.out (i * 6 + 4) (.bool (((K : Int) + 1 + 1 + 1 + 1) % 3 == 0))).1
      have G7 := Lib.hid (grownBy_trans G6.out (World.ownsRow.stored R6.out (i * 6 + 4) (.bool (((K : Int) + 1 + 1 + 1 + 1) % 3 == 0))).2)
      have R8 := Lib.hid (World.ownsRow.stored R7.out (i * 6 + 5) (.int .i64 ((K : Int) + 1 + 1 + 1 + 1 + 1))).1
      have G8 := Lib.hid (grownBy_trans G7.out (World.ownsRow.stored R7.out (i * 6 + 5) (.int .i64 ((K : Int) + 1 + 1 + 1 + 1 + 1))).2)
      go_wp2
      go_roundw
      case rel =>
        refine ⟨i + 1, by omega, by go_num, by have := HK.out; exact congrArg (Value.int IntKind.i64) (by omega), ?_, G8.out⟩
        have h := R8.out
        unfold Own
        rw [mk_part_len k rs (i + 1) (by rw [HN.out]; omega), HN.out, ← mk_set k rs i (by rw [HN.out]; exact hlt), cells_set _ _ _ (by rw [mk_part_len k rs i (by rw [HN.out]; exact hi), HN.out]; exact hlt), HL.out, HK.out]
        exact h
      case measure => simp [intOf]; omega
    · obtain rfl : i = n := by omega
      go_wp2
      go_ret
      refine ⟨rfl, ?_, HG.out⟩
      have h := HO.out
      rw [List.drop_of_length_le (by rw [HN.out]; exact Nat.le_refl _), List.append_nil] at h
      exact h

end Go.Proofs.Ytnenaponiahalaa.RuK
