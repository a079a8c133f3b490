/- The laws' own helpers over lists of pairs of numbers: contracts. -/
import Derived.Test.YtdfmfmndmldggaaPrM
import Derived.Test.YtdfmfmndmldggaaBaA
import Derived.RegionTactic
import Derived.Deep.LoopGhost
import Derived.Deep.RegionHeld3
namespace Go.Proofs.Ytdfmfmndmldggaa.PrK
open IntS (grownBy_trans)
open Go.RowKit Lb Bk
set_option linter.unusedSimpArgs false
set_option linter.unusedVariables false

set_option maxHeartbeats 2000000 in
theorem eq_one (x y : Int) (w : World) :
    Calls Try.prog 81 #[.agg #[.int .i64 x, .int .i64 y], .agg #[.int .i64 x, .int .i64 y]] w fun e w' => e = .returned (.bool true) ∧ Below w.heap.size w w' := by
  have K0 := Lib.hid ((Blk.new w 88 #[.int .i64 x, .int .i64 y]).alloc (.cells #[.int .i64 x, .int .i64 y] 88))
  have K1 := Lib.hid (show Blk _ (w.heap.size + 1) 88 #[.int .i64 x, .int .i64 y] from by simpa using Blk.new (w.alloc (.cells #[.int .i64 x, .int .i64 y] 88)) 88 #[.int .i64 x, .int .i64 y])
  have HB := Lib.hid (((Below.refl w.heap.size w).alloc (Nat.le_refl _) (.cells #[.int .i64 x, .int .i64 y] 88)).alloc (by simp) (.cells #[.int .i64 x, .int .i64 y] 88))
  go_enter Try.func81, Try.ntmps81
  go_wp2
  generalize (w.alloc (.cells #[.int .i64 x, .int .i64 y] 88)).alloc (.cells #[.int .i64 x, .int .i64 y] 88) = wz at *
  go_loopw [5] (fun i wr => ∃ k : Nat, k ≤ 2 ∧ i = .int .i64 k ∧ Below w.heap.size w wr ∧ Blk wr w.heap.size 88 #[.int .i64 x, .int .i64 y] ∧ Blk wr (w.heap.size + 1) 88 #[.int .i64 x, .int .i64 y]) (fun i _ => 2 - (intOf i).toNat)
  case atStart => exact ⟨0, Nat.zero_le _, rfl, HB.out, K0.out, K1.out⟩
  case round =>
    clear HB K0 K1
    obtain ⟨k, hk, rfl, hb, k0, k1⟩ := hrel
    have HB := Lib.hid hb
    have K0 := Lib.hid k0
    have K1 := Lib.hid k1
    clear hb k0 k1
    by_cases hlt : k < 2
    · obtain ⟨v, hv0, hv1⟩ : ∃ v, (#[Value.int .i64 x, .int .i64 y] : Array Value)[k]? = some (.int .i64 v) ∧ True := by
        rcases Nat.lt_or_ge k 1 with h | h
        · obtain rfl : k = 0 := by omega
          exact ⟨x, rfl, trivial⟩
        · obtain rfl : k = 1 := by omega
          exact ⟨y, rfl, trivial⟩
      have c0 := K0.out.cell k hv0
      have c1 := K1.out.cell k hv0
      clear hv0 hv1
      go_wp2
      go_quiet (fail)
      go_wp2
      go_roundw
      case rel => exact ⟨k + 1, by omega, by go_num, below_drewN HB.out _, K0.out.drewN _, K1.out.drewN _⟩
      case measure => simp [intOf]; omega
    · obtain rfl : k = 2 := by omega
      go_wp2
      go_ret
      exact ⟨rfl, HB.out⟩

set_option maxHeartbeats 4000000 in
theorem eqS_same (a b : Option Addr) (cap cap' : Nat) (rs : List Pr) (w : World) (hr : Row w a rs) (hr' : Row w b rs) (hl : rs.length ≤ maxLen) :
    Calls Try.prog 49 #[.slice a rs.length cap, .slice b rs.length cap'] w fun e w' => e = .returned (.bool true) ∧ Below w.heap.size w w' := by
  unfold maxLen at hl
  have H := Lib.hid hr
  have H' := Lib.hid hr'
  obtain ⟨n, hn⟩ : ∃ n, rs.length = n := ⟨_, rfl⟩
  have HN := Lib.hid hn
  rw [hn] at hl ⊢
  clear hr hr' hn
  go_enter Try.func49, Try.ntmps49
  go_wp2
  go_loopw [5] (fun i wr => ∃ k : Nat, k ≤ n ∧ i = .int .i64 k ∧ Below w.heap.size w wr) (fun i _ => n - (intOf i).toNat)
  case atStart => exact ⟨0, Nat.zero_le _, rfl, Below.refl _ _⟩
  case round =>
    obtain ⟨k, hk, rfl, hb⟩ := hrel
    have HBr := Lib.hid hb
    by_cases hlt : k < n
    · obtain ⟨b1, off1, rfl, c0, c1⟩ := (H.out.later hb).cells (i := k) (by rw [HN.out]; exact hlt)
      obtain ⟨b2, off2, rfl, d0, d1⟩ := (H'.out.later hb).cells (i := k) (by rw [HN.out]; exact hlt)
      obtain ⟨x, hx⟩ : ∃ x, (at_ rs k).a = x := ⟨_, rfl⟩
      obtain ⟨y, hy⟩ : ∃ y, (at_ rs k).b = y := ⟨_, rfl⟩
      rw [hx] at c0 d0
      rw [hy] at c1 d1
      clear hb hx hy
      go_wp2
      go_region_held3 (fun W : World => (W.cell? ⟨b1, off1 + k * 2, none⟩ = some (.int .i64 x) ∧ W.cell? ⟨b1, off1 + k * 2 + 1, none⟩ = some (.int .i64 y)) ∧ (W.cell? ⟨b2, off2 + k * 2, none⟩ = some (.int .i64 x) ∧ W.cell? ⟨b2, off2 + k * 2 + 1, none⟩ = some (.int .i64 y))) (first | exact ⟨⟨c0, c1⟩, d0, d1⟩ | exact ⟨HC.out, HD.out⟩) (first
        | (go_at_call 81; refine (eq_one x y _).mono ?_; rintro e w2 ⟨rfl, hb2⟩; have HB2 := Lib.hid (show Below w.heap.size w w2 from by first | exact HBr.out.trans (hb2.mono HBr.out.size) | exact HBr.out.drew.trans (hb2.mono HBr.out.size)); have HC := Lib.hid (And.intro ((hb2.cell (World.block_lt_of_cell? _ _ c0)).trans c0) ((hb2.cell (World.block_lt_of_cell? _ _ c1)).trans c1)); have HD := Lib.hid (And.intro ((hb2.cell (World.block_lt_of_cell? _ _ d0)).trans d0) ((hb2.cell (World.block_lt_of_cell? _ _ d1)).trans d1)); clear hb2))
      all_goals go_wp2
      all_goals go_roundw
      all_goals first
        | exact ⟨k + 1, by omega, by go_num, HB2.out⟩
        | (simp [intOf]; omega)
    · obtain rfl : k = n := by omega
      go_wp2
      go_ret
      exact ⟨rfl, HBr.out⟩

def mkOne (k : Nat) : Pr := ⟨((k : Nat) : Int), ((k + 1 : Nat) : Int)⟩
def mkL (k n : Nat) : List Pr := (List.range n).map fun i => mkOne (k + 2 * i)
theorem mkL_len (k n : Nat) : (mkL k n).length = n := by simp [mkL]
theorem mkL_at {k n i : Nat} (h : i < n) : at_ (mkL k n) i = mkOne (k + 2 * i) := by rw [at_lt (by rw [mkL_len]; exact h)]; simp [mkL]
theorem mk_set (k : Nat) (rs : List Pr) (i : Nat) (h : i < rs.length) : (mkL k i ++ rs.drop i).set i (mkOne (k + 2 * i)) = mkL k (i + 1) ++ rs.drop (i + 1) := by
  rw [List.set_append_right _ _ (by rw [mkL_len]; exact Nat.le_refl _), mkL_len, Nat.sub_self, List.drop_eq_getElem_cons h, List.set_cons_zero]
  unfold mkL
  rw [List.range_succ, List.map_append, List.append_assoc]
  rfl
theorem mk_part_len (k : Nat) (rs : List Pr) (i : Nat) (h : i ≤ rs.length) : (mkL k i ++ rs.drop i).length = rs.length := by rw [List.length_append, mkL_len, List.length_drop]; omega


set_option maxHeartbeats 4000000 in
theorem markS_any (base : Nat) (a : Option Addr) (cap : Nat) (rs : List Pr) (k : Nat) (w : World) (hown : Own w base (.slice a rs.length cap) rs) (h0 : 1 ≤ k) (h1 : k + 2 * rs.length ≤ 8000000) :
    Calls Try.prog 50 #[.slice a rs.length cap, .int .i64 k] w fun e w' => e = .returned (.int .i64 (k + 2 * rs.length : Nat)) ∧ Own w' base (.slice a rs.length cap) (mkL k rs.length) ∧ w.grownBy w' (Value.slice a rs.length cap).ownBlock := by
  have HO0 := Lib.hid hown
  obtain ⟨n, hn⟩ : ∃ n, rs.length = n := ⟨_, rfl⟩
  have HN := Lib.hid hn
  rw [hn] at h1 ⊢
  clear hown hn
  go_enter Try.func50, Try.ntmps50
  go_wp2
  go_loopw [1, 5] (fun kk ii wr => ∃ i : Nat, i ≤ n ∧ ii = .int .i64 i ∧ kk = .int .i64 (k + 2 * i : Nat) ∧ Own wr base (.slice a n cap) (mkL k i ++ rs.drop i) ∧ w.grownBy wr (Value.slice a n cap).ownBlock) (fun _ ii _ => n - (intOf ii).toNat)
  case atStart => exact ⟨0, Nat.zero_le _, rfl, rfl, by have := HO0.out; rw [HN.out] at this; simpa [mkL] using this, World.grownBy.refl _ _⟩
  case round =>
    obtain ⟨i, hi, rfl, rfl, ho, hg⟩ := hrel
    have HO := Lib.hid ho
    have HG := Lib.hid hg
    clear ho hg
    by_cases hlt : i < n
    · obtain ⟨g, rfl⟩ : ∃ g, a = some ⟨g, 0, none⟩ := by
        rcases HO.out.2 with ⟨_, h0⟩ | ⟨g, c, cur, hv, _⟩
        · rw [mk_part_len k rs i (by rw [HN.out]; exact hi), HN.out] at h0; omega
        · exact ⟨g, by simpa using (Value.slice.inj hv).1⟩
      obtain ⟨L, hL⟩ : ∃ L, cells (mkL k i ++ rs.drop i) = L := ⟨_, rfl⟩
      have R0 := Lib.hid (show wr.ownsRow base 88 2 (.slice (some ⟨g, 0, none⟩) n cap) n L from by
        have h := HO.out
        unfold Own at h
        rw [hL, mk_part_len k rs i (by rw [HN.out]; exact hi), HN.out] at h
        exact h)
      have HL := Lib.hid hL
      have G0 := HG
      obtain ⟨K, hK⟩ : ∃ K, k + 2 * i = K := ⟨_, rfl⟩
      have hK1 : 1 ≤ K := by omega
      have hK2 : K + 2 ≤ 8000000 := by omega
      have HK := Lib.hid hK
      rw [hK]
      clear hK hL HO HG
      go_wp2_with fail
      go_loopg [1, 6] 2 (fun gk s1 s6 wq => ∃ t : Nat, t ≤ 2 ∧ gk = 2 - t ∧ s6 = .int .i64 t ∧ s1 = .int .i64 (K + t : Nat) ∧ w.grownBy wq (Value.slice (some ⟨g, 0, none⟩) n cap).ownBlock ∧ ∃ M, (M = if t = 0 then L else if t = 1 then L.set (i * 2) (.int .i64 (K : Nat)) else (L.set (i * 2) (.int .i64 (K : Nat))).set (i * 2 + 1) (.int .i64 (K + 1 : Nat))) ∧ wq.ownsRow base 88 2 (.slice (some ⟨g, 0, none⟩) n cap) n M)
      case atStart => exact ⟨0, by omega, rfl, rfl, rfl, G0.out, L, rfl, R0.out⟩
      case round =>
        clear R0 G0
        obtain ⟨t, ht, hgk2, rfl, rfl, hg, M, hM, hR⟩ := hrel
        have G1 := Lib.hid hg
        have HMM := Lib.hid hM
        have R1 := Lib.hid hR
        clear hg hM hR
        by_cases ht2 : t < 2
        · obtain ⟨u0, c0, q0⟩ := raw_at R1.out (k := i * 2 + t) (by omega)
          have R2 := Lib.hid (World.ownsRow.stored R1.out (i * 2 + t) (.int .i64 (K + t : Nat))).1
          have G2 := Lib.hid (grownBy_trans G1.out (World.ownsRow.stored R1.out (i * 2 + t) (.int .i64 (K + t : Nat))).2)
          have ht0 : (0 : Int) ≤ (t : Int) := by omega
          have ht1 : (t : Int) < 2 := by omega
          go_wp2
          go_roundg (2 - (t + 1))
          case measure => omega
          case rel =>
            refine ⟨t + 1, by omega, rfl, by go_num, by go_num, G2.out, _, ?_, R2.out⟩
            rw [HMM.out]
            rcases Nat.lt_or_ge t 1 with h | h
            · obtain rfl : t = 0 := by omega
              rfl
            · obtain rfl : t = 1 := by omega
              rfl
        · obtain rfl : t = 2 := by omega
          have R2 := Lib.hid (show wr.ownsRow base 88 2 (.slice (some ⟨g, 0, none⟩) n cap) n ((L.set (i * 2) (.int .i64 (K : Nat))).set (i * 2 + 1) (.int .i64 (K + 1 : Nat))) from by have h := R1.out; rw [HMM.out] at h; exact h)
          go_wp2
          go_roundw
          case rel =>
            refine ⟨i + 1, by omega, by go_num, by have := HK.out; exact congrArg (Value.int IntKind.i64) (by omega), ?_, G1.out⟩
            have h := R2.out
            unfold Own
            rw [mk_part_len k rs (i + 1) (by rw [HN.out]; omega), HN.out, ← mk_set k rs i (by rw [HN.out]; exact hlt), cells_set _ _ _ (by rw [mk_part_len k rs i (by rw [HN.out]; exact hi), HN.out]; exact hlt), HL.out, HK.out]
            exact h
          case measure => simp [intOf]; omega
    · obtain rfl : i = n := by omega
      go_wp2
      go_ret
      refine ⟨rfl, ?_, HG.out⟩
      have h := HO.out
      rw [List.drop_of_length_le (by rw [HN.out]; exact Nat.le_refl _), List.append_nil] at h
      exact h

set_option maxHeartbeats 4000000 in
theorem heldS_any (a : Option Addr) (cap n k : Nat) (w : World) (hr : Row w a (mkL k n)) (h0 : 1 ≤ k) (h1 : k + 2 * n ≤ 8000000) :
    Calls Try.prog 51 #[.slice a n cap, .int .i64 k] w fun e w' => e = .returned (.int .i64 (k + 2 * n : Nat)) ∧ Below w.heap.size w w' := by
  have H := Lib.hid hr
  clear hr
  go_enter Try.func51, Try.ntmps51
  go_wp2
  go_loopw [1, 5] (fun kk ii wr => ∃ i : Nat, i ≤ n ∧ ii = .int .i64 i ∧ kk = .int .i64 (k + 2 * i : Nat) ∧ Below w.heap.size w wr) (fun _ ii _ => n - (intOf ii).toNat)
  case atStart => exact ⟨0, Nat.zero_le _, rfl, rfl, Below.refl _ _⟩
  case round =>
    obtain ⟨i, hi, rfl, rfl, hb⟩ := hrel
    have B0 := Lib.hid hb
    clear hb
    by_cases hlt : i < n
    · obtain ⟨b, off, rfl, c0, c1⟩ := (H.out.later B0.out).cells (i := i) (by rw [mkL_len]; exact hlt)
      rw [mkL_at hlt] at c0 c1
      obtain ⟨K, hK⟩ : ∃ K, k + 2 * i = K := ⟨_, rfl⟩
      have hK1 : 1 ≤ K := by omega
      have hK2 : K + 2 ≤ 8000000 := by omega
      rw [hK] at c0 c1 ⊢
      have HK := Lib.hid hK
      clear hK
      simp only [mkOne] at c0 c1
      go_wp2_with fail
      go_loopg [1, 6] 2 (fun gk s1 s6 wq => ∃ t : Nat, t ≤ 2 ∧ gk = 2 - t ∧ s6 = .int .i64 t ∧ s1 = .int .i64 (K + t : Nat) ∧ Below w.heap.size w wq)
      case atStart => exact ⟨0, by omega, rfl, rfl, rfl, B0.out⟩
      case round =>
        obtain ⟨t, ht, hgk2, rfl, rfl, hb⟩ := hrel
        have B1 := Lib.hid hb
        clear hb
        by_cases ht2 : t < 2
        · have d : wr.cell? ⟨b, off + i * 2 + t, none⟩ = some (.int .i64 (K + t : Nat)) := by
            obtain ⟨b', off', e, d0, d1⟩ := (H.out.later B1.out).cells (i := i) (by rw [mkL_len]; exact hlt)
            cases e
            rw [mkL_at hlt, HK.out] at d0 d1
            rcases Nat.lt_or_ge t 1 with h | h
            · obtain rfl : t = 0 := by omega
              exact d0
            · obtain rfl : t = 1 := by omega
              exact d1
          have ht0 : (0 : Int) ≤ (t : Int) := by omega
          have ht1 : (t : Int) < 2 := by omega
          go_wp2
          go_roundg (2 - (t + 1))
          case measure => omega
          case rel => exact ⟨t + 1, by omega, rfl, by go_num, by go_num, B1.out⟩
        · obtain rfl : t = 2 := by omega
          go_wp2
          go_roundw
          all_goals first | (exact ⟨i + 1, by omega, by go_num, by have := HK.out; exact congrArg (Value.int IntKind.i64) (by omega), B1.out⟩) | (simp [intOf]; omega)
    · obtain rfl : i = n := by omega
      go_wp2
      go_ret
      exact ⟨rfl, B0.out⟩

end Go.Proofs.Ytdfmfmndmldggaa.PrK
