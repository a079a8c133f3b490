/- The laws' own helpers over lists of Runner: contracts. -/
import Derived.Test.YtnenaponiahalaaRuS
import Derived.RegionTactic
import Derived.Deep.RegionHeld3
namespace Go.Proofs.Ytnenaponiahalaa.RuK
open Go.RowKit Lb Bk
set_option linter.unusedSimpArgs false
set_option linter.unusedVariables false

theorem part_set (rs : List Ru) (k : Nat) (h : k < rs.length) : (rs.take k ++ List.replicate (rs.length - k) no).set k (at_ rs k) = rs.take (k + 1) ++ List.replicate (rs.length - (k + 1)) no := by
  rw [List.set_append_right _ _ (by rw [List.length_take]; omega), List.length_take, show k - min k rs.length = 0 by omega, show rs.length - k = (rs.length - (k + 1)) + 1 by omega, List.replicate_succ, List.set_cons_zero, List.take_succ_eq_append_getElem h, at_lt h, List.append_assoc]
  rfl

set_option maxHeartbeats 2000000 in
theorem toG_any (a : Option Addr) (cap : Nat) (rs : List Ru) (w : World) (hr : Row w a rs) (hl : rs.length ≤ 1048576) :
    Calls Try.prog 71 #[.slice a rs.length cap] w fun e w' => ∃ g, e = .returned (.slice (some ⟨g, 0, none⟩) rs.length rs.length) ∧ Own w' w.heap.size (.slice (some ⟨g, 0, none⟩) rs.length rs.length) rs ∧ Below w.heap.size w w' := by
  obtain ⟨t0, hi, hz0, hz1, hz2⟩ := info_parts info
  obtain ⟨n, hn⟩ : ∃ n, rs.length = n := ⟨_, rfl⟩
  have hmk : (Instr.makeSlice 41 (.int .i64 (n : Int)) (.int .i64 (n : Int))).run Try.prog w = .ok (.slice (some ⟨w.heap.size, 0, none⟩) n n) (w.alloc (.cells (madeCells #[.int .i64 no.id, .string no.nm, .string no.cl, .int .i64 no.bo, .bool no.wo, .int .i64 no.ca] (n * 6)) 49)) := by
    have h := run_make (P := Try.prog) w 41 49 t0 (.agg #[.int .i64 no.id, .string no.nm, .string no.cl, .int .i64 no.bo, .bool no.wo, .int .i64 no.ca]) Try.underlying41 hi hz0 .i64 .i64 n n (by omega) (Int.le_refl _) (by rw [hz2]; omega) (by omega)
    simp only [Int.toNat_natCast, hz1] at h
    exact h
  have H := Lib.hid hr
  have HM := Lib.hid (made w n (by unfold maxLen; omega))
  have HB := Lib.hid ((Below.refl w.heap.size w).alloc (Nat.le_refl _) (.cells (madeCells #[.int .i64 no.id, .string no.nm, .string no.cl, .int .i64 no.bo, .bool no.wo, .int .i64 no.ca] (n * 6)) 49))
  have HN := Lib.hid hn
  rw [hn] at hl ⊢
  clear hr hi hz0 hz1 hz2 hn
  go_enter Try.func71, Try.ntmps71
  go_wp2
  go_loopw [4] (fun i wr => ∃ k : Nat, k ≤ n ∧ i = .int .i64 k ∧ Own wr w.heap.size (.slice (some ⟨w.heap.size, 0, none⟩) n n) (rs.take k ++ List.replicate (rs.length - k) no) ∧ Below w.heap.size w wr) (fun i _ => n - (intOf i).toNat)
  case atStart => exact ⟨0, Nat.zero_le _, rfl, by rw [HN.out]; simpa using HM.out, HB.out⟩
  case round =>
    obtain ⟨k, hk, rfl, ho, hb⟩ := hrel
    by_cases hlt : k < n
    · obtain ⟨b, off, rfl, c0, c1, c2, c3, c4, c5⟩ := (H.out.later hb).cells (i := k) (by rw [HN.out]; exact hlt)
      have HO := Lib.hid ho
      have HBr := Lib.hid hb
      clear ho hb
      go_wp2_with fail
      refine (to_any (at_ rs k) _).mono ?_
      rintro e w2 ⟨rfl, hb2⟩
      have HO2 := Lib.hid (HO.out.below hb2)
      have HB2 := Lib.hid (HBr.out.trans (hb2.mono HBr.out.size))
      have hlen : (rs.take k ++ List.replicate (rs.length - k) no).length = n := by have := HN.out; simp; omega
      have HP := Lib.hid (HO2.out.put hlen (k := k) (by rw [hlen]; exact hlt) (at_ rs k))
      have HR2 := Lib.hid (show w2.ownsRow w.heap.size 49 6 (.slice (some ⟨w.heap.size, 0, none⟩) n n) n (cells (rs.take k ++ List.replicate (rs.length - k) no)) from by have h := HO2.out; unfold Own at h; rw [hlen] at h; exact h)
      clear hb2 c0 c1 c2 c3 c4 c5 hlen

      obtain ⟨u0, d0, f0⟩ := raw_at HR2.out (k := k * 6) (by omega)
      obtain ⟨u1, d1, f1⟩ := raw_at HR2.out (k := k * 6 + 1) (by omega)
      obtain ⟨u2, d2, f2⟩ := raw_at HR2.out (k := k * 6 + 2) (by omega)
      obtain ⟨u3, d3, f3⟩ := raw_at HR2.out (k := k * 6 + 3) (by omega)
      obtain ⟨u4, d4, f4⟩ := raw_at HR2.out (k := k * 6 + 4) (by omega)
      obtain ⟨u5, d5, f5⟩ := raw_at HR2.out (k := k * 6 + 5) (by omega)
      go_wp2
      go_roundw
      case rel =>
        refine ⟨k + 1, by omega, by go_num, ?_, ?_⟩
        · have h := HP.out
          rw [part_set rs k (by rw [HN.out]; exact hlt)] at h
          exact h
        · iterate 6 (refine Below.setCell ?_ (by simp) _)
          exact HB2.out
      case measure => simp [intOf]; omega
    · obtain rfl : k = n := by omega
      go_wp2
      go_ret
      refine ⟨_, rfl, ?_, hb⟩
      rw [HN.out, Nat.sub_self, List.take_of_length_le (by rw [HN.out]; exact Nat.le_refl _)] at ho
      simpa using ho

theorem toS_any (a : Option Addr) (cap : Nat) (rs : List Ru) (w : World) (hr : Row w a rs) (hl : rs.length ≤ 1048576) :
    Calls Try.prog 71 #[.slice a rs.length cap] w fun e w' => ∃ v, e = .returned v ∧ Own w' w.heap.size v rs ∧ Below w.heap.size w w' :=
  (toG_any a cap rs w hr hl).mono fun e w' ⟨g, h1, h2, h3⟩ => ⟨_, h1, h2, h3⟩

/-- The lengths of the first 'k' elements' texts. -/
def tot (rs : List Ru) : Nat → Int
  | 0 => 0
  | k + 1 => tot rs k + sz (at_ rs k)
theorem tot_nn (rs : List Ru) : ∀ k, 0 ≤ tot rs k
  | 0 => Int.le_refl _
  | k + 1 => by have := tot_nn rs k; have := sz_nn (at_ rs k); rw [tot]; omega
/-- What is left, if it is not negative, says that the list is short, and all texts together. -/
def SzPost (rs : List Ru) (left : Int) (e : Ending) : Prop := ∃ r : Int, e = .returned (.int .i64 r) ∧ (r = -1 ∨ (0 ≤ r ∧ r = left - rs.length - tot rs rs.length))


set_option maxHeartbeats 2000000 in
theorem szS_any (a : Option Addr) (cap : Nat) (rs : List Ru) (left : Int) (w : World) (hr : Row w a rs) (hf : ∀ i, i < rs.length → Is (at_ rs i)) (hl : rs.length ≤ maxLen) (h0 : 0 ≤ left) (h1 : left ≤ 1048576) :
    Calls Try.prog 70 #[.slice a rs.length cap, .int .i64 left] w fun e w' => SzPost rs left e ∧ Below w.heap.size w w' := by
  unfold maxLen at hl
  unfold SzPost
  have H := Lib.hid hr
  have HF := Lib.hid hf
  obtain ⟨n, hn⟩ : ∃ n, rs.length = n := ⟨_, rfl⟩
  have HN := Lib.hid hn
  rw [hn] at hl ⊢
  clear hr hf hn
  by_cases hlt0 : left - n < 0
  · go_enter Try.func70, Try.ntmps70
    go_wp2
    go_ret
    exact ⟨⟨-1, rfl, .inl rfl⟩, Below.refl _ _⟩
  · go_enter Try.func70, Try.ntmps70
    go_wp2
    go_loopw [1, 5] (fun l i wr => ∃ k : Nat, k ≤ n ∧ i = .int .i64 k ∧ 0 ≤ left - n - tot rs k ∧ l = .int .i64 (left - n - tot rs k) ∧ Below w.heap.size w wr) (fun _ i _ => n - (intOf i).toNat)
    case atStart => exact ⟨0, Nat.zero_le _, rfl, by simp [tot]; omega, by simp [tot], Below.refl _ _⟩
    case round =>
      obtain ⟨k, hk, rfl, hp, rfl, hb⟩ := hrel
      have hnn := tot_nn rs k
      have HBr := Lib.hid hb
      by_cases hlt : k < n
      · obtain ⟨b, off, rfl, c0, c1, c2, c3, c4, c5⟩ := (H.out.later hb).cells (i := k) (by rw [HN.out]; exact hlt)
        have HT := Lib.hid (show tot rs (k + 1) = tot rs k + sz (at_ rs k) from rfl)
        have hs0 := sz_nn (at_ rs k)
        clear hb
        obtain ⟨t, ht⟩ : ∃ t, tot rs k = t := ⟨_, rfl⟩
        rw [ht] at hp hnn HT ⊢
        clear ht
        by_cases hfit : sz (at_ rs k) ≤ left - n - t
        · have hd : decide (left - (n : Int) - t - sz (at_ rs k) < 0) = false := decide_eq_false (by omega)
          have HZ := Lib.hid hfit
          clear hfit
          go_wp2_with fail
          refine (sz_yes (at_ rs k) _ _ (by omega) HZ.out).mono ?_
          rintro e w2 ⟨rfl, hb2⟩
          have HB2 := Lib.hid (HBr.out.trans (hb2.mono HBr.out.size))
          clear hb2 c0 c1 c2 c3 c4 c5
          go_wp2
          go_roundw
          case rel => exact ⟨k + 1, by omega, by go_num, by rw [HT.out]; have := HZ.out; omega, by rw [HT.out]; exact congrArg (Value.int IntKind.i64) (by omega), HB2.out⟩
          case measure => simp [intOf]; omega
        · go_wp2_with fail
          refine (sz_no (at_ rs k) (HF.out k (by rw [HN.out]; exact hlt)) _ _ (by omega) (by omega) (by omega)).mono ?_
          rintro e w2 ⟨rfl, hb2⟩
          have HB2 := Lib.hid (HBr.out.trans (hb2.mono HBr.out.size))
          clear hb2
          go_wp2
          go_ret
          exact ⟨⟨-1, rfl, .inl rfl⟩, HB2.out⟩
      · obtain rfl : k = n := by omega
        go_wp2
        go_ret
        exact ⟨⟨_, rfl, .inr ⟨hp, rfl⟩⟩, HBr.out⟩


set_option maxHeartbeats 4000000 in
theorem eqS_same (a b : Option Addr) (cap cap' : Nat) (rs : List Ru) (w : World) (hr : Row w a rs) (hr' : Row w b rs) (hl : rs.length ≤ maxLen) :
    Calls Try.prog 72 #[.slice a rs.length cap, .slice b rs.length cap'] w fun e w' => e = .returned (.bool true) ∧ Below w.heap.size w w' := by
  unfold maxLen at hl
  have H := Lib.hid hr
  have H' := Lib.hid hr'
  obtain ⟨n, hn⟩ : ∃ n, rs.length = n := ⟨_, rfl⟩
  have HN := Lib.hid hn
  rw [hn] at hl ⊢
  clear hr hr' hn
  go_enter Try.func72, Try.ntmps72
  go_wp2
  go_loopw [5] (fun i wr => ∃ k : Nat, k ≤ n ∧ i = .int .i64 k ∧ Below w.heap.size w wr) (fun i _ => n - (intOf i).toNat)
  case atStart => exact ⟨0, Nat.zero_le _, rfl, Below.refl _ _⟩
  case round =>
    obtain ⟨k, hk, rfl, hb⟩ := hrel
    have HBr := Lib.hid hb
    by_cases hlt : k < n
    · obtain ⟨b1, off1, rfl, c0, c1, c2, c3, c4, c5⟩ := (H.out.later hb).cells (i := k) (by rw [HN.out]; exact hlt)
      obtain ⟨b2, off2, rfl, d0, d1, d2, d3, d4, d5⟩ := (H'.out.later hb).cells (i := k) (by rw [HN.out]; exact hlt)
      clear hb
      go_wp2
      go_region_held3 (fun W : World => (W.cell? ⟨b1, off1 + k * 6, none⟩ = some (.int .i64 (at_ rs k).id) ∧ W.cell? ⟨b1, off1 + k * 6 + 1, none⟩ = some (.string (at_ rs k).nm) ∧ W.cell? ⟨b1, off1 + k * 6 + 2, none⟩ = some (.string (at_ rs k).cl) ∧ W.cell? ⟨b1, off1 + k * 6 + 3, none⟩ = some (.int .i64 (at_ rs k).bo) ∧ W.cell? ⟨b1, off1 + k * 6 + 4, none⟩ = some (.bool (at_ rs k).wo) ∧ W.cell? ⟨b1, off1 + k * 6 + 5, none⟩ = some (.int .i64 (at_ rs k).ca)) ∧ (W.cell? ⟨b2, off2 + k * 6, none⟩ = some (.int .i64 (at_ rs k).id) ∧ W.cell? ⟨b2, off2 + k * 6 + 1, none⟩ = some (.string (at_ rs k).nm) ∧ W.cell? ⟨b2, off2 + k * 6 + 2, none⟩ = some (.string (at_ rs k).cl) ∧ W.cell? ⟨b2, off2 + k * 6 + 3, none⟩ = some (.int .i64 (at_ rs k).bo) ∧ W.cell? ⟨b2, off2 + k * 6 + 4, none⟩ = some (.bool (at_ rs k).wo) ∧ W.cell? ⟨b2, off2 + k * 6 + 5, none⟩ = some (.int .i64 (at_ rs k).ca))) (first | exact ⟨⟨c0, c1, c2, c3, c4, c5⟩, d0, d1, d2, d3, d4, d5⟩ | exact ⟨HC.out, HD.out⟩) (first
        | (go_at_call 126; refine (eq_same (at_ rs k) _).mono ?_; rintro e w2 ⟨rfl, hb2⟩; have HB2 := Lib.hid (show Below w.heap.size w w2 from by first | exact HBr.out.trans (hb2.mono HBr.out.size) | exact HBr.out.drew.trans (hb2.mono HBr.out.size)); have HC := Lib.hid (And.intro ((hb2.cell (World.block_lt_of_cell? _ _ c0)).trans c0) (And.intro ((hb2.cell (World.block_lt_of_cell? _ _ c1)).trans c1) (And.intro ((hb2.cell (World.block_lt_of_cell? _ _ c2)).trans c2) (And.intro ((hb2.cell (World.block_lt_of_cell? _ _ c3)).trans c3) (And.intro ((hb2.cell (World.block_lt_of_cell? _ _ c4)).trans c4) ((hb2.cell (World.block_lt_of_cell? _ _ c5)).trans c5)))))); have HD := Lib.hid (And.intro ((hb2.cell (World.block_lt_of_cell? _ _ d0)).trans d0) (And.intro ((hb2.cell (World.block_lt_of_cell? _ _ d1)).trans d1) (And.intro ((hb2.cell (World.block_lt_of_cell? _ _ d2)).trans d2) (And.intro ((hb2.cell (World.block_lt_of_cell? _ _ d3)).trans d3) (And.intro ((hb2.cell (World.block_lt_of_cell? _ _ d4)).trans d4) ((hb2.cell (World.block_lt_of_cell? _ _ d5)).trans d5)))))); clear hb2))
      all_goals go_wp2
      all_goals go_roundw
      all_goals first
        | exact ⟨k + 1, by omega, by go_num, HB2.out⟩
        | (simp [intOf]; omega)
    · obtain rfl : k = n := by omega
      go_wp2
      go_ret
      exact ⟨rfl, HBr.out⟩

end Go.Proofs.Ytnenaponiahalaa.RuK
