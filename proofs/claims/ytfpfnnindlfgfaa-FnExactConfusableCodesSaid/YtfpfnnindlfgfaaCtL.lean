/- The laws' own helpers over lists of Control: contracts. -/
import Derived.Test.YtfpfnnindlfgfaaCtS
import Derived.RegionTactic
import Derived.Deep.RegionHeld3
namespace Go.Proofs.Ytfpfnnindlfgfaa.CtK
open Go.RowKit Lb Bk
set_option linter.unusedSimpArgs false
set_option linter.unusedVariables false

theorem part_set (rs : List Ct) (k : Nat) (h : k < rs.length) : (rs.take k ++ List.replicate (rs.length - k) no).set k (at_ rs k) = rs.take (k + 1) ++ List.replicate (rs.length - (k + 1)) no := by
  rw [List.set_append_right _ _ (by rw [List.length_take]; omega), List.length_take, show k - min k rs.length = 0 by omega, show rs.length - k = (rs.length - (k + 1)) + 1 by omega, List.replicate_succ, List.set_cons_zero, List.take_succ_eq_append_getElem h, at_lt h, List.append_assoc]
  rfl

set_option maxHeartbeats 2000000 in
theorem toG_any (a : Option Addr) (cap : Nat) (rs : List Ct) (w : World) (hr : Row w a rs) (hl : rs.length ≤ 1048576) :
    Calls Try.prog 62 #[.slice a rs.length cap] w fun e w' => ∃ g, e = .returned (.slice (some ⟨g, 0, none⟩) rs.length rs.length) ∧ Own w' w.heap.size (.slice (some ⟨g, 0, none⟩) rs.length rs.length) rs ∧ Below w.heap.size w w' := by
  obtain ⟨t0, hi, hz0, hz1, hz2⟩ := info_parts info
  obtain ⟨n, hn⟩ : ∃ n, rs.length = n := ⟨_, rfl⟩
  have hmk : (Instr.makeSlice 40 (.int .i64 (n : Int)) (.int .i64 (n : Int))).run Try.prog w = .ok (.slice (some ⟨w.heap.size, 0, none⟩) n n) (w.alloc (.cells (madeCells #[.int .i64 no.co, .int .i64 no.ce] (n * 2)) 58)) := by
    have h := run_make (P := Try.prog) w 40 58 t0 (.agg #[.int .i64 no.co, .int .i64 no.ce]) Try.underlying40 hi hz0 .i64 .i64 n n (by omega) (Int.le_refl _) (by rw [hz2]; omega) (by omega)
    simp only [Int.toNat_natCast, hz1] at h
    exact h
  have H := Lib.hid hr
  have HM := Lib.hid (made w n (by unfold maxLen; omega))
  have HB := Lib.hid ((Below.refl w.heap.size w).alloc (Nat.le_refl _) (.cells (madeCells #[.int .i64 no.co, .int .i64 no.ce] (n * 2)) 58))
  have HN := Lib.hid hn
  rw [hn] at hl ⊢
  clear hr hi hz0 hz1 hz2 hn
  go_enter Try.func62, Try.ntmps62
  go_wp2
  go_loopw [4] (fun i wr => ∃ k : Nat, k ≤ n ∧ i = .int .i64 k ∧ Own wr w.heap.size (.slice (some ⟨w.heap.size, 0, none⟩) n n) (rs.take k ++ List.replicate (rs.length - k) no) ∧ Below w.heap.size w wr) (fun i _ => n - (intOf i).toNat)
  case atStart => exact ⟨0, Nat.zero_le _, rfl, by rw [HN.out]; simpa using HM.out, HB.out⟩
  case round =>
    obtain ⟨k, hk, rfl, ho, hb⟩ := hrel
    by_cases hlt : k < n
    · obtain ⟨b, off, rfl, c0, c1⟩ := (H.out.later hb).cells (i := k) (by rw [HN.out]; exact hlt)
      have HO := Lib.hid ho
      have HBr := Lib.hid hb
      clear ho hb
      go_wp2_with fail
      refine (to_any (at_ rs k) _).mono ?_
      rintro e w2 ⟨rfl, hb2⟩
      have HO2 := Lib.hid (HO.out.below hb2)
      have HB2 := Lib.hid (HBr.out.trans (hb2.mono HBr.out.size))
      have hlen : (rs.take k ++ List.replicate (rs.length - k) no).length = n := by have := HN.out; simp; omega
      have HP := Lib.hid (HO2.out.put hlen (k := k) (by rw [hlen]; exact hlt) (at_ rs k))
      have HR2 := Lib.hid (show w2.ownsRow w.heap.size 58 2 (.slice (some ⟨w.heap.size, 0, none⟩) n n) n (cells (rs.take k ++ List.replicate (rs.length - k) no)) from by have h := HO2.out; unfold Own at h; rw [hlen] at h; exact h)
      clear hb2 c0 c1 hlen

      obtain ⟨u0, d0, f0⟩ := raw_at HR2.out (k := k * 2) (by omega)
      obtain ⟨u1, d1, f1⟩ := raw_at HR2.out (k := k * 2 + 1) (by omega)
      go_wp2
      go_roundw
      case rel =>
        refine ⟨k + 1, by omega, by go_num, ?_, ?_⟩
        · have h := HP.out
          rw [part_set rs k (by rw [HN.out]; exact hlt)] at h
          exact h
        · iterate 2 (refine Below.setCell ?_ (by simp) _)
          exact HB2.out
      case measure => simp [intOf]; omega
    · obtain rfl : k = n := by omega
      go_wp2
      go_ret
      refine ⟨_, rfl, ?_, hb⟩
      rw [HN.out, Nat.sub_self, List.take_of_length_le (by rw [HN.out]; exact Nat.le_refl _)] at ho
      simpa using ho

theorem toS_any (a : Option Addr) (cap : Nat) (rs : List Ct) (w : World) (hr : Row w a rs) (hl : rs.length ≤ 1048576) :
    Calls Try.prog 62 #[.slice a rs.length cap] w fun e w' => ∃ v, e = .returned v ∧ Own w' w.heap.size v rs ∧ Below w.heap.size w w' :=
  (toG_any a cap rs w hr hl).mono fun e w' ⟨g, h1, h2, h3⟩ => ⟨_, h1, h2, h3⟩

/-- The lengths of the first 'k' elements' texts. -/
def tot (rs : List Ct) : Nat → Int
  | 0 => 0
  | k + 1 => tot rs k + sz (at_ rs k)
theorem tot_nn (rs : List Ct) : ∀ k, 0 ≤ tot rs k
  | 0 => Int.le_refl _
  | k + 1 => by have := tot_nn rs k; have := sz_nn (at_ rs k); rw [tot]; omega
/-- What is left, if it is not negative, says that the list is short, and all texts together. -/
def SzPost (rs : List Ct) (left : Int) (e : Ending) : Prop := ∃ r : Int, e = .returned (.int .i64 r) ∧ (r = -1 ∨ (0 ≤ r ∧ r = left - rs.length - tot rs rs.length))


theorem tot_zero (rs : List Ct) : ∀ k, tot rs k = 0
  | 0 => rfl
  | k + 1 => by rw [tot, tot_zero rs k]; rfl
set_option maxHeartbeats 2000000 in
theorem szS_any (a : Option Addr) (cap : Nat) (rs : List Ct) (left : Int) (w : World) (hr : Row w a rs) (hf : ∀ i, i < rs.length → Is (at_ rs i)) (hl : rs.length ≤ maxLen) (h0 : 0 ≤ left) (h1 : left ≤ 1048576) :
    Calls Try.prog 60 #[.slice a rs.length cap, .int .i64 left] w fun e w' => SzPost rs left e ∧ Below w.heap.size w w' := by
  unfold maxLen at hl
  unfold SzPost
  rw [tot_zero]
  obtain ⟨n, hn⟩ : ∃ n, rs.length = n := ⟨_, rfl⟩
  rw [hn] at hl ⊢
  clear hr hf hn
  by_cases hlt0 : left - n < 0
  · go_enter Try.func60, Try.ntmps60
    go_wp2
    go_ret
    exact ⟨⟨-1, rfl, .inl rfl⟩, Below.refl _ _⟩
  · go_enter Try.func60, Try.ntmps60
    go_wp2
    go_ret
    exact ⟨⟨_, rfl, .inr ⟨by omega, by omega⟩⟩, Below.refl _ _⟩


set_option maxHeartbeats 4000000 in
theorem eqS_same (a b : Option Addr) (cap cap' : Nat) (rs : List Ct) (w : World) (hr : Row w a rs) (hr' : Row w b rs) (hl : rs.length ≤ maxLen) :
    Calls Try.prog 64 #[.slice a rs.length cap, .slice b rs.length cap'] w fun e w' => e = .returned (.bool true) ∧ Below w.heap.size w w' := by
  unfold maxLen at hl
  have H := Lib.hid hr
  have H' := Lib.hid hr'
  obtain ⟨n, hn⟩ : ∃ n, rs.length = n := ⟨_, rfl⟩
  have HN := Lib.hid hn
  rw [hn] at hl ⊢
  clear hr hr' hn
  go_enter Try.func64, Try.ntmps64
  go_wp2
  go_loopw [5] (fun i wr => ∃ k : Nat, k ≤ n ∧ i = .int .i64 k ∧ Below w.heap.size w wr) (fun i _ => n - (intOf i).toNat)
  case atStart => exact ⟨0, Nat.zero_le _, rfl, Below.refl _ _⟩
  case round =>
    obtain ⟨k, hk, rfl, hb⟩ := hrel
    have HBr := Lib.hid hb
    by_cases hlt : k < n
    · obtain ⟨b1, off1, rfl, c0, c1⟩ := (H.out.later hb).cells (i := k) (by rw [HN.out]; exact hlt)
      obtain ⟨b2, off2, rfl, d0, d1⟩ := (H'.out.later hb).cells (i := k) (by rw [HN.out]; exact hlt)
      clear hb
      go_wp2
      go_region_held3 (fun W : World => (W.cell? ⟨b1, off1 + k * 2, none⟩ = some (.int .i64 (at_ rs k).co) ∧ W.cell? ⟨b1, off1 + k * 2 + 1, none⟩ = some (.int .i64 (at_ rs k).ce)) ∧ (W.cell? ⟨b2, off2 + k * 2, none⟩ = some (.int .i64 (at_ rs k).co) ∧ W.cell? ⟨b2, off2 + k * 2 + 1, none⟩ = some (.int .i64 (at_ rs k).ce))) (first | exact ⟨⟨c0, c1⟩, d0, d1⟩ | exact ⟨HC.out, HD.out⟩) (first
        | (go_at_call 120; refine (eq_same (at_ rs k) _).mono ?_; rintro e w2 ⟨rfl, hb2⟩; have HB2 := Lib.hid (show Below w.heap.size w w2 from by first | exact HBr.out.trans (hb2.mono HBr.out.size) | exact HBr.out.drew.trans (hb2.mono HBr.out.size)); have HC := Lib.hid (And.intro ((hb2.cell (World.block_lt_of_cell? _ _ c0)).trans c0) ((hb2.cell (World.block_lt_of_cell? _ _ c1)).trans c1)); have HD := Lib.hid (And.intro ((hb2.cell (World.block_lt_of_cell? _ _ d0)).trans d0) ((hb2.cell (World.block_lt_of_cell? _ _ d1)).trans d1)); clear hb2))
      all_goals go_wp2
      all_goals go_roundw
      all_goals first
        | exact ⟨k + 1, by omega, by go_num, HB2.out⟩
        | (simp [intOf]; omega)
    · obtain rfl : k = n := by omega
      go_wp2
      go_ret
      exact ⟨rfl, HBr.out⟩

end Go.Proofs.Ytfpfnnindlfgfaa.CtK
