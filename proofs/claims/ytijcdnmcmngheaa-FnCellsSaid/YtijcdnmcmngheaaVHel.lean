/- The laws' own helpers over lists and tables: contracts. -/
import Derived.Test.YtijcdnmcmngheaaTblS
import Derived.Test.YtijcdnmcmngheaaStepT
import Derived.Test.YtijcdnmcmngheaaPrtO
namespace Go.Proofs.Ytijcdnmcmngheaa.VHel
open Go.RowKit Lb IntS MapS SpecB TblS High
set_option linter.unusedSimpArgs false
set_option linter.unusedVariables false

set_option maxHeartbeats 1000000 in
theorem ints_same (a b : Option Addr) (cap cap' : Nat) (zs : List Int) (w : World) (hr : IRow w a zs) (hr' : IRow w b zs) (hl : zs.length ≤ maxLen) :
    Calls Try.prog 31 #[.slice a zs.length cap, .slice b zs.length cap'] w fun e w' => e = .returned (.bool true) ∧ Below w.heap.size w w' := by
  unfold maxLen at hl
  go_enter Try.func31, Try.ntmps31
  go_wp2
  go_loopw [5] (fun i wr => ∃ k : Nat, k ≤ zs.length ∧ i = .int .i64 k ∧ Still w wr) (fun i _ => zs.length - (intOf i).toNat)
  case atStart => exact ⟨0, Nat.zero_le _, rfl, Still.refl _⟩
  case round =>
    obtain ⟨k, hk, rfl, hst⟩ := hrel
    obtain ⟨n, rfl⟩ := hst
    by_cases hlt : k < zs.length
    · rcases hr with hr | ⟨b1, off1, rfl, hc1⟩
      · omega
      rcases hr' with hr' | ⟨b2, off2, rfl, hc2⟩
      · omega
      have g1 : w.cell? ⟨b1, off1 + k, none⟩ = some (.int .i64 (zAt zs k)) := hc1 k hlt
      have g2 : w.cell? ⟨b2, off2 + k, none⟩ = some (.int .i64 (zAt zs k)) := hc2 k hlt
      clear hc1 hc2
      go_wp2
      go_quiet (fail)
      go_wp2
      go_roundw
      case rel => exact ⟨k + 1, by omega, by go_num, ⟨_, rfl⟩⟩
      case measure => simp [intOf]; omega
    · go_wp2
      go_ret
      exact ⟨rfl, Still.below ⟨_, rfl⟩ _⟩

set_option maxHeartbeats 1000000 in
theorem vhas_any (a : Option Addr) (cap : Nat) (zs : List Int) (x : Int) (w : World) (hr : IRow w a zs) (hl : zs.length ≤ maxLen) :
    Calls Try.prog 32 #[.slice a zs.length cap, .int .i64 x] w fun e w' => e = .returned (.bool (decide (x ∈ zs))) ∧ w' = w := by
  unfold maxLen at hl
  go_enter Try.func32, Try.ntmps32
  go_wp2
  go_loop [5] (fun i => ∃ k : Nat, k ≤ zs.length ∧ i = .int .i64 k ∧ ∀ j, j < k → zAt zs j ≠ x) (fun i => zs.length - (intOf i).toNat)
  case atStart => exact ⟨0, Nat.zero_le _, rfl, fun j h => by omega⟩
  case round =>
    obtain ⟨k, hk, rfl, hno⟩ := hrel
    by_cases hlt : k < zs.length
    · rcases hr with h0 | ⟨b, off, rfl, hc⟩
      · omega
      have g := hc k hlt
      clear hc
      by_cases he : zAt zs k = x
      · have hb : (zAt zs k == x) = true := by simpa using he
        have HH := Lib.hid (show decide (x ∈ zs) = true from by
          rw [decide_eq_true_iff, ← he]
          simp [zAt, hlt])
        clear hno he
        go_wp2
        go_ret
        exact ⟨ret_bool HH.out.symm, rfl⟩
      · have hb : (zAt zs k == x) = false := by simpa using he
        have HN := Lib.hid (all_succ (p := fun j => zAt zs j ≠ x) hno he)
        clear hno he
        go_wp2
        go_round
        case rel => exact ⟨k + 1, by omega, by go_num, HN.out⟩
        case measure => simp [intOf]; omega
    · have HH := Lib.hid (show decide (x ∈ zs) = false from by
        rw [decide_eq_false_iff_not]
        intro h
        obtain ⟨j, hj, e⟩ := List.mem_iff_getElem.1 h
        exact hno j (by omega) (by simp [zAt, hj, e]))
      clear hno
      go_wp2
      go_ret
      exact ⟨ret_bool HH.out.symm, rfl⟩

set_option maxHeartbeats 1000000 in
theorem table_same (a b : Option Addr) (cap cap' n : Nat) (zs : Nat → List Int) (w : World) (hr : Rd w a n zs) (hr' : Rd w b n zs) (hl : n ≤ maxLen) (hz : ∀ i, i < n → (zs i).length ≤ maxLen) :
    Calls Try.prog 36 #[.slice a n cap, .slice b n cap'] w fun e w' => e = .returned (.bool true) ∧ Below w.heap.size w w' := by
  unfold maxLen at hl
  have H := Lib.hid hr
  have H' := Lib.hid hr'
  clear hr hr'
  go_enter Try.func36, Try.ntmps36
  go_wp2
  go_loopg [5] n (fun q ii wr => ∃ i : Nat, i ≤ n ∧ q = n - i ∧ ii = .int .i64 i ∧ Below w.heap.size w wr)
  case atStart => exact ⟨0, Nat.zero_le _, rfl, rfl, Below.refl _ _⟩
  case round =>
    obtain ⟨i, hi, hq, rfl, hg⟩ := hrel
    have HG := Lib.hid hg
    clear hg
    by_cases hlt : i < n
    · obtain ⟨rs, hr1, hr2⟩ := H.out.below HG.out
      obtain ⟨rs', hr1', hr2'⟩ := H'.out.below HG.out
      rcases hr1 with h0 | ⟨b1, off1, rfl, hc1⟩
      · omega
      rcases hr1' with h0 | ⟨b2, off2, rfl, hc2⟩
      · omega
      obtain ⟨a1, k1, e1, h1⟩ := hr2 i hlt
      obtain ⟨a2, k2, e2, h2⟩ := hr2' i hlt
      have g1 := hc1 i hlt
      have g2 := hc2 i hlt
      rw [e1] at g1
      rw [e2] at g2
      have H1 := Lib.hid (show IRow wr.drew a1 (zs i) from h1)
      have H2 := Lib.hid (show IRow wr.drew a2 (zs i) from h2)
      have HD := Lib.hid (show Below w.heap.size w wr.drew from HG.out.drew)
      have HZ := Lib.hid (hz i hlt)
      clear hc1 hc2 hr2 hr2' e1 e2 h1 h2
      go_wp2_with fail
      go_region_with (go_at_call 31; refine (ints_same a1 a2 k1 k2 (zs i) _ H1.out H2.out HZ.out).mono ?_; rintro e w2 ⟨rfl, hb2⟩; have HB2 := Lib.hid (HD.out.trans (hb2.mono HD.out.size)); clear hb2)
      all_goals go_wp2
      all_goals go_roundg (n - (i + 1))
      all_goals first | omega | exact ⟨i + 1, by omega, rfl, by go_num, HB2.out⟩
    · obtain rfl : i = n := by omega
      go_wp2
      go_ret
      exact ⟨rfl, HG.out⟩


theorem vhas_later (a : Option Addr) (cap : Nat) (zs : List Int) (x : Int) (w : World) (k n : Nat) (t : Bool) (hr : IRow w a zs) (hl : zs.length ≤ maxLen) (ht : decide (x ∈ zs) = t) :
    Calls Try.prog 32 #[.slice a zs.length cap, .int .i64 x] (w.drewN (k + n)) fun e w'' => e = .returned (.bool t) ∧ ∃ j, w'' = w.drewN (k + j) :=
  (vhas_any a cap zs x _ (show IRow (w.drewN (k + n)) a zs from hr) hl).mono fun e w' ⟨he, hw⟩ => ⟨by rw [he, ht], n, hw⟩

/-! The highest cell. -/
theorem hi_none {m : Mp} : ∀ {n : Nat}, hi m n = none → ∀ i, i < n → ¬ 0 < zAt m.C i
  | 0, _, i, hi => by omega
  | n + 1, h, i, hlt => by
    unfold hi at h
    cases hk : hi m n with
    | none =>
      rw [hk] at h
      simp only at h
      by_cases e : i = n
      · subst e
        split at h
        · cases h
        · assumption
      · exact hi_none hk i (by omega)
    | some b =>
      rw [hk] at h
      simp only at h
      split at h <;> cases h
theorem hi_open {m : Mp} : ∀ {n b : Nat}, hi m n = some b → 0 < zAt m.C b
  | 0, b, h => by cases h
  | n + 1, b, h => by
    unfold hi at h
    cases hk : hi m n with
    | none =>
      rw [hk] at h
      simp only at h
      split at h
      · injection h with h; subst h; assumption
      · cases h
    | some c =>
      rw [hk] at h
      simp only at h
      split at h
      · rename_i hc
        injection h with h; subst h; exact hc.1
      · injection h with h; subst h; exact hi_open hk
theorem hi_max {m : Mp} : ∀ {n b : Nat}, hi m n = some b → ∀ i, i < n → 0 < zAt m.C i → zAt m.R i ≤ zAt m.R b
  | 0, b, h, i, hlt, _ => by omega
  | n + 1, b, h, i, hlt, ho => by
    unfold hi at h
    cases hk : hi m n with
    | none =>
      rw [hk] at h
      simp only at h
      by_cases e : i = n
      · subst e
        rw [if_pos ho] at h
        injection h with h
        rw [h]
        exact Int.le_refl _
      · exact absurd ho (hi_none hk i (by omega))
    | some c =>
      rw [hk] at h
      simp only at h
      split at h
      · rename_i hc
        injection h with h
        subst h
        by_cases e : i = n
        · subst e; exact Int.le_refl _
        · have := hi_max hk i (by omega) ho
          omega
      · rename_i hc
        injection h with h
        subst h
        by_cases e : i = n
        · subst e
          by_cases hr : zAt m.R c < zAt m.R i
          · exact absurd ⟨ho, hr⟩ hc
          · omega
        · exact hi_max hk i (by omega) ho

/-! Open cells, counted. -/
def cnt (m : Mp) (k : Nat) : Nat := ((List.range k).filter (opn m)).length
theorem cnt_yes {m : Mp} {k : Nat} (h : 0 < zAt m.C k) : cnt m (k + 1) = cnt m k + 1 := by
  unfold cnt
  rw [List.range_succ, List.filter_append, List.length_append]
  simp [opn, h]
theorem cnt_no {m : Mp} {k : Nat} (h : ¬ 0 < zAt m.C k) : cnt m (k + 1) = cnt m k := by
  unfold cnt
  rw [List.range_succ, List.filter_append, List.length_append]
  simp [opn, h]
theorem cnt_le (m : Mp) (k : Nat) : cnt m k ≤ k := by
  unfold cnt
  have := List.length_filter_le (opn m) (List.range k)
  simpa using this
theorem cnt_zero {m : Mp} {k : Nat} (h : ∀ i, i < k → ¬ 0 < zAt m.C i) : cnt m k = 0 := by
  unfold cnt
  rw [List.length_eq_zero_iff, List.filter_eq_nil_iff]
  intro i hi
  have := h i (by simpa using hi)
  simpa [opn] using this
theorem cnt_pos {m : Mp} {k i : Nat} (hi : i < k) (h : 0 < zAt m.C i) : 0 < cnt m k := by
  unfold cnt
  exact List.length_pos_of_mem (List.mem_filter.2 ⟨by simpa using hi, by simpa [opn] using h⟩)
theorem tot_zsOf (ps : List (List Nat)) : ∀ i, i ≤ ps.length → tot (zsOf ps) i = ((ps.take i).map List.length).sum
  | 0, _ => by simp [tot]
  | i + 1, h => by
    rw [tot, tot_zsOf ps i (by omega), List.take_succ_eq_append_getElem (by omega), List.map_append, List.sum_append]
    have e : (zsOf ps i).length = (ps[i]'(by omega)).length := by unfold zsOf; rw [ints_length]; simp [show i < ps.length by omega]
    rw [e]
    rfl
theorem tot_all (ps : List (List Nat)) : tot (zsOf ps) ps.length = (ps.map List.length).sum := by
  rw [tot_zsOf ps _ (Nat.le_refl _), List.take_length]

end Go.Proofs.Ytijcdnmcmngheaa.VHel
