/- Whether a Class is valid: both texts. -/
import Derived.Test.YtleoljnofdajfaaGreatDoorWd
import Derived.Test.YtleoljnofdajfaaGreatDoorKlS
import Derived.Test.YtleoljnofdajfaaGreatDoorRuE
namespace Go.Proofs.YtleoljnofdajfaaGreatDoor.KlI
open Go.RowKit Lb Bk InA Wd KlK
set_option linter.unusedSimpArgs false
set_option linter.unusedVariables false

/-- Whether a Class is valid. -/
def okK (r : Kl) : Bool := decide (1 ≤ r.id ∧ r.id ≤ 99) && (wordB r.nm && (decide (0 ≤ r.lo ∧ r.lo ≤ r.hi ∧ r.hi ≤ 120) && ((r.wo || r.me) && (decide (1 ≤ r.co ∧ r.co ≤ 20) && decide (1 ≤ r.mo ∧ r.mo ≤ 500)))))
theorem ok_id {r : Kl} (h : okK r = true) : 1 ≤ r.id ∧ r.id ≤ 99 := by
  unfold okK at h
  rw [Bool.and_eq_true] at h
  exact of_decide_eq_true h.1
theorem ok_word {r : Kl} (h : okK r = true) : wordB r.nm = true := by
  unfold okK at h
  rw [Bool.and_eq_true, Bool.and_eq_true] at h
  exact h.2.1
theorem ok_ages {r : Kl} (h : okK r = true) : 0 ≤ r.lo ∧ r.lo ≤ r.hi ∧ r.hi ≤ 120 := by
  unfold okK at h
  rw [Bool.and_eq_true, Bool.and_eq_true, Bool.and_eq_true] at h
  exact of_decide_eq_true h.2.2.1
theorem ok_sex {r : Kl} (h : okK r = true) : (r.wo || r.me) = true := by
  unfold okK at h
  rw [Bool.and_eq_true, Bool.and_eq_true, Bool.and_eq_true, Bool.and_eq_true] at h
  exact h.2.2.2.1
theorem ok_co {r : Kl} (h : okK r = true) : 1 ≤ r.co ∧ r.co ≤ 20 := by
  unfold okK at h
  rw [Bool.and_eq_true, Bool.and_eq_true, Bool.and_eq_true, Bool.and_eq_true, Bool.and_eq_true] at h
  exact of_decide_eq_true h.2.2.2.2.1
theorem ok_mo {r : Kl} (h : okK r = true) : 1 ≤ r.mo ∧ r.mo ≤ 500 := by
  unfold okK at h
  rw [Bool.and_eq_true, Bool.and_eq_true, Bool.and_eq_true, Bool.and_eq_true, Bool.and_eq_true] at h
  exact of_decide_eq_true h.2.2.2.2.2

set_option maxRecDepth 20000 in
set_option maxHeartbeats 4000000 in
theorem spec_one (r : Kl) (hr : Is r) (w : World) :
    Calls Tryz.prog 25 #[.agg #[.int .i64 r.id, .string r.nm, .int .i64 r.lo, .int .i64 r.hi, .bool r.wo, .bool r.me, .int .i64 r.co, .int .i64 r.mo]] w fun e w' => e = .returned (.bool (okK r)) ∧ Below w.heap.size w w' := by
  have HB := Lib.hid ((Below.refl w.heap.size w).alloc (Nat.le_refl _) (.cells #[.int .i64 r.id, .string r.nm, .int .i64 r.lo, .int .i64 r.hi, .bool r.wo, .bool r.me, .int .i64 r.co, .int .i64 r.mo] 25))
  obtain ⟨d1, h1⟩ : ∃ d, decide (1 ≤ r.id ∧ r.id ≤ 99) = d := ⟨_, rfl⟩
  obtain ⟨n1, h2⟩ : ∃ d, wordB r.nm = d := ⟨_, rfl⟩
  obtain ⟨d3, h3⟩ : ∃ d, decide (0 ≤ r.hi ∧ r.hi ≤ 120) = d := ⟨_, rfl⟩
  obtain ⟨d4, h4⟩ : ∃ d, decide (0 ≤ r.lo ∧ r.lo ≤ r.hi) = d := ⟨_, rfl⟩
  obtain ⟨wo, hwo⟩ : ∃ d, r.wo = d := ⟨_, rfl⟩
  obtain ⟨me, hme⟩ : ∃ d, r.me = d := ⟨_, rfl⟩
  obtain ⟨d5, h5⟩ : ∃ d, decide (1 ≤ r.co ∧ r.co ≤ 20) = d := ⟨_, rfl⟩
  obtain ⟨d6, h6⟩ : ∃ d, decide (1 ≤ r.mo ∧ r.mo ≤ 500) = d := ⟨_, rfl⟩
  have c1 := Lib.hid (fun w => h1 ▸ in_any r.id 1 99 w)
  have c2 := Lib.hid (fun w => h2 ▸ Wd.spec_any r.nm w hr.nm)
  have c3 := Lib.hid (fun w => h3 ▸ in_any r.hi 0 120 w)
  have c4 := Lib.hid (fun w => h4 ▸ in_any r.lo 0 r.hi w)
  have c5 := Lib.hid (fun w => h5 ▸ in_any r.co 1 20 w)
  have c6 := Lib.hid (fun w => h6 ▸ in_any r.mo 1 500 w)
  have HE := Lib.hid (show okK r = (d1 && (n1 && (d3 && (d4 && ((wo || me) && (d5 && d6)))))) from by
    have e : decide (0 ≤ r.lo ∧ r.lo ≤ r.hi ∧ r.hi ≤ 120) = (d3 && d4) := by
      rw [← h3, ← h4, ← Bool.decide_and]
      exact decide_eq_decide.2 (by omega)
    unfold okK
    rw [h1, h2, hwo, hme, h5, h6, e, Bool.and_assoc])
  clear h1 h2 h3 h4 h5 h6 hr
  obtain ⟨⟨p0, p1, p2, p3, p4, p5, p6, p7⟩, -⟩ := blk_cells (Blk.new w 25 #[.int .i64 r.id, .string r.nm, .int .i64 r.lo, .int .i64 r.hi, .bool r.wo, .bool r.me, .int .i64 r.co, .int .i64 r.mo])
  cases d1
  case false =>
    go_enter Tryz.func25, Tryz.ntmps25
    go_wp2_with fail
    refine (c1.out _).mono ?_
    rintro e w' ⟨rfl, rfl⟩
    go_wp2
    go_ret
    exact ⟨ret_bool HE.out.symm, (Below.refl _ _).alloc (Nat.le_refl _) _⟩
  cases n1
  case false =>
    go_enter Tryz.func25, Tryz.ntmps25
    go_wp2_with fail
    refine (c1.out _).mono ?_
    rintro e w' ⟨rfl, rfl⟩
    go_wp2_with fail
    refine (c2.out _).mono ?_
    rintro e w' ⟨rfl, rfl⟩
    go_wp2
    go_ret
    exact ⟨ret_bool HE.out.symm, (Below.refl _ _).alloc (Nat.le_refl _) _⟩
  cases d3
  case false =>
    go_enter Tryz.func25, Tryz.ntmps25
    go_wp2_with fail
    refine (c1.out _).mono ?_
    rintro e w' ⟨rfl, rfl⟩
    go_wp2_with fail
    refine (c2.out _).mono ?_
    rintro e w' ⟨rfl, rfl⟩
    go_wp2_with fail
    refine (c3.out _).mono ?_
    rintro e w' ⟨rfl, rfl⟩
    go_wp2
    go_ret
    exact ⟨ret_bool HE.out.symm, (Below.refl _ _).alloc (Nat.le_refl _) _⟩
  cases d4
  case false =>
    go_enter Tryz.func25, Tryz.ntmps25
    go_wp2_with fail
    refine (c1.out _).mono ?_
    rintro e w' ⟨rfl, rfl⟩
    go_wp2_with fail
    refine (c2.out _).mono ?_
    rintro e w' ⟨rfl, rfl⟩
    go_wp2_with fail
    refine (c3.out _).mono ?_
    rintro e w' ⟨rfl, rfl⟩
    go_wp2_with fail
    refine (c4.out _).mono ?_
    rintro e w' ⟨rfl, rfl⟩
    go_wp2
    go_ret
    exact ⟨ret_bool HE.out.symm, (Below.refl _ _).alloc (Nat.le_refl _) _⟩
  rw [hwo] at p4
  rw [hme] at p5
  cases wo
  case false =>
    cases me
    case false =>
      go_enter Tryz.func25, Tryz.ntmps25
      go_wp2_with fail
      refine (c1.out _).mono ?_
      rintro e w' ⟨rfl, rfl⟩
      go_wp2_with fail
      refine (c2.out _).mono ?_
      rintro e w' ⟨rfl, rfl⟩
      go_wp2_with fail
      refine (c3.out _).mono ?_
      rintro e w' ⟨rfl, rfl⟩
      go_wp2_with fail
      refine (c4.out _).mono ?_
      rintro e w' ⟨rfl, rfl⟩
      go_wp2
      go_ret
      exact ⟨ret_bool HE.out.symm, (Below.refl _ _).alloc (Nat.le_refl _) _⟩
    case true =>
      cases d5
      case false =>
        go_enter Tryz.func25, Tryz.ntmps25
        go_wp2_with fail
        refine (c1.out _).mono ?_
        rintro e w' ⟨rfl, rfl⟩
        go_wp2_with fail
        refine (c2.out _).mono ?_
        rintro e w' ⟨rfl, rfl⟩
        go_wp2_with fail
        refine (c3.out _).mono ?_
        rintro e w' ⟨rfl, rfl⟩
        go_wp2_with fail
        refine (c4.out _).mono ?_
        rintro e w' ⟨rfl, rfl⟩
        go_wp2_with fail
        refine (c5.out _).mono ?_
        rintro e w' ⟨rfl, rfl⟩
        go_wp2
        go_ret
        exact ⟨ret_bool HE.out.symm, (Below.refl _ _).alloc (Nat.le_refl _) _⟩
      cases d6
      all_goals
        go_enter Tryz.func25, Tryz.ntmps25
        go_wp2_with fail
        refine (c1.out _).mono ?_
        rintro e w' ⟨rfl, rfl⟩
        go_wp2_with fail
        refine (c2.out _).mono ?_
        rintro e w' ⟨rfl, rfl⟩
        go_wp2_with fail
        refine (c3.out _).mono ?_
        rintro e w' ⟨rfl, rfl⟩
        go_wp2_with fail
        refine (c4.out _).mono ?_
        rintro e w' ⟨rfl, rfl⟩
        go_wp2_with fail
        refine (c5.out _).mono ?_
        rintro e w' ⟨rfl, rfl⟩
        go_wp2_with fail
        refine (c6.out _).mono ?_
        rintro e w' ⟨rfl, rfl⟩
        go_wp2
        go_ret
        exact ⟨ret_bool HE.out.symm, (Below.refl _ _).alloc (Nat.le_refl _) _⟩
  cases d5
  case false =>
    go_enter Tryz.func25, Tryz.ntmps25
    go_wp2_with fail
    refine (c1.out _).mono ?_
    rintro e w' ⟨rfl, rfl⟩
    go_wp2_with fail
    refine (c2.out _).mono ?_
    rintro e w' ⟨rfl, rfl⟩
    go_wp2_with fail
    refine (c3.out _).mono ?_
    rintro e w' ⟨rfl, rfl⟩
    go_wp2_with fail
    refine (c4.out _).mono ?_
    rintro e w' ⟨rfl, rfl⟩
    go_wp2_with fail
    refine (c5.out _).mono ?_
    rintro e w' ⟨rfl, rfl⟩
    go_wp2
    go_ret
    exact ⟨ret_bool HE.out.symm, (Below.refl _ _).alloc (Nat.le_refl _) _⟩
  cases d6
  all_goals
    go_enter Tryz.func25, Tryz.ntmps25
    go_wp2_with fail
    refine (c1.out _).mono ?_
    rintro e w' ⟨rfl, rfl⟩
    go_wp2_with fail
    refine (c2.out _).mono ?_
    rintro e w' ⟨rfl, rfl⟩
    go_wp2_with fail
    refine (c3.out _).mono ?_
    rintro e w' ⟨rfl, rfl⟩
    go_wp2_with fail
    refine (c4.out _).mono ?_
    rintro e w' ⟨rfl, rfl⟩
    go_wp2_with fail
    refine (c5.out _).mono ?_
    rintro e w' ⟨rfl, rfl⟩
    go_wp2_with fail
    refine (c6.out _).mono ?_
    rintro e w' ⟨rfl, rfl⟩
    go_wp2
    go_ret
    exact ⟨ret_bool HE.out.symm, (Below.refl _ _).alloc (Nat.le_refl _) _⟩

set_option maxRecDepth 20000 in
set_option maxHeartbeats 4000000 in
theorem impl_any (r : Kl) (hr : Is r) (w : World) :
    Calls Tryz.prog 8 #[.agg #[.int .i64 r.id, .string r.nm, .int .i64 r.lo, .int .i64 r.hi, .bool r.wo, .bool r.me, .int .i64 r.co, .int .i64 r.mo]] w fun e w' => e = .returned (.bool (okK r)) ∧ Below w.heap.size w w' := by
  have HB := Lib.hid ((Below.refl w.heap.size w).alloc (Nat.le_refl _) (.cells #[.int .i64 r.id, .string r.nm, .int .i64 r.lo, .int .i64 r.hi, .bool r.wo, .bool r.me, .int .i64 r.co, .int .i64 r.mo] 25))
  obtain ⟨⟨p0, p1, p2, p3, p4, p5, p6, p7⟩, -⟩ := blk_cells (Blk.new w 25 #[.int .i64 r.id, .string r.nm, .int .i64 r.lo, .int .i64 r.hi, .bool r.wo, .bool r.me, .int .i64 r.co, .int .i64 r.mo])
  by_cases a1 : 1 ≤ r.id
  case neg =>
    have HE := Lib.hid (show okK r = false from by cases h : okK r with | false => rfl | true => exact absurd ((ok_id h).1) a1)
    go_enter Tryz.func8, Tryz.ntmps8
    go_wp2
    go_ret
    exact ⟨ret_bool HE.out.symm, (Below.refl _ _).alloc (Nat.le_refl _) _⟩
  by_cases a2 : r.id ≤ 99
  case neg =>
    have HE := Lib.hid (show okK r = false from by cases h : okK r with | false => rfl | true => exact absurd ((ok_id h).2) a2)
    go_enter Tryz.func8, Tryz.ntmps8
    go_wp2
    go_ret
    exact ⟨ret_bool HE.out.symm, (Below.refl _ _).alloc (Nat.le_refl _) _⟩
  obtain ⟨n1, h2⟩ : ∃ d, wordB r.nm = d := ⟨_, rfl⟩
  obtain ⟨n2, h3⟩ : ∃ d, decide (0 ≤ r.lo ∧ r.lo ≤ r.hi ∧ r.hi ≤ 120) = d := ⟨_, rfl⟩
  have c2 := Lib.hid (fun w => h2 ▸ Wd.impl_any r.nm w hr.nm)
  have c3 := Lib.hid (fun w => h3 ▸ RuE.ages_any r.lo r.hi w)
  have E1 := Lib.hid (show okK r = (n1 && (n2 && ((r.wo || r.me) && (decide (1 ≤ r.co ∧ r.co ≤ 20) && decide (1 ≤ r.mo ∧ r.mo ≤ 500))))) from by unfold okK; rw [decide_eq_true (And.intro a1 a2), h2, h3]; rfl)
  clear h2 h3 hr
  cases n1
  case false =>
    go_enter Tryz.func8, Tryz.ntmps8
    go_wp2_with fail
    refine (c2.out _).mono ?_
    rintro e w' ⟨rfl, rfl⟩
    go_wp2
    go_ret
    exact ⟨ret_bool E1.out.symm, (Below.refl _ _).alloc (Nat.le_refl _) _⟩
  cases n2
  case false =>
    go_enter Tryz.func8, Tryz.ntmps8
    go_wp2_with fail
    refine (c2.out _).mono ?_
    rintro e w' ⟨rfl, rfl⟩
    go_wp2_with fail
    refine (c3.out _).mono ?_
    rintro e w' ⟨rfl, rfl⟩
    go_wp2
    go_ret
    exact ⟨ret_bool E1.out.symm, (Below.refl _ _).alloc (Nat.le_refl _) _⟩
  obtain ⟨wo, hwo⟩ : ∃ d, r.wo = d := ⟨_, rfl⟩
  obtain ⟨me, hme⟩ : ∃ d, r.me = d := ⟨_, rfl⟩
  have E2 := Lib.hid (show okK r = ((wo || me) && (decide (1 ≤ r.co ∧ r.co ≤ 20) && decide (1 ≤ r.mo ∧ r.mo ≤ 500))) from by rw [E1.out, hwo, hme]; rfl)
  rw [hwo] at p4
  rw [hme] at p5
  clear E1
  cases wo
  case false =>
    cases me
    case false =>
      go_enter Tryz.func8, Tryz.ntmps8
      go_wp2_with fail
      refine (c2.out _).mono ?_
      rintro e w' ⟨rfl, rfl⟩
      go_wp2_with fail
      refine (c3.out _).mono ?_
      rintro e w' ⟨rfl, rfl⟩
      go_wp2
      go_ret
      exact ⟨ret_bool E2.out.symm, (Below.refl _ _).alloc (Nat.le_refl _) _⟩
    case true =>
      by_cases a3 : 1 ≤ r.co
      case neg =>
        have HE := Lib.hid (show okK r = false from by rw [E2.out, decide_eq_false (fun h : 1 ≤ r.co ∧ r.co ≤ 20 => a3 h.1)]; simp)
        go_enter Tryz.func8, Tryz.ntmps8
        go_wp2_with fail
        refine (c2.out _).mono ?_
        rintro e w' ⟨rfl, rfl⟩
        go_wp2_with fail
        refine (c3.out _).mono ?_
        rintro e w' ⟨rfl, rfl⟩
        go_wp2
        go_ret
        exact ⟨ret_bool HE.out.symm, (Below.refl _ _).alloc (Nat.le_refl _) _⟩
      by_cases a4 : r.co ≤ 20
      case neg =>
        have HE := Lib.hid (show okK r = false from by rw [E2.out, decide_eq_false (fun h : 1 ≤ r.co ∧ r.co ≤ 20 => a4 h.2)]; simp)
        go_enter Tryz.func8, Tryz.ntmps8
        go_wp2_with fail
        refine (c2.out _).mono ?_
        rintro e w' ⟨rfl, rfl⟩
        go_wp2_with fail
        refine (c3.out _).mono ?_
        rintro e w' ⟨rfl, rfl⟩
        go_wp2
        go_ret
        exact ⟨ret_bool HE.out.symm, (Below.refl _ _).alloc (Nat.le_refl _) _⟩
      by_cases a5 : 1 ≤ r.mo
      case neg =>
        have HE := Lib.hid (show okK r = false from by rw [E2.out, decide_eq_false (fun h : 1 ≤ r.mo ∧ r.mo ≤ 500 => a5 h.1)]; simp)
        go_enter Tryz.func8, Tryz.ntmps8
        go_wp2_with fail
        refine (c2.out _).mono ?_
        rintro e w' ⟨rfl, rfl⟩
        go_wp2_with fail
        refine (c3.out _).mono ?_
        rintro e w' ⟨rfl, rfl⟩
        go_wp2
        go_ret
        exact ⟨ret_bool HE.out.symm, (Below.refl _ _).alloc (Nat.le_refl _) _⟩
      have HE := Lib.hid (show okK r = decide (r.mo ≤ 500) from by rw [E2.out, decide_eq_true (And.intro a3 a4)]; simp [a5])
      go_enter Tryz.func8, Tryz.ntmps8
      go_wp2_with fail
      refine (c2.out _).mono ?_
      rintro e w' ⟨rfl, rfl⟩
      go_wp2_with fail
      refine (c3.out _).mono ?_
      rintro e w' ⟨rfl, rfl⟩
      go_wp2
      go_ret
      exact ⟨ret_bool HE.out.symm, (Below.refl _ _).alloc (Nat.le_refl _) _⟩
  by_cases a3 : 1 ≤ r.co
  case neg =>
    have HE := Lib.hid (show okK r = false from by rw [E2.out, decide_eq_false (fun h : 1 ≤ r.co ∧ r.co ≤ 20 => a3 h.1)]; simp)
    go_enter Tryz.func8, Tryz.ntmps8
    go_wp2_with fail
    refine (c2.out _).mono ?_
    rintro e w' ⟨rfl, rfl⟩
    go_wp2_with fail
    refine (c3.out _).mono ?_
    rintro e w' ⟨rfl, rfl⟩
    go_wp2
    go_ret
    exact ⟨ret_bool HE.out.symm, (Below.refl _ _).alloc (Nat.le_refl _) _⟩
  by_cases a4 : r.co ≤ 20
  case neg =>
    have HE := Lib.hid (show okK r = false from by rw [E2.out, decide_eq_false (fun h : 1 ≤ r.co ∧ r.co ≤ 20 => a4 h.2)]; simp)
    go_enter Tryz.func8, Tryz.ntmps8
    go_wp2_with fail
    refine (c2.out _).mono ?_
    rintro e w' ⟨rfl, rfl⟩
    go_wp2_with fail
    refine (c3.out _).mono ?_
    rintro e w' ⟨rfl, rfl⟩
    go_wp2
    go_ret
    exact ⟨ret_bool HE.out.symm, (Below.refl _ _).alloc (Nat.le_refl _) _⟩
  by_cases a5 : 1 ≤ r.mo
  case neg =>
    have HE := Lib.hid (show okK r = false from by rw [E2.out, decide_eq_false (fun h : 1 ≤ r.mo ∧ r.mo ≤ 500 => a5 h.1)]; simp)
    go_enter Tryz.func8, Tryz.ntmps8
    go_wp2_with fail
    refine (c2.out _).mono ?_
    rintro e w' ⟨rfl, rfl⟩
    go_wp2_with fail
    refine (c3.out _).mono ?_
    rintro e w' ⟨rfl, rfl⟩
    go_wp2
    go_ret
    exact ⟨ret_bool HE.out.symm, (Below.refl _ _).alloc (Nat.le_refl _) _⟩
  have HE := Lib.hid (show okK r = decide (r.mo ≤ 500) from by rw [E2.out, decide_eq_true (And.intro a3 a4)]; simp [a5])
  go_enter Tryz.func8, Tryz.ntmps8
  go_wp2_with fail
  refine (c2.out _).mono ?_
  rintro e w' ⟨rfl, rfl⟩
  go_wp2_with fail
  refine (c3.out _).mono ?_
  rintro e w' ⟨rfl, rfl⟩
  go_wp2
  go_ret
  exact ⟨ret_bool HE.out.symm, (Below.refl _ _).alloc (Nat.le_refl _) _⟩

end Go.Proofs.YtleoljnofdajfaaGreatDoor.KlI
