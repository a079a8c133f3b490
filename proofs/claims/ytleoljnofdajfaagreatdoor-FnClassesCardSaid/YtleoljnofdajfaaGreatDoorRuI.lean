/- Whether a Runner is valid: both texts. -/
import Derived.Test.YtleoljnofdajfaaGreatDoorWd
import Derived.Test.YtleoljnofdajfaaGreatDoorRuS
namespace Go.Proofs.YtleoljnofdajfaaGreatDoor.RuI
open Go.RowKit Lb Bk InA Wd RuK
set_option linter.unusedSimpArgs false
set_option linter.unusedVariables false

/-- Whether a Runner is valid. -/
def okR (r : Ru) : Bool := decide (1 ≤ r.id ∧ r.id ≤ 999) && (wordB r.nm && (wordB r.cl && (decide (1920 ≤ r.bo ∧ r.bo ≤ 2020) && decide (0 ≤ r.ca ∧ r.ca ≤ 9999))))

set_option maxRecDepth 20000 in
set_option maxHeartbeats 2000000 in
theorem spec_one (r : Ru) (hr : Is r) (w : World) :
    Calls Tryz.prog 46 #[.agg #[.int .i64 r.id, .string r.nm, .string r.cl, .int .i64 r.bo, .bool r.wo, .int .i64 r.ca]] w fun e w' => e = .returned (.bool (okR r)) ∧ Below w.heap.size w w' := by
  have HB := Lib.hid ((Below.refl w.heap.size w).alloc (Nat.le_refl _) (.cells #[.int .i64 r.id, .string r.nm, .string r.cl, .int .i64 r.bo, .bool r.wo, .int .i64 r.ca] 35))
  obtain ⟨d1, h1⟩ : ∃ d, decide (1 ≤ r.id ∧ r.id ≤ 999) = d := ⟨_, rfl⟩
  obtain ⟨n1, h2⟩ : ∃ d, wordB r.nm = d := ⟨_, rfl⟩
  obtain ⟨n2, h3⟩ : ∃ d, wordB r.cl = d := ⟨_, rfl⟩
  obtain ⟨d4, h4⟩ : ∃ d, decide (1920 ≤ r.bo ∧ r.bo ≤ 2020) = d := ⟨_, rfl⟩
  obtain ⟨d5, h5⟩ : ∃ d, decide (0 ≤ r.ca ∧ r.ca ≤ 9999) = d := ⟨_, rfl⟩
  have c1 := Lib.hid (fun w => h1 ▸ in_any r.id 1 999 w)
  have c2 := Lib.hid (fun w => h2 ▸ Wd.spec_any r.nm w hr.nm)
  have c3 := Lib.hid (fun w => h3 ▸ Wd.spec_any r.cl w hr.cl)
  have c4 := Lib.hid (fun w => h4 ▸ in_any r.bo 1920 2020 w)
  have c5 := Lib.hid (fun w => h5 ▸ in_any r.ca 0 9999 w)
  have HE := Lib.hid (show okR r = (d1 && (n1 && (n2 && (d4 && d5)))) from by unfold okR; rw [h1, h2, h3, h4, h5])
  clear h1 h2 h3 h4 h5 hr
  obtain ⟨⟨p0, p1, p2, p3, p4, p5⟩, -⟩ := blk_cells (Blk.new w 35 #[.int .i64 r.id, .string r.nm, .string r.cl, .int .i64 r.bo, .bool r.wo, .int .i64 r.ca])
  cases d1
  case false =>
    go_enter Tryz.func46, Tryz.ntmps46
    go_wp2_with fail
    refine (c1.out _).mono ?_
    rintro e w' ⟨rfl, rfl⟩
    go_wp2
    go_ret
    exact ⟨ret_bool HE.out.symm, HB.out⟩
  cases n1
  case false =>
    go_enter Tryz.func46, Tryz.ntmps46
    go_wp2_with fail
    refine (c1.out _).mono ?_
    rintro e w' ⟨rfl, rfl⟩
    go_wp2_with fail
    refine (c2.out _).mono ?_
    rintro e w' ⟨rfl, rfl⟩
    go_wp2
    go_ret
    exact ⟨ret_bool HE.out.symm, HB.out⟩
  cases n2
  case false =>
    go_enter Tryz.func46, Tryz.ntmps46
    go_wp2_with fail
    refine (c1.out _).mono ?_
    rintro e w' ⟨rfl, rfl⟩
    go_wp2_with fail
    refine (c2.out _).mono ?_
    rintro e w' ⟨rfl, rfl⟩
    go_wp2_with fail
    refine (c3.out _).mono ?_
    rintro e w' ⟨rfl, rfl⟩
    go_wp2
    go_ret
    exact ⟨ret_bool HE.out.symm, HB.out⟩
  cases d4
  case false =>
    go_enter Tryz.func46, Tryz.ntmps46
    go_wp2_with fail
    refine (c1.out _).mono ?_
    rintro e w' ⟨rfl, rfl⟩
    go_wp2_with fail
    refine (c2.out _).mono ?_
    rintro e w' ⟨rfl, rfl⟩
    go_wp2_with fail
    refine (c3.out _).mono ?_
    rintro e w' ⟨rfl, rfl⟩
    go_wp2_with fail
    refine (c4.out _).mono ?_
    rintro e w' ⟨rfl, rfl⟩
    go_wp2
    go_ret
    exact ⟨ret_bool HE.out.symm, HB.out⟩
  cases d5
  all_goals
    go_enter Tryz.func46, Tryz.ntmps46
    go_wp2_with fail
    refine (c1.out _).mono ?_
    rintro e w' ⟨rfl, rfl⟩
    go_wp2_with fail
    refine (c2.out _).mono ?_
    rintro e w' ⟨rfl, rfl⟩
    go_wp2_with fail
    refine (c3.out _).mono ?_
    rintro e w' ⟨rfl, rfl⟩
    go_wp2_with fail
    refine (c4.out _).mono ?_
    rintro e w' ⟨rfl, rfl⟩
    go_wp2_with fail
    refine (c5.out _).mono ?_
    rintro e w' ⟨rfl, rfl⟩
    go_wp2
    go_ret
    exact ⟨ret_bool HE.out.symm, HB.out⟩

set_option maxHeartbeats 1000000 in
theorem card_any (c : Int) (w : World) : Calls Tryz.prog 70 #[.int .i64 c] w fun e w' => e = .returned (.bool (decide (1 ≤ c ∧ c ≤ 9999))) ∧ w' = w := by
  by_cases h1 : 1 ≤ c
  · have h2 : decide (1 ≤ c ∧ c ≤ 9999) = decide (c ≤ 9999) := by simp [h1]
    have HE := Lib.hid h2
    clear h2
    go_enter Tryz.func70, Tryz.ntmps70
    go_wp2
    go_ret
    exact ⟨ret_bool (by first | exact HE.out.symm | (rw [← HE.out]; simp)), rfl⟩
  · have h2 : decide (1 ≤ c ∧ c ≤ 9999) = false := decide_eq_false fun h => h1 h.1
    have HE := Lib.hid h2
    clear h2
    go_enter Tryz.func70, Tryz.ntmps70
    go_wp2
    go_ret
    exact ⟨ret_bool (by first | exact HE.out.symm | (rw [← HE.out]; simp)), rfl⟩

set_option maxRecDepth 20000 in
set_option maxHeartbeats 4000000 in
theorem impl_any (r : Ru) (hr : Is r) (w : World) :
    Calls Tryz.prog 41 #[.agg #[.int .i64 r.id, .string r.nm, .string r.cl, .int .i64 r.bo, .bool r.wo, .int .i64 r.ca]] w fun e w' => e = .returned (.bool (okR r)) ∧ Below w.heap.size w w' := by
  have HB := Lib.hid ((Below.refl w.heap.size w).alloc (Nat.le_refl _) (.cells #[.int .i64 r.id, .string r.nm, .string r.cl, .int .i64 r.bo, .bool r.wo, .int .i64 r.ca] 35))
  obtain ⟨⟨p0, p1, p2, p3, p4, p5⟩, -⟩ := blk_cells (Blk.new w 35 #[.int .i64 r.id, .string r.nm, .string r.cl, .int .i64 r.bo, .bool r.wo, .int .i64 r.ca])
  by_cases a1 : 1 ≤ r.id
  case neg =>
    have HE := Lib.hid (show okR r = false from by unfold okR; rw [decide_eq_false (fun h : 1 ≤ r.id ∧ r.id ≤ 999 => a1 h.1)]; rfl)
    go_enter Tryz.func41, Tryz.ntmps41
    go_wp2
    go_ret
    exact ⟨ret_bool HE.out.symm, HB.out⟩
  by_cases a2 : r.id ≤ 999
  case neg =>
    have HE := Lib.hid (show okR r = false from by unfold okR; rw [decide_eq_false (fun h : 1 ≤ r.id ∧ r.id ≤ 999 => a2 h.2)]; rfl)
    go_enter Tryz.func41, Tryz.ntmps41
    go_wp2
    go_ret
    exact ⟨ret_bool HE.out.symm, HB.out⟩
  have E0 := Lib.hid (show okR r = (wordB r.nm && (wordB r.cl && (decide (1920 ≤ r.bo ∧ r.bo ≤ 2020) && decide (0 ≤ r.ca ∧ r.ca ≤ 9999)))) from by unfold okR; rw [decide_eq_true (And.intro a1 a2)]; rfl)
  obtain ⟨n1, h2⟩ : ∃ d, wordB r.nm = d := ⟨_, rfl⟩
  obtain ⟨n2, h3⟩ : ∃ d, wordB r.cl = d := ⟨_, rfl⟩
  have c2 := Lib.hid (fun w => h2 ▸ Wd.impl_any r.nm w hr.nm)
  have c3 := Lib.hid (fun w => h3 ▸ Wd.impl_any r.cl w hr.cl)
  have E1 := Lib.hid (show okR r = (n1 && (n2 && (decide (1920 ≤ r.bo ∧ r.bo ≤ 2020) && decide (0 ≤ r.ca ∧ r.ca ≤ 9999)))) from by rw [E0.out, h2, h3])
  clear E0 h2 h3 hr
  cases n1
  case false =>
    go_enter Tryz.func41, Tryz.ntmps41
    go_wp2_with fail
    refine (c2.out _).mono ?_
    rintro e w' ⟨rfl, rfl⟩
    go_wp2
    go_ret
    exact ⟨ret_bool E1.out.symm, HB.out⟩
  cases n2
  case false =>
    go_enter Tryz.func41, Tryz.ntmps41
    go_wp2_with fail
    refine (c2.out _).mono ?_
    rintro e w' ⟨rfl, rfl⟩
    go_wp2_with fail
    refine (c3.out _).mono ?_
    rintro e w' ⟨rfl, rfl⟩
    go_wp2
    go_ret
    exact ⟨ret_bool E1.out.symm, HB.out⟩
  by_cases a3 : 1920 ≤ r.bo
  case neg =>
    have HE := Lib.hid (show okR r = false from by rw [E1.out, decide_eq_false (fun h : 1920 ≤ r.bo ∧ r.bo ≤ 2020 => a3 h.1)]; rfl)
    go_enter Tryz.func41, Tryz.ntmps41
    go_wp2_with fail
    refine (c2.out _).mono ?_
    rintro e w' ⟨rfl, rfl⟩
    go_wp2_with fail
    refine (c3.out _).mono ?_
    rintro e w' ⟨rfl, rfl⟩
    go_wp2
    go_ret
    exact ⟨ret_bool HE.out.symm, HB.out⟩
  by_cases a4 : r.bo ≤ 2020
  case neg =>
    have HE := Lib.hid (show okR r = false from by rw [E1.out, decide_eq_false (fun h : 1920 ≤ r.bo ∧ r.bo ≤ 2020 => a4 h.2)]; rfl)
    go_enter Tryz.func41, Tryz.ntmps41
    go_wp2_with fail
    refine (c2.out _).mono ?_
    rintro e w' ⟨rfl, rfl⟩
    go_wp2_with fail
    refine (c3.out _).mono ?_
    rintro e w' ⟨rfl, rfl⟩
    go_wp2
    go_ret
    exact ⟨ret_bool HE.out.symm, HB.out⟩
  have E2 := Lib.hid (show okR r = decide (0 ≤ r.ca ∧ r.ca ≤ 9999) from by rw [E1.out, decide_eq_true (And.intro a3 a4)]; rfl)
  by_cases a5 : r.ca = 0
  · have HE := Lib.hid (show okR r = true from by rw [E2.out]; exact decide_eq_true (by omega))
    have a5' : (r.ca == 0) = true := by simpa using a5
    clear a5
    go_enter Tryz.func41, Tryz.ntmps41
    go_wp2_with fail
    refine (c2.out _).mono ?_
    rintro e w' ⟨rfl, rfl⟩
    go_wp2_with fail
    refine (c3.out _).mono ?_
    rintro e w' ⟨rfl, rfl⟩
    go_wp2
    go_ret
    exact ⟨ret_bool HE.out.symm, HB.out⟩
  · have a5' : (r.ca == 0) = false := by simpa using a5
    obtain ⟨d, hd⟩ : ∃ d, decide (1 ≤ r.ca ∧ r.ca ≤ 9999) = d := ⟨_, rfl⟩
    have HE := Lib.hid (show okR r = d from by
      rw [E2.out, ← hd]
      exact Bool.eq_iff_iff.2 (by simp only [decide_eq_true_eq]; omega))
    have c5 := Lib.hid (fun w => hd ▸ card_any r.ca w)
    clear a5 hd
    go_enter Tryz.func41, Tryz.ntmps41
    go_wp2_with fail
    refine (c2.out _).mono ?_
    rintro e w' ⟨rfl, rfl⟩
    go_wp2_with fail
    refine (c3.out _).mono ?_
    rintro e w' ⟨rfl, rfl⟩
    go_wp2_with fail
    refine (c5.out _).mono ?_
    rintro e w' ⟨rfl, rfl⟩
    go_wp2
    go_ret
    exact ⟨ret_bool HE.out.symm, HB.out⟩

end Go.Proofs.YtleoljnofdajfaaGreatDoor.RuI
