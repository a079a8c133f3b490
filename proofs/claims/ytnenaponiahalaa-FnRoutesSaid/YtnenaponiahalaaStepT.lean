/- The time of a step: the model and the program. -/
import Derived.Test.YtnenaponiahalaaCellN
import Derived.Test.YtnenaponiahalaaShelf
namespace Go.Proofs.Ytnenaponiahalaa.StepT
open Go.RowKit Lb IntS MapS MapV High Cells
open Go.Proofs.Ytnenaponiahalaa.Next (below_drewN bAD)
set_option linter.unusedSimpArgs false
set_option linter.unusedVariables false

theorem cont_any (a : Option Addr) (cap : Nat) (zs : List Int) (x : Int) (w : World) (hr : IRow w a zs) (hl : zs.length ≤ 4) :
    Calls Try.prog 86 #[.slice a zs.length cap, .int .i64 x] w fun e w' => e = .returned (.bool (decide (x ∈ zs))) ∧ w' = w := by
  rcases hr with h0 | ⟨b, off, rfl, hc⟩
  · have e : zs = [] := List.eq_nil_of_length_eq_zero h0
    subst e
    have := Try.slices_Contains_int_empty a cap x w
    simpa using this
  · have := Try.slices_Contains_int b off zs.length cap zs x w (Nat.le_refl _) (by omega) hc
    rw [List.take_length] at this
    rwa [show zs.contains x = decide (x ∈ zs) from by simp] at this

set_option maxHeartbeats 1000000 in
theorem has_any (a : Option Addr) (cap : Nat) (zs : List Int) (x : Int) (w : World) (hr : IRow w a zs) (hl : zs.length ≤ maxLen) :
    Calls Try.prog 138 #[.slice a zs.length cap, .int .i64 x] w fun e w' => e = .returned (.bool (decide (x ∈ zs))) ∧ w' = w := by
  unfold maxLen at hl
  go_enter Try.func138, Try.ntmps138
  go_wp2
  go_loop [5] (fun i => ∃ k : Nat, k ≤ zs.length ∧ i = .int .i64 k ∧ ∀ j, j < k → zAt zs j ≠ x) (fun i => zs.length - (intOf i).toNat)
  case atStart => exact ⟨0, Nat.zero_le _, rfl, fun j h => by omega⟩
  case round =>
    obtain ⟨k, hk, rfl, hno⟩ := hrel
    by_cases hlt : k < zs.length
    · rcases hr with h0 | ⟨b, off, rfl, hc⟩
      · omega
      have g := hc k hlt
      clear hc
      by_cases he : zAt zs k = x
      · have hb : (zAt zs k == x) = true := by simpa using he
        have HH := Lib.hid (show decide (x ∈ zs) = true from by
          rw [decide_eq_true_iff, ← he]
          simp [zAt, hlt])
        clear hno he
        go_wp2
        go_ret
        exact ⟨ret_bool HH.out.symm, rfl⟩
      · have hb : (zAt zs k == x) = false := by simpa using he
        have HN := Lib.hid (all_succ (p := fun j => zAt zs j ≠ x) hno he)
        clear hno he
        go_wp2
        go_round
        case rel => exact ⟨k + 1, by omega, by go_num, HN.out⟩
        case measure => simp [intOf]; omega
    · have HH := Lib.hid (show decide (x ∈ zs) = false from by
        rw [decide_eq_false_iff_not]
        intro h
        obtain ⟨j, hj, e⟩ := List.mem_iff_getElem.1 h
        exact hno j (by omega) (by simp [zAt, hj, e]))
      clear hno
      go_wp2
      go_ret
      exact ⟨ret_bool HH.out.symm, rfl⟩

def mostOf (a b : Int) : Int := if b < a then a else b
theorem mostOf_eq (a b : Int) : (b < a ∧ mostOf a b = a) ∨ (a ≤ b ∧ mostOf a b = b) := by
  unfold mostOf
  split <;> omega
theorem most_any (a b : Int) (w : World) : Calls Try.prog 141 #[.int .i64 a, .int .i64 b] w fun e w' => e = .returned (.int .i64 (mostOf a b)) ∧ w' = w := by
  by_cases h : b < a
  · have H := Lib.hid (show mostOf a b = a from if_pos h)
    go_enter Try.func141, Try.ntmps141
    go_wp2
    go_ret
    exact ⟨ret_int H.out.symm, rfl⟩
  · have H := Lib.hid (show mostOf a b = b from if_neg h)
    have h' : decide (b < a) = false := by simpa using h
    clear h
    go_enter Try.func141, Try.ntmps141
    go_wp2
    go_ret
    exact ⟨ret_int H.out.symm, rfl⟩
theorem most_later (a b : Int) (w : World) (k n : Nat) : Calls Try.prog 141 #[.int .i64 a, .int .i64 b] (w.drewN (k + n)) fun e w'' => e = .returned (.int .i64 (mostOf a b)) ∧ ∃ j, w'' = w.drewN (k + j) :=
  (most_any a b _).mono fun e w' ⟨he, hw⟩ => ⟨he, n, hw⟩
theorem most_bd (a b : Int) (lo hi : Int) (h1 : lo ≤ a) (h2 : a ≤ hi) (h4 : b ≤ hi) : lo ≤ mostOf a b ∧ mostOf a b ≤ hi := by
  have := mostOf_eq a b
  omega

theorem stp_up (m : Mp) (a b : Nat) (h : 0 < zAt m.R b - zAt m.R a) : zAt m.C b + 2 * (zAt m.R b - zAt m.R a) = stp m a b := by
  unfold stp
  rw [if_pos h]

set_option maxHeartbeats 1000000 in
theorem spec_step (m : Mp) (ww hh : Nat) (g : GoodM m ww hh) (a b : Option Addr) (ca cb : Nat) (c d : Nat) (w : World) (hr : IRow w a m.R) (hc : IRow w b m.C) (h1 : c < ww * hh) (h2 : d < ww * hh) :
    Calls Try.prog 133 #[.agg #[.int .i64 m.W, .int .i64 m.H, .slice a m.R.length ca, .slice b m.C.length cb], .int .i64 c, .int .i64 d] w fun e w' => e = .returned (.int .i64 (stp m c d)) ∧ Below w.heap.size w w' := by
  have HB := Lib.hid ((Below.refl w.heap.size w).alloc (Nat.le_refl _) (.cells #[.int .i64 m.W, .int .i64 m.H, .slice a m.R.length ca, .slice b m.C.length cb] 26))
  have n36 := g.n36
  obtain ⟨c1, c2, c3, c4⟩ := g.cell c h1
  obtain ⟨d1, d2, d3, d4⟩ := g.cell d h2
  have hcR : c < m.R.length := by rw [g.R]; exact h1
  have hdR : d < m.R.length := by rw [g.R]; exact h2
  have hdC : d < m.C.length := by rw [g.C]; exact h2
  have m1 := most_bd 0 (zAt m.R d - zAt m.R c) 0 9 (by omega) (by omega) (by omega)
  have m2 := most_bd 0 (-(zAt m.R d - zAt m.R c) - 2) 0 9 (by omega) (by omega) (by omega)
  rcases RowAt.below hr HB.out with h0 | ⟨b1, off1, rfl, hr1⟩
  · omega
  rcases RowAt.below hc HB.out with h0 | ⟨b2, off2, rfl, hc2⟩
  · omega
  have g1 := hr1 c hcR
  have g2 := hr1 d hdR
  have g3 := hc2 d hdC
  clear hr hc hr1 hc2 g
  go_enter Try.func133, Try.ntmps133
  go_wp2
  go_quiet (fail)
  go_wp2
  go_quiet ((go_at_call 141; exact most_later _ _ _ _ _))
  go_wp2
  go_ret
  refine ⟨ret_int ?_, below_drewN (below_drewN HB.out _) _⟩
  have e1 := mostOf_eq 0 (zAt m.R d - zAt m.R c)
  have e2 := mostOf_eq 0 (-(zAt m.R d - zAt m.R c) - 2)
  show zAt m.C d + 2 * mostOf 0 (zAt m.R d - zAt m.R c) + mostOf 0 (-(zAt m.R d - zAt m.R c) - 2) = _
  unfold stp
  split <;> (try split) <;> omega

set_option maxHeartbeats 1000000 in
theorem impl_step (m : Mp) (ww hh : Nat) (g : GoodM m ww hh) (a b : Option Addr) (ca cb : Nat) (c d : Nat) (w : World) (hr : IRow w a m.R) (hc : IRow w b m.C) (h1 : c < ww * hh) (h2 : d < ww * hh) :
    Calls Try.prog 78 #[.agg #[.int .i64 m.W, .int .i64 m.H, .slice a m.R.length ca, .slice b m.C.length cb], .int .i64 c, .int .i64 d] w fun e w' => e = .returned (.int .i64 (stp m c d)) ∧ Below w.heap.size w w' := by
  have HB := Lib.hid ((Below.refl w.heap.size w).alloc (Nat.le_refl _) (.cells #[.int .i64 m.W, .int .i64 m.H, .slice a m.R.length ca, .slice b m.C.length cb] 26))
  have n36 := g.n36
  obtain ⟨c1, c2, c3, c4⟩ := g.cell c h1
  obtain ⟨d1, d2, d3, d4⟩ := g.cell d h2
  have hcR : c < m.R.length := by rw [g.R]; exact h1
  have hdR : d < m.R.length := by rw [g.R]; exact h2
  have hdC : d < m.C.length := by rw [g.C]; exact h2
  rcases RowAt.below hr HB.out with h0 | ⟨b1, off1, rfl, hr1⟩
  · omega
  rcases RowAt.below hc HB.out with h0 | ⟨b2, off2, rfl, hc2⟩
  · omega
  have g1 := hr1 c hcR
  have g2 := hr1 d hdR
  have g3 := hc2 d hdC
  clear hr hc hr1 hc2 g
  by_cases hup : 0 < zAt m.R d - zAt m.R c
  · have HS := Lib.hid (stp_up m c d hup)
    go_enter Try.func78, Try.ntmps78
    go_wp2
    go_quiet (fail)
    go_wp2
    go_ret
    exact ⟨ret_int (by show zAt m.C d + 2 * (zAt m.R d - zAt m.R c) = _; exact HS.out), below_drewN HB.out _⟩
  · have hup' : decide (0 < zAt m.R d - zAt m.R c) = false := by simpa using hup
    have HS := Lib.hid (show zAt m.C d + max 0 (-(zAt m.R d - zAt m.R c) - 2) = stp m c d from by unfold stp; rw [if_neg hup]; split <;> omega)
    go_enter Try.func78, Try.ntmps78
    go_wp2
    go_quiet (fail)
    go_wp2
    go_ret
    refine ⟨ret_int ?_, below_drewN HB.out _⟩
    refine Eq.trans ?_ HS.out
    simp

theorem sopen_yes (m : Mp) (ww hh : Nat) (g : GoodM m ww hh) (a b : Option Addr) (ca cb : Nat) (c : Nat) (w : World) (hc : IRow w b m.C) (h1 : c < ww * hh) (ho : 0 < zAt m.C c) :
    Calls Try.prog 131 #[.agg #[.int .i64 m.W, .int .i64 m.H, .slice a m.R.length ca, .slice b m.C.length cb], .int .i64 c] w fun e w' => e = .returned (.bool true) ∧ Below w.heap.size w w' := by
  have HB := Lib.hid ((Below.refl w.heap.size w).alloc (Nat.le_refl _) (.cells #[.int .i64 m.W, .int .i64 m.H, .slice a m.R.length ca, .slice b m.C.length cb] 26))
  have HK := Lib.hid (Blk.new w 26 #[.int .i64 m.W, .int .i64 m.H, .slice a m.R.length ca, .slice b m.C.length cb])
  have n36 := g.n36
  have hdC : c < m.C.length := by rw [g.C]; exact h1
  have HD := Lib.hid (decide_eq_true (show (0 : Int) ≤ (c : Int) ∧ (c : Int) < ((ww * hh : Nat) : Int) from by omega))
  go_enter Try.func131, Try.ntmps131
  go_wp2_with fail
  refine (scell m ww hh g a b ca cb c _).mono ?_
  rw [HD.out]
  rintro e w2 ⟨rfl, hb2⟩
  have HB2 := Lib.hid (HB.out.trans (hb2.mono (by simp)))
  have HK2 := Lib.hid (HK.out.later hb2)
  clear hb2
  obtain ⟨p0, p1, p2, p3, -⟩ := HK2.out.four
  rcases RowAt.below hc HB2.out with h0 | ⟨b2, off2, rfl, hc2⟩
  · omega
  have g3 := hc2 c hdC
  clear hc2
  go_wp2
  go_ret
  exact ⟨rfl, HB2.out⟩
theorem sopen_shut (m : Mp) (ww hh : Nat) (g : GoodM m ww hh) (a b : Option Addr) (ca cb : Nat) (c : Nat) (w : World) (hc : IRow w b m.C) (h1 : c < ww * hh) (ho : ¬ 0 < zAt m.C c) :
    Calls Try.prog 131 #[.agg #[.int .i64 m.W, .int .i64 m.H, .slice a m.R.length ca, .slice b m.C.length cb], .int .i64 c] w fun e w' => e = .returned (.bool false) ∧ Below w.heap.size w w' := by
  have HB := Lib.hid ((Below.refl w.heap.size w).alloc (Nat.le_refl _) (.cells #[.int .i64 m.W, .int .i64 m.H, .slice a m.R.length ca, .slice b m.C.length cb] 26))
  have HK := Lib.hid (Blk.new w 26 #[.int .i64 m.W, .int .i64 m.H, .slice a m.R.length ca, .slice b m.C.length cb])
  have n36 := g.n36
  have hdC : c < m.C.length := by rw [g.C]; exact h1
  have HD := Lib.hid (decide_eq_true (show (0 : Int) ≤ (c : Int) ∧ (c : Int) < ((ww * hh : Nat) : Int) from by omega))
  have ho' : decide (0 < zAt m.C c) = false := by simpa using ho
  go_enter Try.func131, Try.ntmps131
  go_wp2_with fail
  refine (scell m ww hh g a b ca cb c _).mono ?_
  rw [HD.out]
  rintro e w2 ⟨rfl, hb2⟩
  have HB2 := Lib.hid (HB.out.trans (hb2.mono (by simp)))
  have HK2 := Lib.hid (HK.out.later hb2)
  clear hb2
  obtain ⟨p0, p1, p2, p3, -⟩ := HK2.out.four
  rcases RowAt.below hc HB2.out with h0 | ⟨b2, off2, rfl, hc2⟩
  · omega
  have g3 := hc2 c hdC
  clear hc2
  go_wp2
  go_ret
  exact ⟨rfl, HB2.out⟩
theorem sopen_out (m : Mp) (ww hh : Nat) (g : GoodM m ww hh) (a b : Option Addr) (ca cb : Nat) (c : Int) (w : World) (h1 : ¬ (0 ≤ c ∧ c < ((ww * hh : Nat) : Int))) :
    Calls Try.prog 131 #[.agg #[.int .i64 m.W, .int .i64 m.H, .slice a m.R.length ca, .slice b m.C.length cb], .int .i64 c] w fun e w' => e = .returned (.bool false) ∧ Below w.heap.size w w' := by
  have HB := Lib.hid ((Below.refl w.heap.size w).alloc (Nat.le_refl _) (.cells #[.int .i64 m.W, .int .i64 m.H, .slice a m.R.length ca, .slice b m.C.length cb] 26))
  have HD := Lib.hid (decide_eq_false h1)
  clear h1
  go_enter Try.func131, Try.ntmps131
  go_wp2_with fail
  refine (scell m ww hh g a b ca cb c _).mono ?_
  rw [HD.out]
  rintro e w2 ⟨rfl, hb2⟩
  have HB2 := Lib.hid (HB.out.trans (hb2.mono (by simp)))
  clear hb2
  go_wp2
  go_ret
  exact ⟨rfl, HB2.out⟩
/-- Whether a cell is open, whatever its number. -/
theorem sopen (m : Mp) (ww hh : Nat) (g : GoodM m ww hh) (c : Int) : ∃ o : Bool, (o = true ↔ ∃ k : Nat, c = k ∧ k < ww * hh ∧ 0 < zAt m.C k) ∧ ∀ a b ca cb w, IRow w b m.C →
    Calls Try.prog 131 #[.agg #[.int .i64 m.W, .int .i64 m.H, .slice a m.R.length ca, .slice b m.C.length cb], .int .i64 c] w fun e w' => e = .returned (.bool o) ∧ Below w.heap.size w w' := by
  by_cases h1 : 0 ≤ c ∧ c < ((ww * hh : Nat) : Int)
  · obtain ⟨k, rfl⟩ : ∃ k : Nat, c = k := ⟨c.toNat, by omega⟩
    have hk : k < ww * hh := by omega
    by_cases ho : 0 < zAt m.C k
    · exact ⟨true, ⟨fun _ => ⟨k, rfl, hk, ho⟩, fun _ => rfl⟩, fun a b ca cb w hc => sopen_yes m ww hh g a b ca cb k w hc hk ho⟩
    · refine ⟨false, ⟨(fun e => by cases e), fun ⟨j, e, _, h⟩ => ?_⟩, fun a b ca cb w hc => sopen_shut m ww hh g a b ca cb k w hc hk ho⟩
      obtain rfl : k = j := by omega
      exact absurd h ho
  · refine ⟨false, ⟨(fun e => by cases e), fun ⟨j, e, h, _⟩ => ?_⟩, fun a b ca cb w hc => sopen_out m ww hh g a b ca cb c w h1⟩
    omega

end Go.Proofs.Ytnenaponiahalaa.StepT
