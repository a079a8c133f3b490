/- Whether a Class admits a Runner: both texts; DoesAdmit. -/
import Derived.Test.YtleoljnofdajfaaGreatDoorKlI
import Derived.Test.YtleoljnofdajfaaGreatDoorRuE
import Derived.Test.YtleoljnofdajfaaGreatDoorRuK
namespace Go.Proofs.YtleoljnofdajfaaGreatDoor.KaD
open Go.RowKit Lb Bk InA Wd KlI
set_option linter.unusedSimpArgs false
set_option linter.unusedVariables false

def sexB (c : Kl) (woman : Bool) : Bool := if woman then c.wo else c.me
def admB (c : Kl) (age : Int) (woman : Bool) : Bool := decide (c.lo ≤ age ∧ age ≤ c.hi) && sexB c woman
def admR (c : Kl) (r : Ru) : Bool := admB c (2026 - r.bo) r.wo
theorem ok_bo {r : Ru} (h : RuI.okR r = true) : 1920 ≤ r.bo ∧ r.bo ≤ 2020 := by
  unfold RuI.okR at h
  simp at h
  omega

set_option maxHeartbeats 1000000 in
theorem sex_any (c : Kl) (woman : Bool) (w : World) : Calls Tryz.prog 77 #[.agg #[.int .i64 c.id, .string c.nm, .int .i64 c.lo, .int .i64 c.hi, .bool c.wo, .bool c.me, .int .i64 c.co, .int .i64 c.mo], .bool woman] w fun e w' => e = .returned (.bool (sexB c woman)) ∧ Below w.heap.size w w' := by
  obtain ⟨⟨p0, p1, p2, p3, p4, p5, p6, p7⟩, -⟩ := KlK.blk_cells (Blk.new w 25 #[.int .i64 c.id, .string c.nm, .int .i64 c.lo, .int .i64 c.hi, .bool c.wo, .bool c.me, .int .i64 c.co, .int .i64 c.mo])
  cases woman
  all_goals
    go_enter Tryz.func77, Tryz.ntmps77
    go_wp2
    go_ret
    exact ⟨ret_bool rfl, (Below.refl _ _).alloc (Nat.le_refl _) _⟩

set_option maxRecDepth 20000 in
set_option maxHeartbeats 4000000 in
theorem adm_impl (c : Kl) (r : Ru) (hb1 : 1920 ≤ r.bo) (hb2 : r.bo ≤ 2020) (w : World) :
    Calls Tryz.prog 50 #[.agg #[.int .i64 c.id, .string c.nm, .int .i64 c.lo, .int .i64 c.hi, .bool c.wo, .bool c.me, .int .i64 c.co, .int .i64 c.mo], .agg #[.int .i64 r.id, .string r.nm, .string r.cl, .int .i64 r.bo, .bool r.wo, .int .i64 r.ca]] w fun e w' => e = .returned (.bool (admR c r)) ∧ Below w.heap.size w w' := by
  have HB := Lib.hid (((Below.refl w.heap.size w).alloc (Nat.le_refl _) (.cells #[.int .i64 c.id, .string c.nm, .int .i64 c.lo, .int .i64 c.hi, .bool c.wo, .bool c.me, .int .i64 c.co, .int .i64 c.mo] 25)).alloc (by simp) (.cells #[.int .i64 r.id, .string r.nm, .string r.cl, .int .i64 r.bo, .bool r.wo, .int .i64 r.ca] 35))
  obtain ⟨⟨p0, p1, p2, p3, p4, p5, p6, p7⟩, -⟩ := KlK.blk_cells ((Blk.new w 25 #[.int .i64 c.id, .string c.nm, .int .i64 c.lo, .int .i64 c.hi, .bool c.wo, .bool c.me, .int .i64 c.co, .int .i64 c.mo]).alloc (.cells #[.int .i64 r.id, .string r.nm, .string r.cl, .int .i64 r.bo, .bool r.wo, .int .i64 r.ca] 35))
  obtain ⟨⟨q0, q1, q2, q3, q4, q5⟩, -⟩ := RuK.blk_cells (show Blk ((w.alloc (.cells #[.int .i64 c.id, .string c.nm, .int .i64 c.lo, .int .i64 c.hi, .bool c.wo, .bool c.me, .int .i64 c.co, .int .i64 c.mo] 25)).alloc (.cells #[.int .i64 r.id, .string r.nm, .string r.cl, .int .i64 r.bo, .bool r.wo, .int .i64 r.ca] 35)) (w.heap.size + 1) 35 #[.int .i64 r.id, .string r.nm, .string r.cl, .int .i64 r.bo, .bool r.wo, .int .i64 r.ca] from by simpa using Blk.new (w.alloc (.cells #[.int .i64 c.id, .string c.nm, .int .i64 c.lo, .int .i64 c.hi, .bool c.wo, .bool c.me, .int .i64 c.co, .int .i64 c.mo] 25)) 35 #[.int .i64 r.id, .string r.nm, .string r.cl, .int .i64 r.bo, .bool r.wo, .int .i64 r.ca])
  obtain ⟨a, ha⟩ : ∃ a, 2026 - r.bo = a := ⟨_, rfl⟩
  have CA := Lib.hid (fun w => ha ▸ RuE.age_any r hb1 hb2 w)
  obtain ⟨x, hx⟩ : ∃ x, sexB c r.wo = x := ⟨_, rfl⟩
  have CX := Lib.hid (fun w => hx ▸ sex_any c r.wo w)
  obtain ⟨o, ho⟩ : ∃ o, admR c r = o := ⟨_, rfl⟩
  have HO := Lib.hid (show (decide (c.lo ≤ a ∧ a ≤ c.hi) && x) = o from by rw [← ho, ← ha, ← hx]; rfl)
  rw [ho]
  clear ho ha hx hb1 hb2
  go_enter Tryz.func50, Tryz.ntmps50
  go_upto_region 1 with (fail)
  generalize (w.alloc (.cells #[.int .i64 c.id, .string c.nm, .int .i64 c.lo, .int .i64 c.hi, .bool c.wo, .bool c.me, .int .i64 c.co, .int .i64 c.mo] 25)).alloc (.cells #[.int .i64 r.id, .string r.nm, .string r.cl, .int .i64 r.bo, .bool r.wo, .int .i64 r.ca] 35) = wz at *
  have hu : undef = Value.tuple #[] := rfl
  by_cases h1 : c.lo ≤ a
  · have hd1 : decide (c.lo ≤ a) = true := decide_eq_true h1
    by_cases h2 : a ≤ c.hi
    · have hd2 : decide (a ≤ c.hi) = true := decide_eq_true h2
      have HQ := Lib.hid (show x = o from by rw [← HO.out, decide_eq_true (And.intro h1 h2)]; rfl)
      clear h1 h2 HO
      refine wp_region_noPanic ?_
      refine wp_region_held_drew (S := (fun Wx : World => Wx.cell? ⟨w.heap.size, 0, none⟩ = some (.int .i64 c.id) ∧ Wx.cell? ⟨w.heap.size, 1, none⟩ = some (.string c.nm) ∧ Wx.cell? ⟨w.heap.size, 2, none⟩ = some (.int .i64 c.lo) ∧ Wx.cell? ⟨w.heap.size, 3, none⟩ = some (.int .i64 c.hi) ∧ Wx.cell? ⟨w.heap.size, 4, none⟩ = some (.bool c.wo) ∧ Wx.cell? ⟨w.heap.size, 5, none⟩ = some (.bool c.me) ∧ Wx.cell? ⟨w.heap.size, 6, none⟩ = some (.int .i64 c.co) ∧ Wx.cell? ⟨w.heap.size, 7, none⟩ = some (.int .i64 c.mo) ∧ Wx.cell? ⟨w.heap.size + 1, 0, none⟩ = some (.int .i64 r.id) ∧ Wx.cell? ⟨w.heap.size + 1, 1, none⟩ = some (.string r.nm) ∧ Wx.cell? ⟨w.heap.size + 1, 2, none⟩ = some (.string r.cl) ∧ Wx.cell? ⟨w.heap.size + 1, 3, none⟩ = some (.int .i64 r.bo) ∧ Wx.cell? ⟨w.heap.size + 1, 4, none⟩ = some (.bool r.wo) ∧ Wx.cell? ⟨w.heap.size + 1, 5, none⟩ = some (.int .i64 r.ca))) (by kernel_rfl) ⟨p0, p1, p2, p3, p4, p5, p6, p7, q0, q1, q2, q3, q4, q5⟩ (fun hHeld => ?_)
      refine wpAnyH_take (i := 0) (oi := _) (v := ?_) rfl (by kernel_rfl) (by kernel_rfl) (by kernel_rfl) (fun _ _ _ h => h) (Or.inl ⟨by rfl, ?_⟩) (by assumption) ?_; rotate_left; focus (intro W hSw; (try dsimp only at hSw); go_simp; (first | done | with_reducible rfl))
      (try simp only [List.getElem_toArray, List.getElem_cons_succ, List.getElem_cons_zero, Act.put, List.setIfInBounds_toArray, List.set_cons_zero, List.set_cons_succ])
      refine wpAnyH_take (i := 1) (oi := _) (v := ?_) rfl (by kernel_rfl) (by kernel_rfl) (by kernel_rfl) (fun _ _ _ h => h) (Or.inl ⟨by rfl, ?_⟩) (by assumption) ?_; rotate_left; focus (intro W hSw; (try dsimp only at hSw); go_simp; (first | done | with_reducible rfl))
      (try simp only [List.getElem_toArray, List.getElem_cons_succ, List.getElem_cons_zero, Act.put, List.setIfInBounds_toArray, List.set_cons_zero, List.set_cons_succ])
      refine wpAnyH_take (i := 2) (oi := _) (v := ?_) rfl (by kernel_rfl) (by kernel_rfl) (by kernel_rfl) (fun _ _ _ h => h) (Or.inl ⟨by rfl, ?_⟩) (by assumption) ?_; rotate_left; focus (intro W hSw; (try dsimp only at hSw); go_simp; (first | done | with_reducible rfl))
      (try simp only [List.getElem_toArray, List.getElem_cons_succ, List.getElem_cons_zero, Act.put, List.setIfInBounds_toArray, List.set_cons_zero, List.set_cons_succ])
      refine wpAnyH_ready (rs := [3]) (by kernel_rfl) (by simp) ?_
      refine AllReadyH.cons (o := _) rfl (fun K hK => ?_) AllReadyH.nil
      go_simp
      go_at_call 76
      refine (CA.out _).mono ?_
      rintro e w2 ⟨rfl, hb⟩
      have HB2 := Lib.hid (HB.out.drew.trans (hb.mono HB.out.size))
      have hSw2 : (w2.cell? ⟨w.heap.size, 0, none⟩ = some (.int .i64 c.id) ∧ w2.cell? ⟨w.heap.size, 1, none⟩ = some (.string c.nm) ∧ w2.cell? ⟨w.heap.size, 2, none⟩ = some (.int .i64 c.lo) ∧ w2.cell? ⟨w.heap.size, 3, none⟩ = some (.int .i64 c.hi) ∧ w2.cell? ⟨w.heap.size, 4, none⟩ = some (.bool c.wo) ∧ w2.cell? ⟨w.heap.size, 5, none⟩ = some (.bool c.me) ∧ w2.cell? ⟨w.heap.size, 6, none⟩ = some (.int .i64 c.co) ∧ w2.cell? ⟨w.heap.size, 7, none⟩ = some (.int .i64 c.mo) ∧ w2.cell? ⟨w.heap.size + 1, 0, none⟩ = some (.int .i64 r.id) ∧ w2.cell? ⟨w.heap.size + 1, 1, none⟩ = some (.string r.nm) ∧ w2.cell? ⟨w.heap.size + 1, 2, none⟩ = some (.string r.cl) ∧ w2.cell? ⟨w.heap.size + 1, 3, none⟩ = some (.int .i64 r.bo) ∧ w2.cell? ⟨w.heap.size + 1, 4, none⟩ = some (.bool r.wo) ∧ w2.cell? ⟨w.heap.size + 1, 5, none⟩ = some (.int .i64 r.ca)) := ⟨(hb.cell (World.block_lt_of_cell? wz.drew _ p0)).trans p0, (hb.cell (World.block_lt_of_cell? wz.drew _ p1)).trans p1, (hb.cell (World.block_lt_of_cell? wz.drew _ p2)).trans p2, (hb.cell (World.block_lt_of_cell? wz.drew _ p3)).trans p3, (hb.cell (World.block_lt_of_cell? wz.drew _ p4)).trans p4, (hb.cell (World.block_lt_of_cell? wz.drew _ p5)).trans p5, (hb.cell (World.block_lt_of_cell? wz.drew _ p6)).trans p6, (hb.cell (World.block_lt_of_cell? wz.drew _ p7)).trans p7, (hb.cell (World.block_lt_of_cell? wz.drew _ q0)).trans q0, (hb.cell (World.block_lt_of_cell? wz.drew _ q1)).trans q1, (hb.cell (World.block_lt_of_cell? wz.drew _ q2)).trans q2, (hb.cell (World.block_lt_of_cell? wz.drew _ q3)).trans q3, (hb.cell (World.block_lt_of_cell? wz.drew _ q4)).trans q4, (hb.cell (World.block_lt_of_cell? wz.drew _ q5)).trans q5⟩
      clear hb
      go_wp2_with fail
      refine hK.out _ _ hSw2 (fun _ => ?_)
      clear hK K hHeld
      obtain ⟨s0, s1, s2, s3, s4, s5, s6, s7, s8, s9, s10, s11, s12, s13⟩ := hSw2
      refine wpAnyH_take (i := 4) (oi := _) (v := ?_) rfl (by kernel_rfl) (by kernel_rfl) (by kernel_rfl) (fun _ _ _ h => h) (Or.inl ⟨by rfl, ?_⟩) (by assumption) ?_; rotate_left; focus (intro W hSw; (try dsimp only at hSw); go_simp; (first | done | with_reducible rfl))
      (try simp only [List.getElem_toArray, List.getElem_cons_succ, List.getElem_cons_zero, Act.put, List.setIfInBounds_toArray, List.set_cons_zero, List.set_cons_succ])
      refine wpAnyH_take (i := 5) (oi := _) (v := ?_) rfl (by kernel_rfl) (by kernel_rfl) (by kernel_rfl) (fun _ _ _ h => h) (Or.inl ⟨by rfl, ?_⟩) (by assumption) ?_; rotate_left; focus (intro W hSw; (try dsimp only at hSw); go_simp; (first | done | with_reducible rfl))
      (try simp only [List.getElem_toArray, List.getElem_cons_succ, List.getElem_cons_zero, Act.put, List.setIfInBounds_toArray, List.set_cons_zero, List.set_cons_succ])
      refine wpAnyH_take (i := 6) (oi := _) (v := ?_) rfl (by kernel_rfl) (by kernel_rfl) (by kernel_rfl) (fun _ _ _ h => h) (Or.inl ⟨by rfl, ?_⟩) (by assumption) ?_; rotate_left; focus (intro W hSw; (try dsimp only at hSw); go_simp; (first | done | with_reducible rfl))
      (try simp only [List.getElem_toArray, List.getElem_cons_succ, List.getElem_cons_zero, Act.put, List.setIfInBounds_toArray, List.set_cons_zero, List.set_cons_succ])
      refine wpAnyH_take (i := 8) (oi := _) (v := ?_) rfl (by kernel_rfl) (by kernel_rfl) (by kernel_rfl) (fun _ _ _ h => h) (Or.inl ⟨by rfl, ?_⟩) (by assumption) ?_; rotate_left; focus (intro W hSw; (try dsimp only at hSw); go_simp; (first | done | with_reducible rfl))
      (try simp only [List.getElem_toArray, List.getElem_cons_succ, List.getElem_cons_zero, Act.put, List.setIfInBounds_toArray, List.set_cons_zero, List.set_cons_succ])
      refine wpAnyH_take (i := 9) (oi := _) (v := ?_) rfl (by kernel_rfl) (by kernel_rfl) (by kernel_rfl) (fun _ _ _ h => h) (Or.inl ⟨by rfl, ?_⟩) (by assumption) ?_; rotate_left; focus (intro W hSw; (try dsimp only at hSw); go_simp; (first | done | with_reducible rfl))
      (try simp only [List.getElem_toArray, List.getElem_cons_succ, List.getElem_cons_zero, Act.put, List.setIfInBounds_toArray, List.set_cons_zero, List.set_cons_succ])
      refine wpAnyH_ready (rs := [7]) (by kernel_rfl) (by simp) ?_
      refine AllReadyH.cons (o := _) rfl (fun K hK => ?_) AllReadyH.nil
      go_simp
      go_at_call 76
      refine (CA.out _).mono ?_
      rintro e w3 ⟨rfl, hb⟩
      have HB3 := Lib.hid (HB2.out.trans (hb.mono HB2.out.size))
      have hSw3 : (w3.cell? ⟨w.heap.size, 0, none⟩ = some (.int .i64 c.id) ∧ w3.cell? ⟨w.heap.size, 1, none⟩ = some (.string c.nm) ∧ w3.cell? ⟨w.heap.size, 2, none⟩ = some (.int .i64 c.lo) ∧ w3.cell? ⟨w.heap.size, 3, none⟩ = some (.int .i64 c.hi) ∧ w3.cell? ⟨w.heap.size, 4, none⟩ = some (.bool c.wo) ∧ w3.cell? ⟨w.heap.size, 5, none⟩ = some (.bool c.me) ∧ w3.cell? ⟨w.heap.size, 6, none⟩ = some (.int .i64 c.co) ∧ w3.cell? ⟨w.heap.size, 7, none⟩ = some (.int .i64 c.mo) ∧ w3.cell? ⟨w.heap.size + 1, 0, none⟩ = some (.int .i64 r.id) ∧ w3.cell? ⟨w.heap.size + 1, 1, none⟩ = some (.string r.nm) ∧ w3.cell? ⟨w.heap.size + 1, 2, none⟩ = some (.string r.cl) ∧ w3.cell? ⟨w.heap.size + 1, 3, none⟩ = some (.int .i64 r.bo) ∧ w3.cell? ⟨w.heap.size + 1, 4, none⟩ = some (.bool r.wo) ∧ w3.cell? ⟨w.heap.size + 1, 5, none⟩ = some (.int .i64 r.ca)) := ⟨(hb.cell (World.block_lt_of_cell? w2 _ s0)).trans s0, (hb.cell (World.block_lt_of_cell? w2 _ s1)).trans s1, (hb.cell (World.block_lt_of_cell? w2 _ s2)).trans s2, (hb.cell (World.block_lt_of_cell? w2 _ s3)).trans s3, (hb.cell (World.block_lt_of_cell? w2 _ s4)).trans s4, (hb.cell (World.block_lt_of_cell? w2 _ s5)).trans s5, (hb.cell (World.block_lt_of_cell? w2 _ s6)).trans s6, (hb.cell (World.block_lt_of_cell? w2 _ s7)).trans s7, (hb.cell (World.block_lt_of_cell? w2 _ s8)).trans s8, (hb.cell (World.block_lt_of_cell? w2 _ s9)).trans s9, (hb.cell (World.block_lt_of_cell? w2 _ s10)).trans s10, (hb.cell (World.block_lt_of_cell? w2 _ s11)).trans s11, (hb.cell (World.block_lt_of_cell? w2 _ s12)).trans s12, (hb.cell (World.block_lt_of_cell? w2 _ s13)).trans s13⟩
      clear hb
      go_wp2_with fail
      refine hK.out _ _ hSw3 (fun _ => ?_)
      clear hK K
      obtain ⟨t0, t1, t2, t3, t4, t5, t6, t7, t8, t9, t10, t11, t12, t13⟩ := hSw3
      refine wpAnyH_take (i := 10) (oi := _) (v := ?_) rfl (by kernel_rfl) (by kernel_rfl) (by kernel_rfl) (fun _ _ _ h => h) (Or.inl ⟨by rfl, ?_⟩) (by assumption) ?_; rotate_left; focus (intro W hSw; (try dsimp only at hSw); go_simp; (first | done | with_reducible rfl))
      (try simp only [List.getElem_toArray, List.getElem_cons_succ, List.getElem_cons_zero, Act.put, List.setIfInBounds_toArray, List.set_cons_zero, List.set_cons_succ])
      refine wpAnyH_take (i := 11) (oi := _) (v := ?_) rfl (by kernel_rfl) (by kernel_rfl) (by kernel_rfl) (fun _ _ _ h => h) (Or.inl ⟨by rfl, ?_⟩) (by assumption) ?_; rotate_left; focus (intro W hSw; (try dsimp only at hSw); go_simp; (first | done | with_reducible rfl))
      (try simp only [List.getElem_toArray, List.getElem_cons_succ, List.getElem_cons_zero, Act.put, List.setIfInBounds_toArray, List.set_cons_zero, List.set_cons_succ])
      refine wpAnyH_take (i := 12) (oi := _) (v := ?_) rfl (by kernel_rfl) (by kernel_rfl) (by kernel_rfl) (fun _ _ _ h => h) (Or.inl ⟨by rfl, ?_⟩) (by assumption) ?_; rotate_left; focus (intro W hSw; (try dsimp only at hSw); go_simp; (first | done | with_reducible rfl))
      (try simp only [List.getElem_toArray, List.getElem_cons_succ, List.getElem_cons_zero, Act.put, List.setIfInBounds_toArray, List.set_cons_zero, List.set_cons_succ])
      refine wpAnyH_take (i := 13) (oi := _) (v := ?_) rfl (by kernel_rfl) (by kernel_rfl) (by kernel_rfl) (fun _ _ _ h => h) (Or.inl ⟨by rfl, ?_⟩) (by assumption) ?_; rotate_left; focus (intro W hSw; (try dsimp only at hSw); go_simp; (first | done | with_reducible rfl))
      (try simp only [List.getElem_toArray, List.getElem_cons_succ, List.getElem_cons_zero, Act.put, List.setIfInBounds_toArray, List.set_cons_zero, List.set_cons_succ])
      refine wpAnyH_take (i := 14) (oi := _) (v := ?_) rfl (by kernel_rfl) (by kernel_rfl) (by kernel_rfl) (fun _ _ _ h => h) (Or.inl ⟨by rfl, ?_⟩) (by assumption) ?_; rotate_left; focus (intro W hSw; (try dsimp only at hSw); go_simp; (first | done | with_reducible rfl))
      (try simp only [List.getElem_toArray, List.getElem_cons_succ, List.getElem_cons_zero, Act.put, List.setIfInBounds_toArray, List.set_cons_zero, List.set_cons_succ])
      refine wpAnyH_take (i := 15) (oi := _) (v := ?_) rfl (by kernel_rfl) (by kernel_rfl) (by kernel_rfl) (fun _ _ _ h => h) (Or.inl ⟨by rfl, ?_⟩) (by assumption) ?_; rotate_left; focus (intro W hSw; (try dsimp only at hSw); go_simp; (first | done | with_reducible rfl))
      (try simp only [List.getElem_toArray, List.getElem_cons_succ, List.getElem_cons_zero, Act.put, List.setIfInBounds_toArray, List.set_cons_zero, List.set_cons_succ])
      refine wpAnyH_ready (rs := [16]) (by kernel_rfl) (by simp) ?_
      refine AllReadyH.cons (o := _) rfl (fun K hK => ?_) AllReadyH.nil
      go_simp
      go_at_call 77
      refine (CX.out _).mono ?_
      rintro e w4 ⟨rfl, hb⟩
      have HB4 := Lib.hid (HB3.out.trans (hb.mono HB3.out.size))
      have hSw4 : (w4.cell? ⟨w.heap.size, 0, none⟩ = some (.int .i64 c.id) ∧ w4.cell? ⟨w.heap.size, 1, none⟩ = some (.string c.nm) ∧ w4.cell? ⟨w.heap.size, 2, none⟩ = some (.int .i64 c.lo) ∧ w4.cell? ⟨w.heap.size, 3, none⟩ = some (.int .i64 c.hi) ∧ w4.cell? ⟨w.heap.size, 4, none⟩ = some (.bool c.wo) ∧ w4.cell? ⟨w.heap.size, 5, none⟩ = some (.bool c.me) ∧ w4.cell? ⟨w.heap.size, 6, none⟩ = some (.int .i64 c.co) ∧ w4.cell? ⟨w.heap.size, 7, none⟩ = some (.int .i64 c.mo) ∧ w4.cell? ⟨w.heap.size + 1, 0, none⟩ = some (.int .i64 r.id) ∧ w4.cell? ⟨w.heap.size + 1, 1, none⟩ = some (.string r.nm) ∧ w4.cell? ⟨w.heap.size + 1, 2, none⟩ = some (.string r.cl) ∧ w4.cell? ⟨w.heap.size + 1, 3, none⟩ = some (.int .i64 r.bo) ∧ w4.cell? ⟨w.heap.size + 1, 4, none⟩ = some (.bool r.wo) ∧ w4.cell? ⟨w.heap.size + 1, 5, none⟩ = some (.int .i64 r.ca)) := ⟨(hb.cell (World.block_lt_of_cell? w3 _ t0)).trans t0, (hb.cell (World.block_lt_of_cell? w3 _ t1)).trans t1, (hb.cell (World.block_lt_of_cell? w3 _ t2)).trans t2, (hb.cell (World.block_lt_of_cell? w3 _ t3)).trans t3, (hb.cell (World.block_lt_of_cell? w3 _ t4)).trans t4, (hb.cell (World.block_lt_of_cell? w3 _ t5)).trans t5, (hb.cell (World.block_lt_of_cell? w3 _ t6)).trans t6, (hb.cell (World.block_lt_of_cell? w3 _ t7)).trans t7, (hb.cell (World.block_lt_of_cell? w3 _ t8)).trans t8, (hb.cell (World.block_lt_of_cell? w3 _ t9)).trans t9, (hb.cell (World.block_lt_of_cell? w3 _ t10)).trans t10, (hb.cell (World.block_lt_of_cell? w3 _ t11)).trans t11, (hb.cell (World.block_lt_of_cell? w3 _ t12)).trans t12, (hb.cell (World.block_lt_of_cell? w3 _ t13)).trans t13⟩
      clear hb
      go_wp2_with fail
      refine hK.out _ _ hSw4 (fun _ => ?_)
      clear hK K
      obtain ⟨v0, v1, v2, v3, v4, v5, v6, v7, v8, v9, v10, v11, v12, v13⟩ := hSw4
      refine wpAnyH_take (i := 17) (oi := _) (v := ?_) rfl (by kernel_rfl) (by kernel_rfl) (by kernel_rfl) (fun _ _ _ h => h) (Or.inl ⟨by rfl, ?_⟩) (by assumption) ?_; rotate_left; focus (intro W hSw; (try dsimp only at hSw); go_simp; (first | done | with_reducible rfl))
      (try simp only [List.getElem_toArray, List.getElem_cons_succ, List.getElem_cons_zero, Act.put, List.setIfInBounds_toArray, List.set_cons_zero, List.set_cons_succ])
      refine wpAnyH_take (i := 18) (oi := _) (v := ?_) rfl (by kernel_rfl) (by kernel_rfl) (by kernel_rfl) (fun _ _ _ h => h) (Or.inl ⟨by rfl, ?_⟩) (by assumption) ?_; rotate_left; focus (intro W hSw; (try dsimp only at hSw); go_simp; (first | done | with_reducible rfl))
      (try simp only [List.getElem_toArray, List.getElem_cons_succ, List.getElem_cons_zero, Act.put, List.setIfInBounds_toArray, List.set_cons_zero, List.set_cons_succ])
      refine wpAnyH_done (by kernel_rfl) ?_ _
      refine NoPanic.normal ?_
      (try simp only [List.getElem_toArray, List.getElem_cons_succ, List.getElem_cons_zero, Act.put, List.setIfInBounds_toArray, List.set_cons_zero, List.set_cons_succ])
      clear s0 s1 s2 s3 s4 s5 s6 s7 s8 s9 s10 s11 s12 s13 t0 t1 t2 t3 t4 t5 t6 t7 t8 t9 t10 t11 t12 t13 v0 v1 v2 v3 v4 v5 v6 v7 v8 v9 v10 v11 v12 v13
      go_wp2
      go_ret
      exact ⟨ret_bool HQ.out, HB4.out⟩
    · have hd2 : decide (a ≤ c.hi) = false := decide_eq_false h2
      have HQ := Lib.hid (show false = o from by rw [← HO.out, decide_eq_false (fun h : c.lo ≤ a ∧ a ≤ c.hi => h2 h.2)]; rfl)
      clear h1 h2 HO
      refine wp_region_noPanic ?_
      refine wp_region_held_drew (S := (fun Wx : World => Wx.cell? ⟨w.heap.size, 0, none⟩ = some (.int .i64 c.id) ∧ Wx.cell? ⟨w.heap.size, 1, none⟩ = some (.string c.nm) ∧ Wx.cell? ⟨w.heap.size, 2, none⟩ = some (.int .i64 c.lo) ∧ Wx.cell? ⟨w.heap.size, 3, none⟩ = some (.int .i64 c.hi) ∧ Wx.cell? ⟨w.heap.size, 4, none⟩ = some (.bool c.wo) ∧ Wx.cell? ⟨w.heap.size, 5, none⟩ = some (.bool c.me) ∧ Wx.cell? ⟨w.heap.size, 6, none⟩ = some (.int .i64 c.co) ∧ Wx.cell? ⟨w.heap.size, 7, none⟩ = some (.int .i64 c.mo) ∧ Wx.cell? ⟨w.heap.size + 1, 0, none⟩ = some (.int .i64 r.id) ∧ Wx.cell? ⟨w.heap.size + 1, 1, none⟩ = some (.string r.nm) ∧ Wx.cell? ⟨w.heap.size + 1, 2, none⟩ = some (.string r.cl) ∧ Wx.cell? ⟨w.heap.size + 1, 3, none⟩ = some (.int .i64 r.bo) ∧ Wx.cell? ⟨w.heap.size + 1, 4, none⟩ = some (.bool r.wo) ∧ Wx.cell? ⟨w.heap.size + 1, 5, none⟩ = some (.int .i64 r.ca))) (by kernel_rfl) ⟨p0, p1, p2, p3, p4, p5, p6, p7, q0, q1, q2, q3, q4, q5⟩ (fun hHeld => ?_)
      refine wpAnyH_take (i := 0) (oi := _) (v := ?_) rfl (by kernel_rfl) (by kernel_rfl) (by kernel_rfl) (fun _ _ _ h => h) (Or.inl ⟨by rfl, ?_⟩) (by assumption) ?_; rotate_left; focus (intro W hSw; (try dsimp only at hSw); go_simp; (first | done | with_reducible rfl))
      (try simp only [List.getElem_toArray, List.getElem_cons_succ, List.getElem_cons_zero, Act.put, List.setIfInBounds_toArray, List.set_cons_zero, List.set_cons_succ])
      refine wpAnyH_take (i := 1) (oi := _) (v := ?_) rfl (by kernel_rfl) (by kernel_rfl) (by kernel_rfl) (fun _ _ _ h => h) (Or.inl ⟨by rfl, ?_⟩) (by assumption) ?_; rotate_left; focus (intro W hSw; (try dsimp only at hSw); go_simp; (first | done | with_reducible rfl))
      (try simp only [List.getElem_toArray, List.getElem_cons_succ, List.getElem_cons_zero, Act.put, List.setIfInBounds_toArray, List.set_cons_zero, List.set_cons_succ])
      refine wpAnyH_take (i := 2) (oi := _) (v := ?_) rfl (by kernel_rfl) (by kernel_rfl) (by kernel_rfl) (fun _ _ _ h => h) (Or.inl ⟨by rfl, ?_⟩) (by assumption) ?_; rotate_left; focus (intro W hSw; (try dsimp only at hSw); go_simp; (first | done | with_reducible rfl))
      (try simp only [List.getElem_toArray, List.getElem_cons_succ, List.getElem_cons_zero, Act.put, List.setIfInBounds_toArray, List.set_cons_zero, List.set_cons_succ])
      refine wpAnyH_ready (rs := [3]) (by kernel_rfl) (by simp) ?_
      refine AllReadyH.cons (o := _) rfl (fun K hK => ?_) AllReadyH.nil
      go_simp
      go_at_call 76
      refine (CA.out _).mono ?_
      rintro e w2 ⟨rfl, hb⟩
      have HB2 := Lib.hid (HB.out.drew.trans (hb.mono HB.out.size))
      have hSw2 : (w2.cell? ⟨w.heap.size, 0, none⟩ = some (.int .i64 c.id) ∧ w2.cell? ⟨w.heap.size, 1, none⟩ = some (.string c.nm) ∧ w2.cell? ⟨w.heap.size, 2, none⟩ = some (.int .i64 c.lo) ∧ w2.cell? ⟨w.heap.size, 3, none⟩ = some (.int .i64 c.hi) ∧ w2.cell? ⟨w.heap.size, 4, none⟩ = some (.bool c.wo) ∧ w2.cell? ⟨w.heap.size, 5, none⟩ = some (.bool c.me) ∧ w2.cell? ⟨w.heap.size, 6, none⟩ = some (.int .i64 c.co) ∧ w2.cell? ⟨w.heap.size, 7, none⟩ = some (.int .i64 c.mo) ∧ w2.cell? ⟨w.heap.size + 1, 0, none⟩ = some (.int .i64 r.id) ∧ w2.cell? ⟨w.heap.size + 1, 1, none⟩ = some (.string r.nm) ∧ w2.cell? ⟨w.heap.size + 1, 2, none⟩ = some (.string r.cl) ∧ w2.cell? ⟨w.heap.size + 1, 3, none⟩ = some (.int .i64 r.bo) ∧ w2.cell? ⟨w.heap.size + 1, 4, none⟩ = some (.bool r.wo) ∧ w2.cell? ⟨w.heap.size + 1, 5, none⟩ = some (.int .i64 r.ca)) := ⟨(hb.cell (World.block_lt_of_cell? wz.drew _ p0)).trans p0, (hb.cell (World.block_lt_of_cell? wz.drew _ p1)).trans p1, (hb.cell (World.block_lt_of_cell? wz.drew _ p2)).trans p2, (hb.cell (World.block_lt_of_cell? wz.drew _ p3)).trans p3, (hb.cell (World.block_lt_of_cell? wz.drew _ p4)).trans p4, (hb.cell (World.block_lt_of_cell? wz.drew _ p5)).trans p5, (hb.cell (World.block_lt_of_cell? wz.drew _ p6)).trans p6, (hb.cell (World.block_lt_of_cell? wz.drew _ p7)).trans p7, (hb.cell (World.block_lt_of_cell? wz.drew _ q0)).trans q0, (hb.cell (World.block_lt_of_cell? wz.drew _ q1)).trans q1, (hb.cell (World.block_lt_of_cell? wz.drew _ q2)).trans q2, (hb.cell (World.block_lt_of_cell? wz.drew _ q3)).trans q3, (hb.cell (World.block_lt_of_cell? wz.drew _ q4)).trans q4, (hb.cell (World.block_lt_of_cell? wz.drew _ q5)).trans q5⟩
      clear hb
      go_wp2_with fail
      refine hK.out _ _ hSw2 (fun _ => ?_)
      clear hK K hHeld
      obtain ⟨s0, s1, s2, s3, s4, s5, s6, s7, s8, s9, s10, s11, s12, s13⟩ := hSw2
      refine wpAnyH_take (i := 4) (oi := _) (v := ?_) rfl (by kernel_rfl) (by kernel_rfl) (by kernel_rfl) (fun _ _ _ h => h) (Or.inl ⟨by rfl, ?_⟩) (by assumption) ?_; rotate_left; focus (intro W hSw; (try dsimp only at hSw); go_simp; (first | done | with_reducible rfl))
      (try simp only [List.getElem_toArray, List.getElem_cons_succ, List.getElem_cons_zero, Act.put, List.setIfInBounds_toArray, List.set_cons_zero, List.set_cons_succ])
      refine wpAnyH_take (i := 5) (oi := _) (v := ?_) rfl (by kernel_rfl) (by kernel_rfl) (by kernel_rfl) (fun _ _ _ h => h) (Or.inl ⟨by rfl, ?_⟩) (by assumption) ?_; rotate_left; focus (intro W hSw; (try dsimp only at hSw); go_simp; (first | done | with_reducible rfl))
      (try simp only [List.getElem_toArray, List.getElem_cons_succ, List.getElem_cons_zero, Act.put, List.setIfInBounds_toArray, List.set_cons_zero, List.set_cons_succ])
      refine wpAnyH_take (i := 6) (oi := _) (v := ?_) rfl (by kernel_rfl) (by kernel_rfl) (by kernel_rfl) (fun _ _ _ h => h) (Or.inl ⟨by rfl, ?_⟩) (by assumption) ?_; rotate_left; focus (intro W hSw; (try dsimp only at hSw); go_simp; (first | done | with_reducible rfl))
      (try simp only [List.getElem_toArray, List.getElem_cons_succ, List.getElem_cons_zero, Act.put, List.setIfInBounds_toArray, List.set_cons_zero, List.set_cons_succ])
      refine wpAnyH_take (i := 8) (oi := _) (v := ?_) rfl (by kernel_rfl) (by kernel_rfl) (by kernel_rfl) (fun _ _ _ h => h) (Or.inl ⟨by rfl, ?_⟩) (by assumption) ?_; rotate_left; focus (intro W hSw; (try dsimp only at hSw); go_simp; (first | done | with_reducible rfl))
      (try simp only [List.getElem_toArray, List.getElem_cons_succ, List.getElem_cons_zero, Act.put, List.setIfInBounds_toArray, List.set_cons_zero, List.set_cons_succ])
      refine wpAnyH_take (i := 9) (oi := _) (v := ?_) rfl (by kernel_rfl) (by kernel_rfl) (by kernel_rfl) (fun _ _ _ h => h) (Or.inl ⟨by rfl, ?_⟩) (by assumption) ?_; rotate_left; focus (intro W hSw; (try dsimp only at hSw); go_simp; (first | done | with_reducible rfl))
      (try simp only [List.getElem_toArray, List.getElem_cons_succ, List.getElem_cons_zero, Act.put, List.setIfInBounds_toArray, List.set_cons_zero, List.set_cons_succ])
      refine wpAnyH_ready (rs := [7]) (by kernel_rfl) (by simp) ?_
      refine AllReadyH.cons (o := _) rfl (fun K hK => ?_) AllReadyH.nil
      go_simp
      go_at_call 76
      refine (CA.out _).mono ?_
      rintro e w3 ⟨rfl, hb⟩
      have HB3 := Lib.hid (HB2.out.trans (hb.mono HB2.out.size))
      have hSw3 : (w3.cell? ⟨w.heap.size, 0, none⟩ = some (.int .i64 c.id) ∧ w3.cell? ⟨w.heap.size, 1, none⟩ = some (.string c.nm) ∧ w3.cell? ⟨w.heap.size, 2, none⟩ = some (.int .i64 c.lo) ∧ w3.cell? ⟨w.heap.size, 3, none⟩ = some (.int .i64 c.hi) ∧ w3.cell? ⟨w.heap.size, 4, none⟩ = some (.bool c.wo) ∧ w3.cell? ⟨w.heap.size, 5, none⟩ = some (.bool c.me) ∧ w3.cell? ⟨w.heap.size, 6, none⟩ = some (.int .i64 c.co) ∧ w3.cell? ⟨w.heap.size, 7, none⟩ = some (.int .i64 c.mo) ∧ w3.cell? ⟨w.heap.size + 1, 0, none⟩ = some (.int .i64 r.id) ∧ w3.cell? ⟨w.heap.size + 1, 1, none⟩ = some (.string r.nm) ∧ w3.cell? ⟨w.heap.size + 1, 2, none⟩ = some (.string r.cl) ∧ w3.cell? ⟨w.heap.size + 1, 3, none⟩ = some (.int .i64 r.bo) ∧ w3.cell? ⟨w.heap.size + 1, 4, none⟩ = some (.bool r.wo) ∧ w3.cell? ⟨w.heap.size + 1, 5, none⟩ = some (.int .i64 r.ca)) := ⟨(hb.cell (World.block_lt_of_cell? w2 _ s0)).trans s0, (hb.cell (World.block_lt_of_cell? w2 _ s1)).trans s1, (hb.cell (World.block_lt_of_cell? w2 _ s2)).trans s2, (hb.cell (World.block_lt_of_cell? w2 _ s3)).trans s3, (hb.cell (World.block_lt_of_cell? w2 _ s4)).trans s4, (hb.cell (World.block_lt_of_cell? w2 _ s5)).trans s5, (hb.cell (World.block_lt_of_cell? w2 _ s6)).trans s6, (hb.cell (World.block_lt_of_cell? w2 _ s7)).trans s7, (hb.cell (World.block_lt_of_cell? w2 _ s8)).trans s8, (hb.cell (World.block_lt_of_cell? w2 _ s9)).trans s9, (hb.cell (World.block_lt_of_cell? w2 _ s10)).trans s10, (hb.cell (World.block_lt_of_cell? w2 _ s11)).trans s11, (hb.cell (World.block_lt_of_cell? w2 _ s12)).trans s12, (hb.cell (World.block_lt_of_cell? w2 _ s13)).trans s13⟩
      clear hb
      go_wp2_with fail
      refine hK.out _ _ hSw3 (fun _ => ?_)
      clear hK K
      obtain ⟨t0, t1, t2, t3, t4, t5, t6, t7, t8, t9, t10, t11, t12, t13⟩ := hSw3
      refine wpAnyH_take (i := 10) (oi := _) (v := ?_) rfl (by kernel_rfl) (by kernel_rfl) (by kernel_rfl) (fun _ _ _ h => h) (Or.inl ⟨by rfl, ?_⟩) (by assumption) ?_; rotate_left; focus (intro W hSw; (try dsimp only at hSw); go_simp; (first | done | with_reducible rfl))
      (try simp only [List.getElem_toArray, List.getElem_cons_succ, List.getElem_cons_zero, Act.put, List.setIfInBounds_toArray, List.set_cons_zero, List.set_cons_succ])
      refine wpAnyH_take (i := 11) (oi := _) (v := ?_) rfl (by kernel_rfl) (by kernel_rfl) (by kernel_rfl) (fun _ _ _ h => h) (Or.inl ⟨by rfl, ?_⟩) (by assumption) ?_; rotate_left; focus (intro W hSw; (try dsimp only at hSw); go_simp; (first | done | with_reducible rfl))
      (try simp only [List.getElem_toArray, List.getElem_cons_succ, List.getElem_cons_zero, Act.put, List.setIfInBounds_toArray, List.set_cons_zero, List.set_cons_succ])
      refine wpAnyH_take (i := 12) (oi := _) (v := ?_) rfl (by kernel_rfl) (by kernel_rfl) (by kernel_rfl) (fun _ _ _ h => h) (Or.inl ⟨by rfl, ?_⟩) (by assumption) ?_; rotate_left; focus (intro W hSw; (try dsimp only at hSw); go_simp; (first | done | with_reducible rfl))
      (try simp only [List.getElem_toArray, List.getElem_cons_succ, List.getElem_cons_zero, Act.put, List.setIfInBounds_toArray, List.set_cons_zero, List.set_cons_succ])
      refine wpAnyH_take (i := 13) (oi := _) (v := _) rfl (by kernel_rfl) (by kernel_rfl) (by kernel_rfl) (fun _ _ _ h => h) (Or.inr ⟨by rfl, rfl⟩) (by assumption) ?_
      (try simp only [List.getElem_toArray, List.getElem_cons_succ, List.getElem_cons_zero, Act.put, List.setIfInBounds_toArray, List.set_cons_zero, List.set_cons_succ])
      refine wpAnyH_take (i := 14) (oi := _) (v := _) rfl (by kernel_rfl) (by kernel_rfl) (by kernel_rfl) (fun _ _ _ h => h) (Or.inr ⟨by rfl, rfl⟩) (by assumption) ?_
      (try simp only [List.getElem_toArray, List.getElem_cons_succ, List.getElem_cons_zero, Act.put, List.setIfInBounds_toArray, List.set_cons_zero, List.set_cons_succ])
      refine wpAnyH_take (i := 15) (oi := _) (v := _) rfl (by kernel_rfl) (by kernel_rfl) (by kernel_rfl) (fun _ _ _ h => h) (Or.inr ⟨by rfl, rfl⟩) (by assumption) ?_
      (try simp only [List.getElem_toArray, List.getElem_cons_succ, List.getElem_cons_zero, Act.put, List.setIfInBounds_toArray, List.set_cons_zero, List.set_cons_succ])
      refine wpAnyH_take (i := 16) (oi := _) (v := _) rfl (by kernel_rfl) (by kernel_rfl) (by kernel_rfl) (fun _ _ _ h => h) (Or.inr ⟨by rfl, rfl⟩) (by assumption) ?_
      (try simp only [List.getElem_toArray, List.getElem_cons_succ, List.getElem_cons_zero, Act.put, List.setIfInBounds_toArray, List.set_cons_zero, List.set_cons_succ])
      refine wpAnyH_take (i := 17) (oi := _) (v := ?_) rfl (by kernel_rfl) (by kernel_rfl) (by kernel_rfl) (fun _ _ _ h => h) (Or.inl ⟨by rfl, ?_⟩) (by assumption) ?_; rotate_left; focus (intro W hSw; (try dsimp only at hSw); go_simp; (first | done | with_reducible rfl))
      (try simp only [List.getElem_toArray, List.getElem_cons_succ, List.getElem_cons_zero, Act.put, List.setIfInBounds_toArray, List.set_cons_zero, List.set_cons_succ])
      refine wpAnyH_take (i := 18) (oi := _) (v := ?_) rfl (by kernel_rfl) (by kernel_rfl) (by kernel_rfl) (fun _ _ _ h => h) (Or.inl ⟨by rfl, ?_⟩) (by assumption) ?_; rotate_left; focus (intro W hSw; (try dsimp only at hSw); go_simp; (first | done | with_reducible rfl))
      (try simp only [List.getElem_toArray, List.getElem_cons_succ, List.getElem_cons_zero, Act.put, List.setIfInBounds_toArray, List.set_cons_zero, List.set_cons_succ])
      refine wpAnyH_done (by kernel_rfl) ?_ _
      refine NoPanic.normal ?_
      (try simp only [List.getElem_toArray, List.getElem_cons_succ, List.getElem_cons_zero, Act.put, List.setIfInBounds_toArray, List.set_cons_zero, List.set_cons_succ])
      clear s0 s1 s2 s3 s4 s5 s6 s7 s8 s9 s10 s11 s12 s13 t0 t1 t2 t3 t4 t5 t6 t7 t8 t9 t10 t11 t12 t13
      go_wp2
      go_ret
      exact ⟨ret_bool HQ.out, HB3.out⟩
  · have hd1 : decide (c.lo ≤ a) = false := decide_eq_false h1
    have HQ := Lib.hid (show false = o from by rw [← HO.out, decide_eq_false (fun h : c.lo ≤ a ∧ a ≤ c.hi => h1 h.1)]; rfl)
    clear h1 HO
    refine wp_region_noPanic ?_
    refine wp_region_held_drew (S := (fun Wx : World => Wx.cell? ⟨w.heap.size, 0, none⟩ = some (.int .i64 c.id) ∧ Wx.cell? ⟨w.heap.size, 1, none⟩ = some (.string c.nm) ∧ Wx.cell? ⟨w.heap.size, 2, none⟩ = some (.int .i64 c.lo) ∧ Wx.cell? ⟨w.heap.size, 3, none⟩ = some (.int .i64 c.hi) ∧ Wx.cell? ⟨w.heap.size, 4, none⟩ = some (.bool c.wo) ∧ Wx.cell? ⟨w.heap.size, 5, none⟩ = some (.bool c.me) ∧ Wx.cell? ⟨w.heap.size, 6, none⟩ = some (.int .i64 c.co) ∧ Wx.cell? ⟨w.heap.size, 7, none⟩ = some (.int .i64 c.mo) ∧ Wx.cell? ⟨w.heap.size + 1, 0, none⟩ = some (.int .i64 r.id) ∧ Wx.cell? ⟨w.heap.size + 1, 1, none⟩ = some (.string r.nm) ∧ Wx.cell? ⟨w.heap.size + 1, 2, none⟩ = some (.string r.cl) ∧ Wx.cell? ⟨w.heap.size + 1, 3, none⟩ = some (.int .i64 r.bo) ∧ Wx.cell? ⟨w.heap.size + 1, 4, none⟩ = some (.bool r.wo) ∧ Wx.cell? ⟨w.heap.size + 1, 5, none⟩ = some (.int .i64 r.ca))) (by kernel_rfl) ⟨p0, p1, p2, p3, p4, p5, p6, p7, q0, q1, q2, q3, q4, q5⟩ (fun hHeld => ?_)
    refine wpAnyH_take (i := 0) (oi := _) (v := ?_) rfl (by kernel_rfl) (by kernel_rfl) (by kernel_rfl) (fun _ _ _ h => h) (Or.inl ⟨by rfl, ?_⟩) (by assumption) ?_; rotate_left; focus (intro W hSw; (try dsimp only at hSw); go_simp; (first | done | with_reducible rfl))
    (try simp only [List.getElem_toArray, List.getElem_cons_succ, List.getElem_cons_zero, Act.put, List.setIfInBounds_toArray, List.set_cons_zero, List.set_cons_succ])
    refine wpAnyH_take (i := 1) (oi := _) (v := ?_) rfl (by kernel_rfl) (by kernel_rfl) (by kernel_rfl) (fun _ _ _ h => h) (Or.inl ⟨by rfl, ?_⟩) (by assumption) ?_; rotate_left; focus (intro W hSw; (try dsimp only at hSw); go_simp; (first | done | with_reducible rfl))
    (try simp only [List.getElem_toArray, List.getElem_cons_succ, List.getElem_cons_zero, Act.put, List.setIfInBounds_toArray, List.set_cons_zero, List.set_cons_succ])
    refine wpAnyH_take (i := 2) (oi := _) (v := ?_) rfl (by kernel_rfl) (by kernel_rfl) (by kernel_rfl) (fun _ _ _ h => h) (Or.inl ⟨by rfl, ?_⟩) (by assumption) ?_; rotate_left; focus (intro W hSw; (try dsimp only at hSw); go_simp; (first | done | with_reducible rfl))
    (try simp only [List.getElem_toArray, List.getElem_cons_succ, List.getElem_cons_zero, Act.put, List.setIfInBounds_toArray, List.set_cons_zero, List.set_cons_succ])
    refine wpAnyH_ready (rs := [3]) (by kernel_rfl) (by simp) ?_
    refine AllReadyH.cons (o := _) rfl (fun K hK => ?_) AllReadyH.nil
    go_simp
    go_at_call 76
    refine (CA.out _).mono ?_
    rintro e w2 ⟨rfl, hb⟩
    have HB2 := Lib.hid (HB.out.drew.trans (hb.mono HB.out.size))
    have hSw2 : (w2.cell? ⟨w.heap.size, 0, none⟩ = some (.int .i64 c.id) ∧ w2.cell? ⟨w.heap.size, 1, none⟩ = some (.string c.nm) ∧ w2.cell? ⟨w.heap.size, 2, none⟩ = some (.int .i64 c.lo) ∧ w2.cell? ⟨w.heap.size, 3, none⟩ = some (.int .i64 c.hi) ∧ w2.cell? ⟨w.heap.size, 4, none⟩ = some (.bool c.wo) ∧ w2.cell? ⟨w.heap.size, 5, none⟩ = some (.bool c.me) ∧ w2.cell? ⟨w.heap.size, 6, none⟩ = some (.int .i64 c.co) ∧ w2.cell? ⟨w.heap.size, 7, none⟩ = some (.int .i64 c.mo) ∧ w2.cell? ⟨w.heap.size + 1, 0, none⟩ = some (.int .i64 r.id) ∧ w2.cell? ⟨w.heap.size + 1, 1, none⟩ = some (.string r.nm) ∧ w2.cell? ⟨w.heap.size + 1, 2, none⟩ = some (.string r.cl) ∧ w2.cell? ⟨w.heap.size + 1, 3, none⟩ = some (.int .i64 r.bo) ∧ w2.cell? ⟨w.heap.size + 1, 4, none⟩ = some (.bool r.wo) ∧ w2.cell? ⟨w.heap.size + 1, 5, none⟩ = some (.int .i64 r.ca)) := ⟨(hb.cell (World.block_lt_of_cell? wz.drew _ p0)).trans p0, (hb.cell (World.block_lt_of_cell? wz.drew _ p1)).trans p1, (hb.cell (World.block_lt_of_cell? wz.drew _ p2)).trans p2, (hb.cell (World.block_lt_of_cell? wz.drew _ p3)).trans p3, (hb.cell (World.block_lt_of_cell? wz.drew _ p4)).trans p4, (hb.cell (World.block_lt_of_cell? wz.drew _ p5)).trans p5, (hb.cell (World.block_lt_of_cell? wz.drew _ p6)).trans p6, (hb.cell (World.block_lt_of_cell? wz.drew _ p7)).trans p7, (hb.cell (World.block_lt_of_cell? wz.drew _ q0)).trans q0, (hb.cell (World.block_lt_of_cell? wz.drew _ q1)).trans q1, (hb.cell (World.block_lt_of_cell? wz.drew _ q2)).trans q2, (hb.cell (World.block_lt_of_cell? wz.drew _ q3)).trans q3, (hb.cell (World.block_lt_of_cell? wz.drew _ q4)).trans q4, (hb.cell (World.block_lt_of_cell? wz.drew _ q5)).trans q5⟩
    clear hb
    go_wp2_with fail
    refine hK.out _ _ hSw2 (fun _ => ?_)
    clear hK K hHeld
    obtain ⟨s0, s1, s2, s3, s4, s5, s6, s7, s8, s9, s10, s11, s12, s13⟩ := hSw2
    refine wpAnyH_take (i := 4) (oi := _) (v := ?_) rfl (by kernel_rfl) (by kernel_rfl) (by kernel_rfl) (fun _ _ _ h => h) (Or.inl ⟨by rfl, ?_⟩) (by assumption) ?_; rotate_left; focus (intro W hSw; (try dsimp only at hSw); go_simp; (first | done | with_reducible rfl))
    (try simp only [List.getElem_toArray, List.getElem_cons_succ, List.getElem_cons_zero, Act.put, List.setIfInBounds_toArray, List.set_cons_zero, List.set_cons_succ])
    refine wpAnyH_take (i := 5) (oi := _) (v := ?_) rfl (by kernel_rfl) (by kernel_rfl) (by kernel_rfl) (fun _ _ _ h => h) (Or.inl ⟨by rfl, ?_⟩) (by assumption) ?_; rotate_left; focus (intro W hSw; (try dsimp only at hSw); go_simp; (first | done | with_reducible rfl))
    (try simp only [List.getElem_toArray, List.getElem_cons_succ, List.getElem_cons_zero, Act.put, List.setIfInBounds_toArray, List.set_cons_zero, List.set_cons_succ])
    refine wpAnyH_take (i := 6) (oi := _) (v := _) rfl (by kernel_rfl) (by kernel_rfl) (by kernel_rfl) (fun _ _ _ h => h) (Or.inr ⟨by rfl, rfl⟩) (by assumption) ?_
    (try simp only [List.getElem_toArray, List.getElem_cons_succ, List.getElem_cons_zero, Act.put, List.setIfInBounds_toArray, List.set_cons_zero, List.set_cons_succ])
    refine wpAnyH_take (i := 7) (oi := _) (v := _) rfl (by kernel_rfl) (by kernel_rfl) (by kernel_rfl) (fun _ _ _ h => h) (Or.inr ⟨by rfl, rfl⟩) (by assumption) ?_
    (try simp only [List.getElem_toArray, List.getElem_cons_succ, List.getElem_cons_zero, Act.put, List.setIfInBounds_toArray, List.set_cons_zero, List.set_cons_succ])
    refine wpAnyH_take (i := 8) (oi := _) (v := _) rfl (by kernel_rfl) (by kernel_rfl) (by kernel_rfl) (fun _ _ _ h => h) (Or.inr ⟨by rfl, rfl⟩) (by assumption) ?_
    (try simp only [List.getElem_toArray, List.getElem_cons_succ, List.getElem_cons_zero, Act.put, List.setIfInBounds_toArray, List.set_cons_zero, List.set_cons_succ])
    refine wpAnyH_take (i := 9) (oi := _) (v := _) rfl (by kernel_rfl) (by kernel_rfl) (by kernel_rfl) (fun _ _ _ h => h) (Or.inr ⟨by rfl, rfl⟩) (by assumption) ?_
    (try simp only [List.getElem_toArray, List.getElem_cons_succ, List.getElem_cons_zero, Act.put, List.setIfInBounds_toArray, List.set_cons_zero, List.set_cons_succ])
    refine wpAnyH_take (i := 10) (oi := _) (v := _) rfl (by kernel_rfl) (by kernel_rfl) (by kernel_rfl) (fun _ _ _ h => h) (Or.inr ⟨by rfl, rfl⟩) (by assumption) ?_
    (try simp only [List.getElem_toArray, List.getElem_cons_succ, List.getElem_cons_zero, Act.put, List.setIfInBounds_toArray, List.set_cons_zero, List.set_cons_succ])
    refine wpAnyH_take (i := 11) (oi := _) (v := ?_) rfl (by kernel_rfl) (by kernel_rfl) (by kernel_rfl) (fun _ _ _ h => h) (Or.inl ⟨by rfl, ?_⟩) (by assumption) ?_; rotate_left; focus (intro W hSw; (try dsimp only at hSw); go_simp; (first | done | with_reducible rfl))
    (try simp only [List.getElem_toArray, List.getElem_cons_succ, List.getElem_cons_zero, Act.put, List.setIfInBounds_toArray, List.set_cons_zero, List.set_cons_succ])
    refine wpAnyH_take (i := 12) (oi := _) (v := ?_) rfl (by kernel_rfl) (by kernel_rfl) (by kernel_rfl) (fun _ _ _ h => h) (Or.inl ⟨by rfl, ?_⟩) (by assumption) ?_; rotate_left; focus (intro W hSw; (try dsimp only at hSw); go_simp; (first | done | with_reducible rfl))
    (try simp only [List.getElem_toArray, List.getElem_cons_succ, List.getElem_cons_zero, Act.put, List.setIfInBounds_toArray, List.set_cons_zero, List.set_cons_succ])
    refine wpAnyH_take (i := 13) (oi := _) (v := _) rfl (by kernel_rfl) (by kernel_rfl) (by kernel_rfl) (fun _ _ _ h => h) (Or.inr ⟨by rfl, rfl⟩) (by assumption) ?_
    (try simp only [List.getElem_toArray, List.getElem_cons_succ, List.getElem_cons_zero, Act.put, List.setIfInBounds_toArray, List.set_cons_zero, List.set_cons_succ])
    refine wpAnyH_take (i := 14) (oi := _) (v := _) rfl (by kernel_rfl) (by kernel_rfl) (by kernel_rfl) (fun _ _ _ h => h) (Or.inr ⟨by rfl, rfl⟩) (by assumption) ?_
    (try simp only [List.getElem_toArray, List.getElem_cons_succ, List.getElem_cons_zero, Act.put, List.setIfInBounds_toArray, List.set_cons_zero, List.set_cons_succ])
    refine wpAnyH_take (i := 15) (oi := _) (v := _) rfl (by kernel_rfl) (by kernel_rfl) (by kernel_rfl) (fun _ _ _ h => h) (Or.inr ⟨by rfl, rfl⟩) (by assumption) ?_
    (try simp only [List.getElem_toArray, List.getElem_cons_succ, List.getElem_cons_zero, Act.put, List.setIfInBounds_toArray, List.set_cons_zero, List.set_cons_succ])
    refine wpAnyH_take (i := 16) (oi := _) (v := _) rfl (by kernel_rfl) (by kernel_rfl) (by kernel_rfl) (fun _ _ _ h => h) (Or.inr ⟨by rfl, rfl⟩) (by assumption) ?_
    (try simp only [List.getElem_toArray, List.getElem_cons_succ, List.getElem_cons_zero, Act.put, List.setIfInBounds_toArray, List.set_cons_zero, List.set_cons_succ])
    refine wpAnyH_take (i := 17) (oi := _) (v := ?_) rfl (by kernel_rfl) (by kernel_rfl) (by kernel_rfl) (fun _ _ _ h => h) (Or.inl ⟨by rfl, ?_⟩) (by assumption) ?_; rotate_left; focus (intro W hSw; (try dsimp only at hSw); go_simp; (first | done | with_reducible rfl))
    (try simp only [List.getElem_toArray, List.getElem_cons_succ, List.getElem_cons_zero, Act.put, List.setIfInBounds_toArray, List.set_cons_zero, List.set_cons_succ])
    refine wpAnyH_take (i := 18) (oi := _) (v := ?_) rfl (by kernel_rfl) (by kernel_rfl) (by kernel_rfl) (fun _ _ _ h => h) (Or.inl ⟨by rfl, ?_⟩) (by assumption) ?_; rotate_left; focus (intro W hSw; (try dsimp only at hSw); go_simp; (first | done | with_reducible rfl))
    (try simp only [List.getElem_toArray, List.getElem_cons_succ, List.getElem_cons_zero, Act.put, List.setIfInBounds_toArray, List.set_cons_zero, List.set_cons_succ])
    refine wpAnyH_done (by kernel_rfl) ?_ _
    refine NoPanic.normal ?_
    (try simp only [List.getElem_toArray, List.getElem_cons_succ, List.getElem_cons_zero, Act.put, List.setIfInBounds_toArray, List.set_cons_zero, List.set_cons_succ])
    clear s0 s1 s2 s3 s4 s5 s6 s7 s8 s9 s10 s11 s12 s13
    go_wp2
    go_ret
    exact ⟨ret_bool HQ.out, HB2.out⟩

set_option maxHeartbeats 2000000 in
theorem adm_spec (c : Kl) (age : Int) (woman : Bool) (w : World) :
    Calls Tryz.prog 47 #[.agg #[.int .i64 c.id, .string c.nm, .int .i64 c.lo, .int .i64 c.hi, .bool c.wo, .bool c.me, .int .i64 c.co, .int .i64 c.mo], .int .i64 age, .bool woman] w fun e w' => e = .returned (.bool (admB c age woman)) ∧ Below w.heap.size w w' := by
  have HB := Lib.hid ((Below.refl w.heap.size w).alloc (Nat.le_refl _) (.cells #[.int .i64 c.id, .string c.nm, .int .i64 c.lo, .int .i64 c.hi, .bool c.wo, .bool c.me, .int .i64 c.co, .int .i64 c.mo] 25))
  obtain ⟨⟨p0, p1, p2, p3, p4, p5, p6, p7⟩, -⟩ := KlK.blk_cells (Blk.new w 25 #[.int .i64 c.id, .string c.nm, .int .i64 c.lo, .int .i64 c.hi, .bool c.wo, .bool c.me, .int .i64 c.co, .int .i64 c.mo])
  obtain ⟨d, hd⟩ : ∃ d, decide (c.lo ≤ age ∧ age ≤ c.hi) = d := ⟨_, rfl⟩
  have C := Lib.hid (fun w => hd ▸ in_any age c.lo c.hi w)
  have HE := Lib.hid (show admB c age woman = (d && sexB c woman) from by rw [← hd]; rfl)
  clear hd
  cases d
  case false =>
    go_enter Tryz.func47, Tryz.ntmps47
    go_wp2_with fail
    refine (C.out _).mono ?_
    rintro e w' ⟨rfl, rfl⟩
    go_wp2
    go_ret
    exact ⟨ret_bool HE.out.symm, HB.out⟩
  cases woman with
  | false =>
    have HS := Lib.hid (show admB c age false = c.me from HE.out)
    obtain ⟨me, hme⟩ : ∃ x, c.me = x := ⟨_, rfl⟩
    rw [hme] at HS
    cases me
    all_goals
      go_enter Tryz.func47, Tryz.ntmps47
      go_wp2_with fail
      refine (C.out _).mono ?_
      rintro e w' ⟨rfl, rfl⟩
      go_wp2
      go_ret
      exact ⟨ret_bool HS.out.symm, (Below.refl _ _).alloc (Nat.le_refl _) _⟩
  | true =>
    have HS := Lib.hid (show admB c age true = c.wo from HE.out)
    obtain ⟨wo, hwo⟩ : ∃ x, c.wo = x := ⟨_, rfl⟩
    rw [hwo] at HS
    cases wo
    all_goals
      go_enter Tryz.func47, Tryz.ntmps47
      go_wp2_with fail
      refine (C.out _).mono ?_
      rintro e w' ⟨rfl, rfl⟩
      go_wp2
      go_ret
      exact ⟨ret_bool HS.out.symm, (Below.refl _ _).alloc (Nat.le_refl _) _⟩

/-- DoesAdmit. -/
def daB (c : Kl) (r : Ru) : Bool := okK c && RuI.okR r
def daA (c : Kl) (r : Ru) : Bool := daB c r && admR c r
def DPost (w : World) (x ok : Bool) (e : Ending) (w' : World) : Prop := e = .returned (.tuple #[.bool x, .bool ok]) ∧ Below w.heap.size w w'

set_option maxRecDepth 20000 in
set_option maxHeartbeats 4000000 in
theorem does_impl (c : Kl) (hc : KlK.Is c) (r : Ru) (hr : RuK.Is r) (w : World) :
    Calls Tryz.prog 19 #[.agg #[.int .i64 c.id, .string c.nm, .int .i64 c.lo, .int .i64 c.hi, .bool c.wo, .bool c.me, .int .i64 c.co, .int .i64 c.mo], .agg #[.int .i64 r.id, .string r.nm, .string r.cl, .int .i64 r.bo, .bool r.wo, .int .i64 r.ca]] w (DPost w (daA c r) (daB c r)) := by
  have HB := Lib.hid (((Below.refl w.heap.size w).alloc (Nat.le_refl _) (.cells #[.int .i64 c.id, .string c.nm, .int .i64 c.lo, .int .i64 c.hi, .bool c.wo, .bool c.me, .int .i64 c.co, .int .i64 c.mo] 25)).alloc (by simp) (.cells #[.int .i64 r.id, .string r.nm, .string r.cl, .int .i64 r.bo, .bool r.wo, .int .i64 r.ca] 35))
  have HK := Lib.hid ((Blk.new w 25 #[.int .i64 c.id, .string c.nm, .int .i64 c.lo, .int .i64 c.hi, .bool c.wo, .bool c.me, .int .i64 c.co, .int .i64 c.mo]).alloc (.cells #[.int .i64 r.id, .string r.nm, .string r.cl, .int .i64 r.bo, .bool r.wo, .int .i64 r.ca] 35))
  have HL := Lib.hid (show Blk ((w.alloc (.cells #[.int .i64 c.id, .string c.nm, .int .i64 c.lo, .int .i64 c.hi, .bool c.wo, .bool c.me, .int .i64 c.co, .int .i64 c.mo] 25)).alloc (.cells #[.int .i64 r.id, .string r.nm, .string r.cl, .int .i64 r.bo, .bool r.wo, .int .i64 r.ca] 35)) (w.heap.size + 1) 35 #[.int .i64 r.id, .string r.nm, .string r.cl, .int .i64 r.bo, .bool r.wo, .int .i64 r.ca] from by simpa using Blk.new (w.alloc (.cells #[.int .i64 c.id, .string c.nm, .int .i64 c.lo, .int .i64 c.hi, .bool c.wo, .bool c.me, .int .i64 c.co, .int .i64 c.mo] 25)) 35 #[.int .i64 r.id, .string r.nm, .string r.cl, .int .i64 r.bo, .bool r.wo, .int .i64 r.ca])
  obtain ⟨o, ho⟩ : ∃ o, okK c = o := ⟨_, rfl⟩
  obtain ⟨v, hv⟩ : ∃ o, RuI.okR r = o := ⟨_, rfl⟩
  obtain ⟨m, hm⟩ : ∃ o, admR c r = o := ⟨_, rfl⟩
  have C1 := Lib.hid (fun w => ho ▸ KlI.impl_any c hc w)
  have C2 := Lib.hid (fun w => hv ▸ RuI.impl_any r hr w)
  have HV := Lib.hid hv
  obtain ⟨x, hx⟩ : ∃ o, daA c r = o := ⟨_, rfl⟩
  obtain ⟨y, hy⟩ : ∃ o, daB c r = o := ⟨_, rfl⟩
  have HX := Lib.hid (show ((o && v) && m) = x from by rw [← ho, ← hv, ← hm, ← hx]; rfl)
  have HY := Lib.hid (show (o && v) = y from by rw [← ho, ← hv, ← hy]; rfl)
  have HM := Lib.hid hm
  rw [hx, hy]
  clear hx hy ho hv hc hr hm
  obtain ⟨⟨p0, p1, p2, p3, p4, p5, p6, p7⟩, -⟩ := KlK.blk_cells HK.out
  obtain ⟨⟨q0, q1, q2, q3, q4, q5⟩, -⟩ := RuK.blk_cells HL.out
  go_enter Tryz.func19, Tryz.ntmps19
  go_wp2_with fail
  refine (C1.out _).mono ?_
  rintro e w1 ⟨rfl, hb⟩
  have HB1 := Lib.hid (HB.out.trans (hb.mono HB.out.size))
  have HK1 := Lib.hid (HK.out.later hb)
  have HL1 := Lib.hid (HL.out.later hb)
  clear hb HB HK HL p0 p1 p2 p3 p4 p5 p6 p7 q0 q1 q2 q3 q4 q5
  obtain ⟨⟨q0, q1, q2, q3, q4, q5⟩, -⟩ := RuK.blk_cells HL1.out
  cases o with
  | false =>
    have h1 : y = false := HY.out.symm
    have h2 : x = false := HX.out.symm
    subst h1 h2
    go_wp2
    go_ret2
    exact ⟨rfl, HB1.out⟩
  | true =>
  go_wp2_with fail
  refine (C2.out _).mono ?_
  rintro e w2 ⟨rfl, hb⟩
  have HB2 := Lib.hid (HB1.out.trans (hb.mono HB1.out.size))
  have HK2 := Lib.hid (HK1.out.later hb)
  have HL2 := Lib.hid (HL1.out.later hb)
  clear hb HB1 HK1 HL1 q0 q1 q2 q3 q4 q5
  cases v with
  | false =>
    have h1 : y = false := HY.out.symm
    have h2 : x = false := HX.out.symm
    subst h1 h2
    go_wp2
    go_ret2
    exact ⟨rfl, HB2.out⟩
  | true =>
  have h1 : y = true := HY.out.symm
  have h2 : m = x := by rw [← HX.out]; rfl
  obtain ⟨b1, b2⟩ := ok_bo HV.out
  have C3 := Lib.hid (show ∀ w, Calls Tryz.prog 50 #[.agg #[.int .i64 c.id, .string c.nm, .int .i64 c.lo, .int .i64 c.hi, .bool c.wo, .bool c.me, .int .i64 c.co, .int .i64 c.mo], .agg #[.int .i64 r.id, .string r.nm, .string r.cl, .int .i64 r.bo, .bool r.wo, .int .i64 r.ca]] w fun e w' => e = .returned (.bool x) ∧ Below w.heap.size w w' from fun w => by
    have := adm_impl c r b1 b2 w
    rw [HM.out, h2] at this
    exact this)
  subst h1
  clear HX HY HM h2
  obtain ⟨⟨p0, p1, p2, p3, p4, p5, p6, p7⟩, -⟩ := KlK.blk_cells HK2.out
  obtain ⟨⟨q0, q1, q2, q3, q4, q5⟩, -⟩ := RuK.blk_cells HL2.out
  go_wp2_with fail
  refine (C3.out _).mono ?_
  rintro e w3 ⟨rfl, hb⟩
  have HB3 := Lib.hid (HB2.out.trans (hb.mono HB2.out.size))
  clear hb
  go_wp2
  go_ret2
  exact ⟨rfl, HB3.out⟩

set_option maxRecDepth 20000 in
set_option maxHeartbeats 4000000 in
theorem does_spec (c : Kl) (hc : KlK.Is c) (r : Ru) (hr : RuK.Is r) (w : World) :
    Calls Tryz.prog 21 #[.agg #[.int .i64 c.id, .string c.nm, .int .i64 c.lo, .int .i64 c.hi, .bool c.wo, .bool c.me, .int .i64 c.co, .int .i64 c.mo], .agg #[.int .i64 r.id, .string r.nm, .string r.cl, .int .i64 r.bo, .bool r.wo, .int .i64 r.ca]] w (DPost w (daA c r) (daB c r)) := by
  have HB := Lib.hid (((Below.refl w.heap.size w).alloc (Nat.le_refl _) (.cells #[.int .i64 c.id, .string c.nm, .int .i64 c.lo, .int .i64 c.hi, .bool c.wo, .bool c.me, .int .i64 c.co, .int .i64 c.mo] 25)).alloc (by simp) (.cells #[.int .i64 r.id, .string r.nm, .string r.cl, .int .i64 r.bo, .bool r.wo, .int .i64 r.ca] 35))
  have HK := Lib.hid ((Blk.new w 25 #[.int .i64 c.id, .string c.nm, .int .i64 c.lo, .int .i64 c.hi, .bool c.wo, .bool c.me, .int .i64 c.co, .int .i64 c.mo]).alloc (.cells #[.int .i64 r.id, .string r.nm, .string r.cl, .int .i64 r.bo, .bool r.wo, .int .i64 r.ca] 35))
  have HL := Lib.hid (show Blk ((w.alloc (.cells #[.int .i64 c.id, .string c.nm, .int .i64 c.lo, .int .i64 c.hi, .bool c.wo, .bool c.me, .int .i64 c.co, .int .i64 c.mo] 25)).alloc (.cells #[.int .i64 r.id, .string r.nm, .string r.cl, .int .i64 r.bo, .bool r.wo, .int .i64 r.ca] 35)) (w.heap.size + 1) 35 #[.int .i64 r.id, .string r.nm, .string r.cl, .int .i64 r.bo, .bool r.wo, .int .i64 r.ca] from by simpa using Blk.new (w.alloc (.cells #[.int .i64 c.id, .string c.nm, .int .i64 c.lo, .int .i64 c.hi, .bool c.wo, .bool c.me, .int .i64 c.co, .int .i64 c.mo] 25)) 35 #[.int .i64 r.id, .string r.nm, .string r.cl, .int .i64 r.bo, .bool r.wo, .int .i64 r.ca])
  obtain ⟨o, ho⟩ : ∃ o, okK c = o := ⟨_, rfl⟩
  obtain ⟨v, hv⟩ : ∃ o, RuI.okR r = o := ⟨_, rfl⟩
  obtain ⟨m, hm⟩ : ∃ o, admR c r = o := ⟨_, rfl⟩
  have C1 := Lib.hid (fun w => ho ▸ KlI.spec_one c hc w)
  have C2 := Lib.hid (fun w => hv ▸ RuI.spec_one r hr w)
  have HV := Lib.hid hv
  obtain ⟨x, hx⟩ : ∃ o, daA c r = o := ⟨_, rfl⟩
  obtain ⟨y, hy⟩ : ∃ o, daB c r = o := ⟨_, rfl⟩
  have HX := Lib.hid (show ((o && v) && m) = x from by rw [← ho, ← hv, ← hm, ← hx]; rfl)
  have HY := Lib.hid (show (o && v) = y from by rw [← ho, ← hv, ← hy]; rfl)
  have HM := Lib.hid hm
  rw [hx, hy]
  clear hx hy ho hv hc hr hm
  obtain ⟨⟨p0, p1, p2, p3, p4, p5, p6, p7⟩, -⟩ := KlK.blk_cells HK.out
  obtain ⟨⟨q0, q1, q2, q3, q4, q5⟩, -⟩ := RuK.blk_cells HL.out
  go_enter Tryz.func21, Tryz.ntmps21
  go_wp2_with fail
  refine (C1.out _).mono ?_
  rintro e w1 ⟨rfl, hb⟩
  have HB1 := Lib.hid (HB.out.trans (hb.mono HB.out.size))
  have HK1 := Lib.hid (HK.out.later hb)
  have HL1 := Lib.hid (HL.out.later hb)
  clear hb HB HK HL p0 p1 p2 p3 p4 p5 p6 p7 q0 q1 q2 q3 q4 q5
  obtain ⟨⟨q0, q1, q2, q3, q4, q5⟩, -⟩ := RuK.blk_cells HL1.out
  cases o with
  | false =>
    have h1 : y = false := HY.out.symm
    have h2 : x = false := HX.out.symm
    subst h1 h2
    go_wp2
    go_ret2
    exact ⟨rfl, HB1.out⟩
  | true =>
  go_wp2_with fail
  refine (C2.out _).mono ?_
  rintro e w2 ⟨rfl, hb⟩
  have HB2 := Lib.hid (HB1.out.trans (hb.mono HB1.out.size))
  have HK2 := Lib.hid (HK1.out.later hb)
  have HL2 := Lib.hid (HL1.out.later hb)
  clear hb HB1 HK1 HL1 q0 q1 q2 q3 q4 q5
  cases v with
  | false =>
    have h1 : y = false := HY.out.symm
    have h2 : x = false := HX.out.symm
    subst h1 h2
    go_wp2
    go_ret2
    exact ⟨rfl, HB2.out⟩
  | true =>
  have h1 : y = true := HY.out.symm
  have h2 : m = x := by rw [← HX.out]; rfl
  obtain ⟨b1, b2⟩ := ok_bo HV.out
  have C3 := Lib.hid (show ∀ w, Calls Tryz.prog 47 #[.agg #[.int .i64 c.id, .string c.nm, .int .i64 c.lo, .int .i64 c.hi, .bool c.wo, .bool c.me, .int .i64 c.co, .int .i64 c.mo], .int .i64 (2026 - r.bo), .bool r.wo] w fun e w' => e = .returned (.bool x) ∧ Below w.heap.size w w' from fun w => by
    have := adm_spec c (2026 - r.bo) r.wo w
    rw [(show admB c (2026 - r.bo) r.wo = m from HM.out), h2] at this
    exact this)
  subst h1
  clear HX HY HM h2
  obtain ⟨⟨p0, p1, p2, p3, p4, p5, p6, p7⟩, -⟩ := KlK.blk_cells HK2.out
  obtain ⟨⟨q0, q1, q2, q3, q4, q5⟩, -⟩ := RuK.blk_cells HL2.out
  go_wp2_with fail
  refine (C3.out _).mono ?_
  rintro e w3 ⟨rfl, hb⟩
  have HB3 := Lib.hid (HB2.out.trans (hb.mono HB2.out.size))
  clear hb
  go_wp2
  go_ret2
  exact ⟨rfl, HB3.out⟩

theorem both (c : Kl) (hc : KlK.Is c) (r : Ru) (hr : RuK.Is r) : ∃ (x ok : Bool),
    (∀ w, Calls Tryz.prog 21 #[.agg #[.int .i64 c.id, .string c.nm, .int .i64 c.lo, .int .i64 c.hi, .bool c.wo, .bool c.me, .int .i64 c.co, .int .i64 c.mo], .agg #[.int .i64 r.id, .string r.nm, .string r.cl, .int .i64 r.bo, .bool r.wo, .int .i64 r.ca]] w fun e w' => e = .returned (.tuple #[.bool x, .bool ok]) ∧ Below w.heap.size w w') ∧
    (∀ w, Calls Tryz.prog 19 #[.agg #[.int .i64 c.id, .string c.nm, .int .i64 c.lo, .int .i64 c.hi, .bool c.wo, .bool c.me, .int .i64 c.co, .int .i64 c.mo], .agg #[.int .i64 r.id, .string r.nm, .string r.cl, .int .i64 r.bo, .bool r.wo, .int .i64 r.ca]] w fun e w' => e = .returned (.tuple #[.bool x, .bool ok]) ∧ Below w.heap.size w w') :=
  ⟨daA c r, daB c r, fun w => does_spec c hc r hr w, fun w => does_impl c hc r hr w⟩
end Go.Proofs.YtleoljnofdajfaaGreatDoor.KaD
