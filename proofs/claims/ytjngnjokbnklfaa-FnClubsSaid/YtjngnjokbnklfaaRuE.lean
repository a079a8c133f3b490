/- RunnersAged: both texts. -/
import Derived.Test.YtjngnjokbnklfaaRuD
namespace Go.Proofs.Ytjngnjokbnklfaa.RuE
open Go.RowKit Lb Bk InA Wd RuK RuI RuU RuA RuG RuC RuD
open IntK (Gr)
open IntS (OwnI iInfo)
set_option linter.unusedSimpArgs false
set_option linter.unusedVariables false

def agedB (lo hi : Int) (r : Ru) : Bool := decide (lo ≤ 2026 - r.bo ∧ 2026 - r.bo ≤ hi)
theorem good_bo {rs : List Ru} (h : goodB rs = true) {j : Nat} (hj : j < rs.length) : 1920 ≤ (at_ rs j).bo ∧ (at_ rs j).bo ≤ 2020 := by
  have := ((of_decide_eq_true h : GoodP rs).2 j hj).1
  unfold okR at this
  simp at this
  omega
theorem good_len {rs : List Ru} (h : goodB rs = true) : rs.length ≤ 10 := (of_decide_eq_true h : GoodP rs).1

set_option maxHeartbeats 1000000 in
theorem age_any (r : Ru) (h1 : 1920 ≤ r.bo) (h2 : r.bo ≤ 2020) (w : World) : Calls Try.prog 102 #[.agg #[.int .i64 r.id, .string r.nm, .string r.cl, .int .i64 r.bo, .bool r.wo, .int .i64 r.ca]] w fun e w' => e = .returned (.int .i64 (2026 - r.bo)) ∧ Below w.heap.size w w' := by
  obtain ⟨⟨p0, p1, p2, p3, p4, p5⟩, -⟩ := blk_cells (Blk.new w 70 #[.int .i64 r.id, .string r.nm, .string r.cl, .int .i64 r.bo, .bool r.wo, .int .i64 r.ca])
  go_enter Try.func102, Try.ntmps102
  go_wp2
  go_ret
  exact ⟨rfl, (Below.refl _ _).alloc (Nat.le_refl _) _⟩

set_option maxHeartbeats 1000000 in
theorem ages_any (lo hi : Int) (w : World) : Calls Try.prog 100 #[.int .i64 lo, .int .i64 hi] w fun e w' => e = .returned (.bool (decide (0 ≤ lo ∧ lo ≤ hi ∧ hi ≤ 120))) ∧ w' = w := by
  by_cases a1 : 0 ≤ lo
  case neg =>
    have HE := Lib.hid (show decide (0 ≤ lo ∧ lo ≤ hi ∧ hi ≤ 120) = false from decide_eq_false (by omega))
    have d1 : decide (0 ≤ lo) = false := decide_eq_false a1
    rw [HE.out]
    clear a1 HE
    go_enter Try.func100, Try.ntmps100
    go_wp2
    go_ret
    exact ⟨rfl, rfl⟩
  have d1 : decide (0 ≤ lo) = true := decide_eq_true a1
  by_cases a2 : lo ≤ hi
  case neg =>
    have HE := Lib.hid (show decide (0 ≤ lo ∧ lo ≤ hi ∧ hi ≤ 120) = false from decide_eq_false (by omega))
    have d2 : decide (lo ≤ hi) = false := decide_eq_false a2
    rw [HE.out]
    clear a1 a2 HE
    go_enter Try.func100, Try.ntmps100
    go_wp2
    go_ret
    exact ⟨rfl, rfl⟩
  have d2 : decide (lo ≤ hi) = true := decide_eq_true a2
  obtain ⟨d, hd⟩ : ∃ d, decide (hi ≤ 120) = d := ⟨_, rfl⟩
  have HE := Lib.hid (show decide (0 ≤ lo ∧ lo ≤ hi ∧ hi ≤ 120) = d from by rw [← hd]; simp [a1, a2])
  rw [HE.out]
  clear a1 a2 HE
  go_enter Try.func100, Try.ntmps100
  go_wp2
  go_ret
  exact ⟨rfl, rfl⟩

set_option maxRecDepth 20000 in
set_option maxHeartbeats 4000000 in
theorem aged_any (r : Ru) (hb1 : 1920 ≤ r.bo) (hb2 : r.bo ≤ 2020) (lo hi : Int) (bl bh : Nat) (w : World) (hl : w.cell? ⟨bl, 0, none⟩ = some (.int .i64 lo)) (hh : w.cell? ⟨bh, 0, none⟩ = some (.int .i64 hi)) :
    Calls Try.prog 101 #[.agg #[.int .i64 r.id, .string r.nm, .string r.cl, .int .i64 r.bo, .bool r.wo, .int .i64 r.ca], .pointer (some ⟨bl, 0, none⟩), .pointer (some ⟨bh, 0, none⟩)] w fun e w' => e = .returned (.bool (agedB lo hi r)) ∧ Below w.heap.size w w' := by
  have HB := Lib.hid ((Below.refl w.heap.size w).alloc (Nat.le_refl _) (.cells #[.int .i64 r.id, .string r.nm, .string r.cl, .int .i64 r.bo, .bool r.wo, .int .i64 r.ca] 70))
  have hK := Blk.new w 70 #[.int .i64 r.id, .string r.nm, .string r.cl, .int .i64 r.bo, .bool r.wo, .int .i64 r.ca]
  obtain ⟨⟨p0, p1, p2, p3, p4, p5⟩, -⟩ := blk_cells hK
  have l0 : (w.alloc (.cells #[.int .i64 r.id, .string r.nm, .string r.cl, .int .i64 r.bo, .bool r.wo, .int .i64 r.ca] 70)).cell? ⟨bl, 0, none⟩ = some (.int .i64 lo) := (((Below.refl w.heap.size w).alloc (Nat.le_refl _) (.cells #[.int .i64 r.id, .string r.nm, .string r.cl, .int .i64 r.bo, .bool r.wo, .int .i64 r.ca] 70)).cell (World.block_lt_of_cell? w _ hl)).trans hl
  have l1 : (w.alloc (.cells #[.int .i64 r.id, .string r.nm, .string r.cl, .int .i64 r.bo, .bool r.wo, .int .i64 r.ca] 70)).cell? ⟨bh, 0, none⟩ = some (.int .i64 hi) := (((Below.refl w.heap.size w).alloc (Nat.le_refl _) (.cells #[.int .i64 r.id, .string r.nm, .string r.cl, .int .i64 r.bo, .bool r.wo, .int .i64 r.ca] 70)).cell (World.block_lt_of_cell? w _ hh)).trans hh
  obtain ⟨a, ha⟩ : ∃ a, 2026 - r.bo = a := ⟨_, rfl⟩
  have CA := Lib.hid (fun w => ha ▸ age_any r hb1 hb2 w)
  obtain ⟨o, ho⟩ : ∃ o, agedB lo hi r = o := ⟨_, rfl⟩
  have HO := Lib.hid (show decide (lo ≤ a ∧ a ≤ hi) = o from by rw [← ho, ← ha]; rfl)
  rw [ho]
  clear ho ha hb1 hb2 hl hh hK
  go_enter Try.func101, Try.ntmps101
  go_upto_region 1 with (fail)
  generalize w.alloc (.cells #[.int .i64 r.id, .string r.nm, .string r.cl, .int .i64 r.bo, .bool r.wo, .int .i64 r.ca] 70) = wz at *
  by_cases h1 : lo ≤ a
  · have hd1 : decide (lo ≤ a) = true := decide_eq_true h1
    have HQ := Lib.hid (show decide (a ≤ hi) = o from by rw [← HO.out]; simp [h1])
    clear h1 HO
    refine wp_region_noPanic ?_
    refine wp_region_held_drew (S := (fun Wx : World => Wx.cell? ⟨w.heap.size, 0, none⟩ = some (.int .i64 r.id) ∧ Wx.cell? ⟨w.heap.size, 1, none⟩ = some (.string r.nm) ∧ Wx.cell? ⟨w.heap.size, 2, none⟩ = some (.string r.cl) ∧ Wx.cell? ⟨w.heap.size, 3, none⟩ = some (.int .i64 r.bo) ∧ Wx.cell? ⟨w.heap.size, 4, none⟩ = some (.bool r.wo) ∧ Wx.cell? ⟨w.heap.size, 5, none⟩ = some (.int .i64 r.ca) ∧ Wx.cell? ⟨bl, 0, none⟩ = some (.int .i64 lo) ∧ Wx.cell? ⟨bh, 0, none⟩ = some (.int .i64 hi))) (by kernel_rfl) ⟨p0, p1, p2, p3, p4, p5, l0, l1⟩ (fun hHeld => ?_)
    refine wpAnyH_take (i := 0) (oi := _) (v := ?_) rfl (by kernel_rfl) (by kernel_rfl) (by kernel_rfl) (fun _ _ _ h => h) (Or.inl ⟨by rfl, ?_⟩) (by assumption) ?_; rotate_left; focus (intro W hSw; (try dsimp only at hSw); go_simp; (first | done | with_reducible rfl))
    (try simp only [List.getElem_toArray, List.getElem_cons_succ, List.getElem_cons_zero, Act.put, List.setIfInBounds_toArray, List.set_cons_zero, List.set_cons_succ])
    refine wpAnyH_take (i := 2) (oi := _) (v := ?_) rfl (by kernel_rfl) (by kernel_rfl) (by kernel_rfl) (fun _ _ _ h => h) (Or.inl ⟨by rfl, ?_⟩) (by assumption) ?_; rotate_left; focus (intro W hSw; (try dsimp only at hSw); go_simp; (first | done | with_reducible rfl))
    (try simp only [List.getElem_toArray, List.getElem_cons_succ, List.getElem_cons_zero, Act.put, List.setIfInBounds_toArray, List.set_cons_zero, List.set_cons_succ])
    refine wpAnyH_ready (rs := [1]) (by kernel_rfl) (by simp) ?_
    refine AllReadyH.cons (o := _) rfl (fun K hK => ?_) AllReadyH.nil
    go_simp
    go_at_call 102
    refine (CA.out _).mono ?_
    rintro e w2 ⟨rfl, hb⟩
    have HB2 := Lib.hid (HB.out.drew.trans (hb.mono HB.out.size))
    have hS : (w2.cell? ⟨w.heap.size, 0, none⟩ = some (.int .i64 r.id) ∧ w2.cell? ⟨w.heap.size, 1, none⟩ = some (.string r.nm) ∧ w2.cell? ⟨w.heap.size, 2, none⟩ = some (.string r.cl) ∧ w2.cell? ⟨w.heap.size, 3, none⟩ = some (.int .i64 r.bo) ∧ w2.cell? ⟨w.heap.size, 4, none⟩ = some (.bool r.wo) ∧ w2.cell? ⟨w.heap.size, 5, none⟩ = some (.int .i64 r.ca) ∧ w2.cell? ⟨bl, 0, none⟩ = some (.int .i64 lo) ∧ w2.cell? ⟨bh, 0, none⟩ = some (.int .i64 hi)) := ⟨(hb.cell (World.block_lt_of_cell? wz.drew _ p0)).trans p0, (hb.cell (World.block_lt_of_cell? wz.drew _ p1)).trans p1, (hb.cell (World.block_lt_of_cell? wz.drew _ p2)).trans p2, (hb.cell (World.block_lt_of_cell? wz.drew _ p3)).trans p3, (hb.cell (World.block_lt_of_cell? wz.drew _ p4)).trans p4, (hb.cell (World.block_lt_of_cell? wz.drew _ p5)).trans p5, (hb.cell (World.block_lt_of_cell? wz.drew _ l0)).trans l0, (hb.cell (World.block_lt_of_cell? wz.drew _ l1)).trans l1⟩
    clear hb
    go_wp2_with fail
    refine hK.out _ _ hS (fun _ => ?_)
    clear hK K hHeld
    refine wpAnyH_take (i := 3) (oi := _) (v := ?_) rfl (by kernel_rfl) (by kernel_rfl) (by kernel_rfl) (fun _ _ _ h => h) (Or.inl ⟨by rfl, ?_⟩) (by assumption) ?_; rotate_left; focus (intro W hSw; (try dsimp only at hSw); go_simp; (first | done | with_reducible rfl))
    (try simp only [List.getElem_toArray, List.getElem_cons_succ, List.getElem_cons_zero, Act.put, List.setIfInBounds_toArray, List.set_cons_zero, List.set_cons_succ])
    refine wpAnyH_take (i := 4) (oi := _) (v := ?_) rfl (by kernel_rfl) (by kernel_rfl) (by kernel_rfl) (fun _ _ _ h => h) (Or.inl ⟨by rfl, ?_⟩) (by assumption) ?_; rotate_left; focus (intro W hSw; (try dsimp only at hSw); go_simp; (first | done | with_reducible rfl))
    (try simp only [List.getElem_toArray, List.getElem_cons_succ, List.getElem_cons_zero, Act.put, List.setIfInBounds_toArray, List.set_cons_zero, List.set_cons_succ])
    refine wpAnyH_take (i := 5) (oi := _) (v := ?_) rfl (by kernel_rfl) (by kernel_rfl) (by kernel_rfl) (fun _ _ _ h => h) (Or.inl ⟨by rfl, ?_⟩) (by assumption) ?_; rotate_left; focus (intro W hSw; (try dsimp only at hSw); go_simp; (first | done | with_reducible rfl))
    (try simp only [List.getElem_toArray, List.getElem_cons_succ, List.getElem_cons_zero, Act.put, List.setIfInBounds_toArray, List.set_cons_zero, List.set_cons_succ])
    refine wpAnyH_take (i := 7) (oi := _) (v := ?_) rfl (by kernel_rfl) (by kernel_rfl) (by kernel_rfl) (fun _ _ _ h => h) (Or.inl ⟨by rfl, ?_⟩) (by assumption) ?_; rotate_left; focus (intro W hSw; (try dsimp only at hSw); go_simp; (first | done | with_reducible rfl))
    (try simp only [List.getElem_toArray, List.getElem_cons_succ, List.getElem_cons_zero, Act.put, List.setIfInBounds_toArray, List.set_cons_zero, List.set_cons_succ])
    refine wpAnyH_ready (rs := [6]) (by kernel_rfl) (by simp) ?_
    refine AllReadyH.cons (o := _) rfl (fun K hK => ?_) AllReadyH.nil
    go_simp
    go_at_call 102
    refine (CA.out _).mono ?_
    rintro e w3 ⟨rfl, hb⟩
    have HB3 := Lib.hid (HB2.out.trans (hb.mono HB2.out.size))
    obtain ⟨t0, t1, t2, t3, t4, t5, t6, t7⟩ := hS
    have hS3 : (w3.cell? ⟨w.heap.size, 0, none⟩ = some (.int .i64 r.id) ∧ w3.cell? ⟨w.heap.size, 1, none⟩ = some (.string r.nm) ∧ w3.cell? ⟨w.heap.size, 2, none⟩ = some (.string r.cl) ∧ w3.cell? ⟨w.heap.size, 3, none⟩ = some (.int .i64 r.bo) ∧ w3.cell? ⟨w.heap.size, 4, none⟩ = some (.bool r.wo) ∧ w3.cell? ⟨w.heap.size, 5, none⟩ = some (.int .i64 r.ca) ∧ w3.cell? ⟨bl, 0, none⟩ = some (.int .i64 lo) ∧ w3.cell? ⟨bh, 0, none⟩ = some (.int .i64 hi)) := ⟨(hb.cell (World.block_lt_of_cell? w2 _ t0)).trans t0, (hb.cell (World.block_lt_of_cell? w2 _ t1)).trans t1, (hb.cell (World.block_lt_of_cell? w2 _ t2)).trans t2, (hb.cell (World.block_lt_of_cell? w2 _ t3)).trans t3, (hb.cell (World.block_lt_of_cell? w2 _ t4)).trans t4, (hb.cell (World.block_lt_of_cell? w2 _ t5)).trans t5, (hb.cell (World.block_lt_of_cell? w2 _ t6)).trans t6, (hb.cell (World.block_lt_of_cell? w2 _ t7)).trans t7⟩
    clear hb
    go_wp2_with fail
    refine hK.out _ _ hS3 (fun _ => ?_)
    clear hK K
    refine wpAnyH_take (i := 8) (oi := _) (v := ?_) rfl (by kernel_rfl) (by kernel_rfl) (by kernel_rfl) (fun _ _ _ h => h) (Or.inl ⟨by rfl, ?_⟩) (by assumption) ?_; rotate_left; focus (intro W hSw; (try dsimp only at hSw); go_simp; (first | done | with_reducible rfl))
    (try simp only [List.getElem_toArray, List.getElem_cons_succ, List.getElem_cons_zero, Act.put, List.setIfInBounds_toArray, List.set_cons_zero, List.set_cons_succ])
    refine wpAnyH_take (i := 9) (oi := _) (v := ?_) rfl (by kernel_rfl) (by kernel_rfl) (by kernel_rfl) (fun _ _ _ h => h) (Or.inl ⟨by rfl, ?_⟩) (by assumption) ?_; rotate_left; focus (intro W hSw; (try dsimp only at hSw); go_simp; (first | done | with_reducible rfl))
    (try simp only [List.getElem_toArray, List.getElem_cons_succ, List.getElem_cons_zero, Act.put, List.setIfInBounds_toArray, List.set_cons_zero, List.set_cons_succ])
    refine wpAnyH_take (i := 10) (oi := _) (v := ?_) rfl (by kernel_rfl) (by kernel_rfl) (by kernel_rfl) (fun _ _ _ h => h) (Or.inl ⟨by rfl, ?_⟩) (by assumption) ?_; rotate_left; focus (intro W hSw; (try dsimp only at hSw); go_simp; (first | done | with_reducible rfl))
    (try simp only [List.getElem_toArray, List.getElem_cons_succ, List.getElem_cons_zero, Act.put, List.setIfInBounds_toArray, List.set_cons_zero, List.set_cons_succ])
    refine wpAnyH_done (by kernel_rfl) ?_ _
    refine NoPanic.normal ?_
    (try simp only [List.getElem_toArray, List.getElem_cons_succ, List.getElem_cons_zero, Act.put, List.setIfInBounds_toArray, List.set_cons_zero, List.set_cons_succ])
    go_wp2
    go_ret
    exact ⟨ret_bool HQ.out, HB3.out⟩
  · have hd1 : decide (lo ≤ a) = false := decide_eq_false h1
    have HQ := Lib.hid (show false = o from by rw [← HO.out]; simp [h1])
    clear h1 HO
    refine wp_region_noPanic ?_
    refine wp_region_held_drew (S := (fun Wx : World => Wx.cell? ⟨w.heap.size, 0, none⟩ = some (.int .i64 r.id) ∧ Wx.cell? ⟨w.heap.size, 1, none⟩ = some (.string r.nm) ∧ Wx.cell? ⟨w.heap.size, 2, none⟩ = some (.string r.cl) ∧ Wx.cell? ⟨w.heap.size, 3, none⟩ = some (.int .i64 r.bo) ∧ Wx.cell? ⟨w.heap.size, 4, none⟩ = some (.bool r.wo) ∧ Wx.cell? ⟨w.heap.size, 5, none⟩ = some (.int .i64 r.ca) ∧ Wx.cell? ⟨bl, 0, none⟩ = some (.int .i64 lo) ∧ Wx.cell? ⟨bh, 0, none⟩ = some (.int .i64 hi))) (by kernel_rfl) ⟨p0, p1, p2, p3, p4, p5, l0, l1⟩ (fun hHeld => ?_)
    refine wpAnyH_take (i := 0) (oi := _) (v := ?_) rfl (by kernel_rfl) (by kernel_rfl) (by kernel_rfl) (fun _ _ _ h => h) (Or.inl ⟨by rfl, ?_⟩) (by assumption) ?_; rotate_left; focus (intro W hSw; (try dsimp only at hSw); go_simp; (first | done | with_reducible rfl))
    (try simp only [List.getElem_toArray, List.getElem_cons_succ, List.getElem_cons_zero, Act.put, List.setIfInBounds_toArray, List.set_cons_zero, List.set_cons_succ])
    refine wpAnyH_take (i := 2) (oi := _) (v := ?_) rfl (by kernel_rfl) (by kernel_rfl) (by kernel_rfl) (fun _ _ _ h => h) (Or.inl ⟨by rfl, ?_⟩) (by assumption) ?_; rotate_left; focus (intro W hSw; (try dsimp only at hSw); go_simp; (first | done | with_reducible rfl))
    (try simp only [List.getElem_toArray, List.getElem_cons_succ, List.getElem_cons_zero, Act.put, List.setIfInBounds_toArray, List.set_cons_zero, List.set_cons_succ])
    refine wpAnyH_ready (rs := [1]) (by kernel_rfl) (by simp) ?_
    refine AllReadyH.cons (o := _) rfl (fun K hK => ?_) AllReadyH.nil
    go_simp
    go_at_call 102
    refine (CA.out _).mono ?_
    rintro e w2 ⟨rfl, hb⟩
    have HB2 := Lib.hid (HB.out.drew.trans (hb.mono HB.out.size))
    have hS : (w2.cell? ⟨w.heap.size, 0, none⟩ = some (.int .i64 r.id) ∧ w2.cell? ⟨w.heap.size, 1, none⟩ = some (.string r.nm) ∧ w2.cell? ⟨w.heap.size, 2, none⟩ = some (.string r.cl) ∧ w2.cell? ⟨w.heap.size, 3, none⟩ = some (.int .i64 r.bo) ∧ w2.cell? ⟨w.heap.size, 4, none⟩ = some (.bool r.wo) ∧ w2.cell? ⟨w.heap.size, 5, none⟩ = some (.int .i64 r.ca) ∧ w2.cell? ⟨bl, 0, none⟩ = some (.int .i64 lo) ∧ w2.cell? ⟨bh, 0, none⟩ = some (.int .i64 hi)) := ⟨(hb.cell (World.block_lt_of_cell? wz.drew _ p0)).trans p0, (hb.cell (World.block_lt_of_cell? wz.drew _ p1)).trans p1, (hb.cell (World.block_lt_of_cell? wz.drew _ p2)).trans p2, (hb.cell (World.block_lt_of_cell? wz.drew _ p3)).trans p3, (hb.cell (World.block_lt_of_cell? wz.drew _ p4)).trans p4, (hb.cell (World.block_lt_of_cell? wz.drew _ p5)).trans p5, (hb.cell (World.block_lt_of_cell? wz.drew _ l0)).trans l0, (hb.cell (World.block_lt_of_cell? wz.drew _ l1)).trans l1⟩
    clear hb
    go_wp2_with fail
    refine hK.out _ _ hS (fun _ => ?_)
    clear hK K hHeld
    refine wpAnyH_take (i := 3) (oi := _) (v := ?_) rfl (by kernel_rfl) (by kernel_rfl) (by kernel_rfl) (fun _ _ _ h => h) (Or.inl ⟨by rfl, ?_⟩) (by assumption) ?_; rotate_left; focus (intro W hSw; (try dsimp only at hSw); go_simp; (first | done | with_reducible rfl))
    (try simp only [List.getElem_toArray, List.getElem_cons_succ, List.getElem_cons_zero, Act.put, List.setIfInBounds_toArray, List.set_cons_zero, List.set_cons_succ])
    refine wpAnyH_take (i := 4) (oi := _) (v := ?_) rfl (by kernel_rfl) (by kernel_rfl) (by kernel_rfl) (fun _ _ _ h => h) (Or.inl ⟨by rfl, ?_⟩) (by assumption) ?_; rotate_left; focus (intro W hSw; (try dsimp only at hSw); go_simp; (first | done | with_reducible rfl))
    (try simp only [List.getElem_toArray, List.getElem_cons_succ, List.getElem_cons_zero, Act.put, List.setIfInBounds_toArray, List.set_cons_zero, List.set_cons_succ])
    refine wpAnyH_take (i := 5) (oi := _) (v := _) rfl (by kernel_rfl) (by kernel_rfl) (by kernel_rfl) (fun _ _ _ h => h) (Or.inr ⟨by rfl, rfl⟩) (by assumption) ?_
    (try simp only [List.getElem_toArray, List.getElem_cons_succ, List.getElem_cons_zero, Act.put, List.setIfInBounds_toArray, List.set_cons_zero, List.set_cons_succ])
    refine wpAnyH_take (i := 6) (oi := _) (v := _) rfl (by kernel_rfl) (by kernel_rfl) (by kernel_rfl) (fun _ _ _ h => h) (Or.inr ⟨by rfl, rfl⟩) (by assumption) ?_
    (try simp only [List.getElem_toArray, List.getElem_cons_succ, List.getElem_cons_zero, Act.put, List.setIfInBounds_toArray, List.set_cons_zero, List.set_cons_succ])
    refine wpAnyH_take (i := 7) (oi := _) (v := _) rfl (by kernel_rfl) (by kernel_rfl) (by kernel_rfl) (fun _ _ _ h => h) (Or.inr ⟨by rfl, rfl⟩) (by assumption) ?_
    (try simp only [List.getElem_toArray, List.getElem_cons_succ, List.getElem_cons_zero, Act.put, List.setIfInBounds_toArray, List.set_cons_zero, List.set_cons_succ])
    refine wpAnyH_take (i := 8) (oi := _) (v := _) rfl (by kernel_rfl) (by kernel_rfl) (by kernel_rfl) (fun _ _ _ h => h) (Or.inr ⟨by rfl, rfl⟩) (by assumption) ?_
    (try simp only [List.getElem_toArray, List.getElem_cons_succ, List.getElem_cons_zero, Act.put, List.setIfInBounds_toArray, List.set_cons_zero, List.set_cons_succ])
    refine wpAnyH_take (i := 9) (oi := _) (v := ?_) rfl (by kernel_rfl) (by kernel_rfl) (by kernel_rfl) (fun _ _ _ h => h) (Or.inl ⟨by rfl, ?_⟩) (by assumption) ?_; rotate_left; focus (intro W hSw; (try dsimp only at hSw); go_simp; (first | done | with_reducible rfl))
    (try simp only [List.getElem_toArray, List.getElem_cons_succ, List.getElem_cons_zero, Act.put, List.setIfInBounds_toArray, List.set_cons_zero, List.set_cons_succ])
    refine wpAnyH_take (i := 10) (oi := _) (v := ?_) rfl (by kernel_rfl) (by kernel_rfl) (by kernel_rfl) (fun _ _ _ h => h) (Or.inl ⟨by rfl, ?_⟩) (by assumption) ?_; rotate_left; focus (intro W hSw; (try dsimp only at hSw); go_simp; (first | done | with_reducible rfl))
    (try simp only [List.getElem_toArray, List.getElem_cons_succ, List.getElem_cons_zero, Act.put, List.setIfInBounds_toArray, List.set_cons_zero, List.set_cons_succ])
    refine wpAnyH_done (by kernel_rfl) ?_ _
    refine NoPanic.normal ?_
    (try simp only [List.getElem_toArray, List.getElem_cons_succ, List.getElem_cons_zero, Act.put, List.setIfInBounds_toArray, List.set_cons_zero, List.set_cons_succ])
    go_wp2
    go_ret
    exact ⟨ret_bool HQ.out, HB2.out⟩

/-- What RunnersAged answers. -/
def rgB (rs : List Ru) (lo hi : Int) : Bool := goodB rs && decide (0 ≤ lo ∧ lo ≤ hi ∧ hi ≤ 120)
def rgL (rs : List Ru) (lo hi : Int) : List Int := if rgB rs lo hi then idsL (agedB lo hi) rs else []
theorem rg_len (rs : List Ru) (lo hi : Int) : (rgL rs lo hi).length ≤ rs.length := by
  unfold rgL
  split
  · exact ids_len _ _
  · exact Nat.zero_le _
/-- The answer: a list of the call's own, and whether. -/
def NPost (w : World) (zs : List Int) (ok : Bool) (e : Ending) (w' : World) : Prop := ∃ v, e = .returned (.tuple #[v, .bool ok]) ∧ IntK.Own w' w.heap.size v zs ∧ Below w.heap.size w w'
theorem own_none (w : World) (b : Nat) (hb : b ≤ w.heap.size) : IntK.Own (w.alloc (.cells #[] 3)) b (.slice (some ⟨w.heap.size, 0, none⟩) 0 0) [] := World.ownsRow_made w #[] 0 hb (Nat.zero_le _) rfl

set_option maxRecDepth 20000 in
set_option maxHeartbeats 4000000 in
theorem impl_any (rs : List Ru) (hf : ∀ i, i < rs.length → Is (at_ rs i)) (hl : rs.length ≤ 1048576) (lo hi : Int) (a : Option Addr) (cap : Nat) (w : World) (hc : rs.length ≤ cap) (hr : Row w a rs) :
    Calls Try.prog 47 #[.slice a rs.length cap, .int .i64 lo, .int .i64 hi] w (NPost w (rgL rs lo hi) (rgB rs lo hi)) := by
  have H := Lib.hid hr
  have HB := Lib.hid (((Below.refl w.heap.size w).alloc (Nat.le_refl _) (.cells #[.int .i64 lo] 3)).alloc (by simp) (.cells #[.int .i64 hi] 3))
  have HK1 := Lib.hid ((Blk.new w 3 #[.int .i64 lo]).alloc (.cells #[.int .i64 hi] 3))
  have HK2 := Lib.hid (show Blk ((w.alloc (.cells #[.int .i64 lo] 3)).alloc (.cells #[.int .i64 hi] 3)) (w.heap.size + 1) 3 #[.int .i64 hi] from by simpa using Blk.new (w.alloc (.cells #[.int .i64 lo] 3)) 3 #[.int .i64 hi])
  have hml : rs.length ≤ maxLen := by unfold maxLen; omega
  obtain ⟨g, hg⟩ : ∃ g, goodB rs = g := ⟨_, rfl⟩
  have c1 := Lib.hid (fun w hr => hg ▸ RuA.impl_any a cap rs w hc hr hf hml)
  have HG := Lib.hid hg
  obtain ⟨ok, hok⟩ : ∃ ok, rgB rs lo hi = ok := ⟨_, rfl⟩
  obtain ⟨zs, hzs⟩ : ∃ zs, rgL rs lo hi = zs := ⟨_, rfl⟩
  have HO := Lib.hid hok
  have HZ := Lib.hid hzs
  rw [hok, hzs]
  clear hr hg hok hzs hf
  go_enter Try.func47, Try.ntmps47
  go_wp2_with fail
  refine (c1.out _ (H.out.later (((Below.refl w.heap.size w).alloc (Nat.le_refl _) _).alloc (by simp) _))).mono ?_
  rintro e w1 ⟨rfl, hb⟩
  have HB1 := Lib.hid (HB.out.trans (hb.mono HB.out.size))
  have HK11 := Lib.hid (HK1.out.later hb)
  have HK21 := Lib.hid (HK2.out.later hb)
  clear hb HB HK1 HK2
  have p0 : w1.cell? ⟨w.heap.size, 0, none⟩ = some (.int .i64 lo) := HK11.out.cell 0 rfl
  have q0 : w1.cell? ⟨w.heap.size + 1, 0, none⟩ = some (.int .i64 hi) := HK21.out.cell 0 rfl
  have hsz := HB1.out.size
  cases g with
  | false =>
    have h1 : ok = false := by rw [← HO.out]; unfold rgB; rw [HG.out]; rfl
    have h2 : zs = [] := by rw [← HZ.out]; unfold rgL rgB; rw [HG.out]; rfl
    subst h1 h2
    go_wp2
    go_ret2
    exact ⟨_, rfl, own_none w1 w.heap.size hsz, HB1.out.alloc hsz _⟩
  | true =>
    obtain ⟨d, hd⟩ : ∃ d, decide (0 ≤ lo ∧ lo ≤ hi ∧ hi ≤ 120) = d := ⟨_, rfl⟩
    have c2 := Lib.hid (fun w => hd ▸ ages_any lo hi w)
    have HD := Lib.hid hd
    clear hd
    go_wp2_with fail
    refine (c2.out _).mono ?_
    rintro e w2 ⟨rfl, rfl⟩
    cases d with
    | false =>
      have h1 : ok = false := by rw [← HO.out]; unfold rgB; rw [HD.out]; simp
      have h2 : zs = [] := by rw [← HZ.out]; unfold rgL rgB; rw [HD.out]; simp
      subst h1 h2
      go_wp2
      go_ret2
      exact ⟨_, rfl, own_none w2 w.heap.size hsz, HB1.out.alloc hsz _⟩
    | true =>
      have h1 : ok = true := by rw [← HO.out]; unfold rgB; rw [HG.out, HD.out]; rfl
      have h2 : idsL (agedB lo hi) rs = zs := by rw [← HZ.out]; unfold rgL rgB; rw [HG.out, HD.out]; rfl
      subst h1
      have c3 := Lib.hid (ids_any 101 #[.pointer (some ⟨w.heap.size, 0, none⟩), .pointer (some ⟨w.heap.size + 1, 0, none⟩)] (agedB lo hi) (fun r => 1920 ≤ r.bo ∧ r.bo ≤ 2020) w2 (fun args w => enter_of Try.func101 (by kernel_rfl) rfl args w)
        (fun r hr w' hb => aged_any r hr.1 hr.2 lo hi w.heap.size (w.heap.size + 1) w' ((HK11.out.later hb).cell 0 rfl) ((HK21.out.later hb).cell 0 rfl)) a cap rs (H.out.later HB1.out) (fun i hi => good_bo HG.out hi) hl)
      rw [h2] at c3
      clear h2
      go_wp2_with fail
      refine c3.out.mono ?_
      rintro e w3 ⟨v, rfl, ho, hb⟩
      have HO3 := Lib.hid ho
      have HB3 := Lib.hid (HB1.out.trans (hb.mono hsz))
      clear ho hb
      go_wp2
      go_ret2
      exact ⟨_, rfl, IntS.rebase HO3.out hsz, HB3.out⟩


set_option maxRecDepth 20000 in
set_option maxHeartbeats 4000000 in
theorem spec_any (rs : List Ru) (hf : ∀ i, i < rs.length → Is (at_ rs i)) (hl : rs.length ≤ 1048576) (lo hi : Int) (a : Option Addr) (cap : Nat) (w : World) (hr : Row w a rs) :
    Calls Try.prog 52 #[.slice a rs.length cap, .int .i64 lo, .int .i64 hi] w (NPost w (rgL rs lo hi) (rgB rs lo hi)) := by
  obtain ⟨t0, hi0, hz0, hz1, hz2⟩ := info_parts iInfo
  have H := Lib.hid hr
  have hml : rs.length ≤ maxLen := by unfold maxLen; omega
  obtain ⟨g, hg⟩ : ∃ g, goodB rs = g := ⟨_, rfl⟩
  have c1 := Lib.hid (fun w hr => hg ▸ good_any a cap rs w hr hf hml)
  have HG := Lib.hid hg
  obtain ⟨ok, hok⟩ : ∃ ok, rgB rs lo hi = ok := ⟨_, rfl⟩
  obtain ⟨zs, hzs⟩ : ∃ zs, rgL rs lo hi = zs := ⟨_, rfl⟩
  have HO := Lib.hid hok
  have HZ := Lib.hid hzs
  rw [hok, hzs]
  obtain ⟨n, hn⟩ : ∃ n, rs.length = n := ⟨_, rfl⟩
  have HN := Lib.hid hn
  rw [hn] at hl hml c1 ⊢
  have HS0 := Lib.hid (Gr.start w)
  clear hr hg hok hzs hf hn
  go_enter Try.func52, Try.ntmps52
  go_wp2_with fail
  refine (c1.out _ (H.out.later HS0.out.b)).mono ?_
  rintro e w1 ⟨rfl, hb⟩
  have HS1 := Lib.hid (HS0.out.below hb)
  clear hb HS0
  cases g with
  | false =>
    have h1 : ok = false := by rw [← HO.out]; unfold rgB; rw [HG.out]; rfl
    have h2 : zs = [] := by rw [← HZ.out]; unfold rgL rgB; rw [HG.out]; rfl
    subst h1 h2
    go_wp2
    go_ret2
    exact ⟨_, rfl, HS1.out.own, HS1.out.b⟩
  | true =>
    obtain ⟨d1, hd1⟩ : ∃ d, decide (0 ≤ hi ∧ hi ≤ 120) = d := ⟨_, rfl⟩
    obtain ⟨d2, hd2⟩ : ∃ d, decide (0 ≤ lo ∧ lo ≤ hi) = d := ⟨_, rfl⟩
    have c2 := Lib.hid (fun w => hd1 ▸ in_any hi 0 120 w)
    have c3 := Lib.hid (fun w => hd2 ▸ in_any lo 0 hi w)
    have HD := Lib.hid (show decide (0 ≤ lo ∧ lo ≤ hi ∧ hi ≤ 120) = (d1 && d2) from by
      rw [← hd1, ← hd2, ← Bool.decide_and]
      exact decide_eq_decide.2 (by omega))
    clear hd1 hd2
    go_wp2_with fail
    refine (c2.out _).mono ?_
    rintro e w2 ⟨rfl, rfl⟩
    cases d1 with
    | false =>
      have h1 : ok = false := by rw [← HO.out]; unfold rgB; rw [HD.out]; simp
      have h2 : zs = [] := by rw [← HZ.out]; unfold rgL rgB; rw [HD.out]; simp
      subst h1 h2
      go_wp2
      go_ret2
      exact ⟨_, rfl, HS1.out.own, HS1.out.b⟩
    | true =>
    go_wp2_with fail
    refine (c3.out _).mono ?_
    rintro e w3 ⟨rfl, rfl⟩
    cases d2 with
    | false =>
      have h1 : ok = false := by rw [← HO.out]; unfold rgB; rw [HD.out]; simp
      have h2 : zs = [] := by rw [← HZ.out]; unfold rgL rgB; rw [HD.out]; simp
      subst h1 h2
      go_wp2
      go_ret2
      exact ⟨_, rfl, HS1.out.own, HS1.out.b⟩
    | true =>
      have h1 : ok = true := by rw [← HO.out]; unfold rgB; rw [HG.out, HD.out]; rfl
      have h2 := Lib.hid (show idsL (agedB lo hi) rs = zs from by rw [← HZ.out]; unfold rgL rgB; rw [HG.out, HD.out]; rfl)
      subst h1
      go_wp2_with fail
      go_loopg [9, 8] n (fun gk i v wr => ∃ k : Nat, k ≤ n ∧ gk = n - k ∧ i = .int .i64 k ∧ Gr w v (idsL (agedB lo hi) (rs.take k)) wr)
      case atStart => exact ⟨0, Nat.zero_le _, rfl, rfl, by simpa [idsL] using HS1.out⟩
      case round =>
        clear HS1
        obtain ⟨k, hk, hgk, rfl, hS⟩ := hrel
        have HS := Lib.hid hS
        clear hS
        by_cases hlt : k < n
        · obtain ⟨b, off, rfl, k0, k1, k2, k3, k4, k5⟩ := (H.out.later HS.out.b).cells (i := k) (by rw [HN.out]; exact hlt)
          obtain ⟨hb1, hb2⟩ := good_bo HG.out (j := k) (by rw [HN.out]; exact hlt)
          obtain ⟨y, hy⟩ : ∃ y, at_ rs k = y := ⟨_, rfl⟩
          rw [hy] at k0 k1 k2 k3 k4 k5 hb1 hb2
          have HY := Lib.hid hy
          obtain ⟨o, ho⟩ : ∃ o, agedB lo hi y = o := ⟨_, rfl⟩
          have HOo := Lib.hid ho
          have CP := Lib.hid (fun w => (show decide (lo ≤ 2026 - y.bo ∧ 2026 - y.bo ≤ hi) = o from ho) ▸ in_any (2026 - y.bo) lo hi w)
          clear hy ho
          cases o with
          | false =>
            have HSk := Lib.hid (ids_skip (p := agedB lo hi) (rs := rs) (k := k) (by rw [HN.out]; exact hlt) (by rw [HY.out]; exact HOo.out))
            go_wp2_with fail
            refine (CP.out _).mono ?_
            rintro e w4 ⟨rfl, rfl⟩
            go_wp2_with fail
            go_roundg (n - (k + 1))
            case measure => omega
            case rel => exact ⟨k + 1, by omega, rfl, by go_num, by rw [HSk.out]; exact HS.out⟩
          | true =>
            have HTk := Lib.hid (ids_take (p := agedB lo hi) (rs := rs) (k := k) (by rw [HN.out]; exact hlt) (by rw [HY.out]; exact HOo.out))
            have hml2 := ids_len (agedB lo hi) (rs.take k)
            rw [RuA.take_len (rs := rs) (k := k) (by rw [HN.out]; omega)] at hml2
            obtain ⟨m, hm⟩ : ∃ m, (idsL (agedB lo hi) (rs.take k)).length = m := ⟨_, rfl⟩
            rw [hm] at hml2
            have HM := Lib.hid hm
            clear hm
            go_wp2_with fail
            refine (CP.out _).mono ?_
            rintro e w4 ⟨rfl, rfl⟩
            have hown := HS.out.own.below ((Below.refl _ _).alloc (Nat.le_refl _) (.cells #[.int .i64 y.id] 3))
            unfold OwnI at hown
            rw [HM.out] at hown
            have HTa := Lib.hid (HS.out.alloc (.cells #[.int .i64 y.id] 3))
            have hsz := HS.out.b.size
            go_wp2_with (at_builtin; (refine wpList_append_own _ rfl (.tmp 41) (.tmp 47) 24 rfl w.heap.size 3 t0 (.int .i64 0) 1 8 Try.underlying24 hi0 hz0 hz1 hz2 rfl (by decide) _ m _ rfl hown ⟨_, 0, none⟩ 1 1 [.int .i64 y.id] rfl rfl (cell_one_new _ _ _) (by simp [Value.oneCell']) (by unfold maxLen; omega) (by omega) (by simp; omega) ?_; intro v' w3 hown3 hgr3 _; have HP3 := Lib.hid (HTa.out.put HM.out hgr3 hown3); clear hown3 hgr3))
            go_roundg (n - (k + 1))
            case measure => omega
            case rel => exact ⟨k + 1, by omega, rfl, by go_num, by rw [HTk.out, HY.out]; exact HP3.out⟩
        · obtain rfl : k = n := by omega
          have hq : Gr w u8 zs wr := by
            have h := HS.out
            rw [List.take_of_length_le (by rw [HN.out]; exact Nat.le_refl _), h2.out] at h
            exact h
          have HQ := Lib.hid hq
          clear hq
          go_wp2_with fail
          go_ret2
          exact ⟨_, rfl, HQ.out.own, HQ.out.b⟩

theorem both (rs : List Ru) (hf : ∀ i, i < rs.length → Is (at_ rs i)) (hl : rs.length ≤ 1048576) (lo : Int) (_ : (Lit.int IntKind.i64 lo).wf = true) (hi : Int) (_ : (Lit.int IntKind.i64 hi).wf = true) : ∃ (zs : List Int) (ok : Bool), zs.length ≤ 1048576 ∧
    (∀ a cap w, rs.length ≤ cap → Row w a rs → Calls Try.prog 52 #[.slice a rs.length cap, .int .i64 lo, .int .i64 hi] w fun e w' => ∃ v, e = .returned (.tuple #[v, .bool ok]) ∧ IntK.Own w' w.heap.size v zs ∧ Below w.heap.size w w') ∧
    (∀ a cap w, rs.length ≤ cap → Row w a rs → Calls Try.prog 47 #[.slice a rs.length cap, .int .i64 lo, .int .i64 hi] w fun e w' => ∃ v, e = .returned (.tuple #[v, .bool ok]) ∧ IntK.Own w' w.heap.size v zs ∧ Below w.heap.size w w') :=
  ⟨rgL rs lo hi, rgB rs lo hi, by have := rg_len rs lo hi; omega, fun a cap w _ hr => spec_any rs hf hl lo hi a cap w hr, fun a cap w hc hr => impl_any rs hf hl lo hi a cap w hc hr⟩

end Go.Proofs.Ytjngnjokbnklfaa.RuE
