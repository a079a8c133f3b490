/- BestClass: the program's parts (cmp.Or, compareWidths, slices.MinFunc). -/
import Derived.Test.YtleoljnofdajfaaGreatDoorKaH
import Derived.Test.YtleoljnofdajfaaGreatDoorRuP
namespace Go.Proofs.YtleoljnofdajfaaGreatDoor.KaB
open Go.RowKit Lb Bk InA KlI KaA KaG KaD KaF KaH
open KlK (at_ at_lt no Row Own cells cells_one blk_cells info blk_all)
open RuP (cmpZ cmp_any)
set_option linter.unusedSimpArgs false
set_option linter.unusedVariables false

/-- Twice the width of the ages, and one more for both sexes. -/
def bothS (c : Kl) : Bool := c.wo && c.me
def keyK (c : Kl) : Int := 2 * (c.hi - c.lo) + if bothS c then 1 else 0
def sxK (c : Kl) : Int := if bothS c then 2 else 1
def orZ (x y : Int) : Int := if x = 0 then y else x
def cwZ (x y : Kl) : Int := orZ (cmpZ (x.hi - x.lo) (y.hi - y.lo)) (cmpZ (sxK x) (sxK y))
theorem ret_int {a b : Int} (h : a = b) : Ending.returned (.int .i64 a) = .returned (.int .i64 b) := by rw [h]
theorem cw_lt (x y : Kl) : decide (cwZ x y < 0) = decide (keyK x < keyK y) := by
  apply decide_eq_decide.2
  unfold cwZ orZ cmpZ sxK keyK
  cases bothS x <;> cases bothS y <;> simp only [if_true, if_false, Bool.false_eq_true] <;> (repeat' split) <;> omega
/-- The first one with the smallest key. -/
def upd (o : Option Kl) (x : Kl) : Option Kl := match o with
  | none => some x
  | some m => if keyK x < keyK m then some x else some m
def mo (fs : List Kl) : Option Kl := fs.foldl upd none
theorem mo_snoc (fs : List Kl) (x : Kl) : mo (fs ++ [x]) = upd (mo fs) x := by
  unfold mo
  rw [List.foldl_append]
  rfl
theorem mo_take {fs : List Kl} {k : Nat} (h : k < fs.length) : mo (fs.take (k + 1)) = upd (mo (fs.take k)) (at_ fs k) := by
  rw [List.take_succ_eq_append_getElem h, mo_snoc, at_lt h]
theorem mo_none : ∀ {fs : List Kl}, mo fs = none ↔ fs = [] := by
  intro fs
  constructor
  · intro h
    rcases List.eq_nil_or_concat fs with e | ⟨gs, x, e⟩
    · exact e
    · rw [e, List.concat_eq_append, mo_snoc] at h
      unfold upd at h
      split at h
      · cases h
      · split at h <;> cases h
  · rintro rfl; rfl

set_option maxHeartbeats 1000000 in
theorem or_any (x y : Int) (g : Nat) (w : World) (h0 : w.cell? ⟨g, 0, none⟩ = some (.int .i64 x)) (h1 : w.cell? ⟨g, 1, none⟩ = some (.int .i64 y)) :
    Calls Tryz.prog 73 #[.slice (some ⟨g, 0, none⟩) 2 2] w fun e w' => e = .returned (.int .i64 (orZ x y)) ∧ w' = w := by
  have H0 := Lib.hid h0
  have H1 := Lib.hid h1
  obtain ⟨z, hz⟩ : ∃ z, orZ x y = z := ⟨_, rfl⟩
  have HZ := Lib.hid (show (if x = 0 then y else x) = z from hz)
  rw [hz]
  clear h0 h1 hz
  go_enter Tryz.func73, Tryz.ntmps73
  go_wp2
  go_loop [8, 5] (fun i _ => ∃ k : Nat, k ≤ 2 ∧ i = .int .i64 k ∧ (1 ≤ k → x = 0) ∧ (2 ≤ k → y = 0)) (fun i _ => 2 - (intOf i).toNat)
  case atStart => exact ⟨0, by omega, rfl, (fun h => by omega), (fun h => by omega)⟩
  case round =>
    obtain ⟨k, hk, rfl, hx, hy⟩ := hrel
    have HX := Lib.hid hx
    have HY := Lib.hid hy
    clear hx hy
    rcases (show k = 0 ∨ k = 1 ∨ k = 2 by omega) with rfl | rfl | rfl
    · have c0 := H0.out
      by_cases hx0 : x = 0
      · have d0 : (x != 0) = false := by simp [hx0]
        have K := Lib.hid hx0
        clear hx0
        go_wp2
        go_round
        case rel => exact ⟨1, by omega, by go_num, fun _ => K.out, fun h => by omega⟩
        case measure => simp [intOf]; done
      · have d0 : (x != 0) = true := by simpa using hx0
        have K := Lib.hid (show x = z from by rw [← HZ.out, if_neg hx0])
        clear hx0
        go_wp2
        go_ret
        exact ⟨ret_int K.out, rfl⟩
    · have c1 := H1.out
      by_cases hy0 : y = 0
      · have d0 : (y != 0) = false := by simp [hy0]
        have K := Lib.hid hy0
        clear hy0
        go_wp2
        go_round
        case rel => exact ⟨2, by omega, by go_num, fun _ => HX.out (by omega), fun _ => K.out⟩
        case measure => simp [intOf]; done
      · have d0 : (y != 0) = true := by simpa using hy0
        have K := Lib.hid (show y = z from by rw [← HZ.out, if_pos (HX.out (by omega))])
        clear hy0
        go_wp2
        go_ret
        exact ⟨ret_int K.out, rfl⟩
    · have K := Lib.hid (show (0 : Int) = z from by rw [← HZ.out, if_pos (HX.out (by omega)), HY.out (by omega)])
      go_wp2
      go_ret
      exact ⟨ret_int K.out, rfl⟩

set_option maxHeartbeats 1000000 in
theorem sexes_any (c : Kl) (w : World) : Calls Tryz.prog 75 #[.agg #[.int .i64 c.id, .string c.nm, .int .i64 c.lo, .int .i64 c.hi, .bool c.wo, .bool c.me, .int .i64 c.co, .int .i64 c.mo]] w fun e w' => e = .returned (.int .i64 (sxK c)) ∧ Below w.heap.size w w' := by
  obtain ⟨⟨p0, p1, p2, p3, p4, p5, p6, p7⟩, -⟩ := blk_cells (Blk.new w 25 #[.int .i64 c.id, .string c.nm, .int .i64 c.lo, .int .i64 c.hi, .bool c.wo, .bool c.me, .int .i64 c.co, .int .i64 c.mo])
  obtain ⟨z, hz⟩ : ∃ z, sxK c = z := ⟨_, rfl⟩
  obtain ⟨wo, hwo⟩ : ∃ d, c.wo = d := ⟨_, rfl⟩
  obtain ⟨me, hme⟩ : ∃ d, c.me = d := ⟨_, rfl⟩
  have HZ := Lib.hid (show (if (wo && me) then (2 : Int) else 1) = z from by rw [← hz, ← hwo, ← hme]; rfl)
  rw [hz]
  rw [hwo] at p4
  rw [hme] at p5
  clear hz
  cases wo
  · go_enter Tryz.func75, Tryz.ntmps75
    go_wp2
    go_ret
    exact ⟨by rw [← HZ.out]; rfl, (Below.refl _ _).alloc (Nat.le_refl _) _⟩
  · cases me
    all_goals
      go_enter Tryz.func75, Tryz.ntmps75
      go_wp2
      go_ret
      exact ⟨by rw [← HZ.out]; rfl, (Below.refl _ _).alloc (Nat.le_refl _) _⟩

set_option maxRecDepth 20000 in
set_option maxHeartbeats 4000000 in
theorem cw_any (x y : Kl) (hx1 : 0 ≤ x.lo ∧ x.lo ≤ x.hi ∧ x.hi ≤ 120) (hy1 : 0 ≤ y.lo ∧ y.lo ≤ y.hi ∧ y.hi ≤ 120) (w : World) :
    Calls Tryz.prog 44 #[.agg #[.int .i64 x.id, .string x.nm, .int .i64 x.lo, .int .i64 x.hi, .bool x.wo, .bool x.me, .int .i64 x.co, .int .i64 x.mo], .agg #[.int .i64 y.id, .string y.nm, .int .i64 y.lo, .int .i64 y.hi, .bool y.wo, .bool y.me, .int .i64 y.co, .int .i64 y.mo]] w fun e w' => e = .returned (.int .i64 (cwZ x y)) ∧ Below w.heap.size w w' := by
  have HB := Lib.hid (((Below.refl w.heap.size w).alloc (Nat.le_refl _) (.cells #[.int .i64 x.id, .string x.nm, .int .i64 x.lo, .int .i64 x.hi, .bool x.wo, .bool x.me, .int .i64 x.co, .int .i64 x.mo] 25)).alloc (by simp) (.cells #[.int .i64 y.id, .string y.nm, .int .i64 y.lo, .int .i64 y.hi, .bool y.wo, .bool y.me, .int .i64 y.co, .int .i64 y.mo] 25))
  obtain ⟨⟨p0, p1, p2, p3, p4, p5, p6, p7⟩, -⟩ := blk_cells ((Blk.new w 25 #[.int .i64 x.id, .string x.nm, .int .i64 x.lo, .int .i64 x.hi, .bool x.wo, .bool x.me, .int .i64 x.co, .int .i64 x.mo]).alloc (.cells #[.int .i64 y.id, .string y.nm, .int .i64 y.lo, .int .i64 y.hi, .bool y.wo, .bool y.me, .int .i64 y.co, .int .i64 y.mo] 25))
  obtain ⟨⟨q0, q1, q2, q3, q4, q5, q6, q7⟩, -⟩ := blk_cells (show Blk ((w.alloc (.cells #[.int .i64 x.id, .string x.nm, .int .i64 x.lo, .int .i64 x.hi, .bool x.wo, .bool x.me, .int .i64 x.co, .int .i64 x.mo] 25)).alloc (.cells #[.int .i64 y.id, .string y.nm, .int .i64 y.lo, .int .i64 y.hi, .bool y.wo, .bool y.me, .int .i64 y.co, .int .i64 y.mo] 25)) (w.heap.size + 1) 25 #[.int .i64 y.id, .string y.nm, .int .i64 y.lo, .int .i64 y.hi, .bool y.wo, .bool y.me, .int .i64 y.co, .int .i64 y.mo] from by simpa using Blk.new (w.alloc (.cells #[.int .i64 x.id, .string x.nm, .int .i64 x.lo, .int .i64 x.hi, .bool x.wo, .bool x.me, .int .i64 x.co, .int .i64 x.mo] 25)) 25 #[.int .i64 y.id, .string y.nm, .int .i64 y.lo, .int .i64 y.hi, .bool y.wo, .bool y.me, .int .i64 y.co, .int .i64 y.mo])
  obtain ⟨a, ha⟩ : ∃ a, x.hi - x.lo = a := ⟨_, rfl⟩
  obtain ⟨b, hb0⟩ : ∃ b, y.hi - y.lo = b := ⟨_, rfl⟩
  have hwa : IntKind.i64.wrap (x.hi - x.lo) = a := by rw [← ha]; exact IntWalk.i64_in _ (by omega)
  have hwb : IntKind.i64.wrap (y.hi - y.lo) = b := by rw [← hb0]; exact IntWalk.i64_in _ (by omega)
  obtain ⟨d1, hd1⟩ : ∃ d, cmpZ a b = d := ⟨_, rfl⟩
  obtain ⟨s1, hs1⟩ : ∃ d, sxK x = d := ⟨_, rfl⟩
  obtain ⟨s2, hs2⟩ : ∃ d, sxK y = d := ⟨_, rfl⟩
  obtain ⟨d2, hd2⟩ : ∃ d, cmpZ s1 s2 = d := ⟨_, rfl⟩
  obtain ⟨z, hz⟩ : ∃ d, cwZ x y = d := ⟨_, rfl⟩
  have C1 := Lib.hid (fun w => hd1 ▸ cmp_any a b w)
  have C2 := Lib.hid (fun w => hs1 ▸ sexes_any x w)
  have C3 := Lib.hid (fun w => hs2 ▸ sexes_any y w)
  have C4 := Lib.hid (fun w => hd2 ▸ cmp_any s1 s2 w)
  have C5 := Lib.hid (fun g w h0 h1 => (show orZ d1 d2 = z from by rw [← hz, ← hd2, ← hs1, ← hs2, ← hd1, ← ha, ← hb0]; rfl) ▸ or_any d1 d2 g w h0 h1)
  rw [hz]
  clear ha hb0 hd1 hs1 hs2 hd2 hz hx1 hy1
  go_enter Tryz.func44, Tryz.ntmps44
  go_upto_region 1 with (fail)
  generalize (w.alloc (.cells #[.int .i64 x.id, .string x.nm, .int .i64 x.lo, .int .i64 x.hi, .bool x.wo, .bool x.me, .int .i64 x.co, .int .i64 x.mo] 25)).alloc (.cells #[.int .i64 y.id, .string y.nm, .int .i64 y.lo, .int .i64 y.hi, .bool y.wo, .bool y.me, .int .i64 y.co, .int .i64 y.mo] 25) = wz at *
  have hu : undef = Value.tuple #[] := rfl
  refine wp_region_noPanic ?_
  refine wp_region_held_drew (S := (fun Wx : World => Wx.cell? ⟨w.heap.size, 0, none⟩ = some (.int .i64 x.id) ∧ Wx.cell? ⟨w.heap.size, 1, none⟩ = some (.string x.nm) ∧ Wx.cell? ⟨w.heap.size, 2, none⟩ = some (.int .i64 x.lo) ∧ Wx.cell? ⟨w.heap.size, 3, none⟩ = some (.int .i64 x.hi) ∧ Wx.cell? ⟨w.heap.size, 4, none⟩ = some (.bool x.wo) ∧ Wx.cell? ⟨w.heap.size, 5, none⟩ = some (.bool x.me) ∧ Wx.cell? ⟨w.heap.size, 6, none⟩ = some (.int .i64 x.co) ∧ Wx.cell? ⟨w.heap.size, 7, none⟩ = some (.int .i64 x.mo) ∧ Wx.cell? ⟨w.heap.size + 1, 0, none⟩ = some (.int .i64 y.id) ∧ Wx.cell? ⟨w.heap.size + 1, 1, none⟩ = some (.string y.nm) ∧ Wx.cell? ⟨w.heap.size + 1, 2, none⟩ = some (.int .i64 y.lo) ∧ Wx.cell? ⟨w.heap.size + 1, 3, none⟩ = some (.int .i64 y.hi) ∧ Wx.cell? ⟨w.heap.size + 1, 4, none⟩ = some (.bool y.wo) ∧ Wx.cell? ⟨w.heap.size + 1, 5, none⟩ = some (.bool y.me) ∧ Wx.cell? ⟨w.heap.size + 1, 6, none⟩ = some (.int .i64 y.co) ∧ Wx.cell? ⟨w.heap.size + 1, 7, none⟩ = some (.int .i64 y.mo))) (by kernel_rfl) ⟨p0, p1, p2, p3, p4, p5, p6, p7, q0, q1, q2, q3, q4, q5, q6, q7⟩ (fun hHeld => ?_)
  refine wpAnyH_take (i := 0) (oi := _) (v := ?_) rfl (by kernel_rfl) (by kernel_rfl) (by kernel_rfl) (fun _ _ _ h => h) (Or.inl ⟨by rfl, ?_⟩) (by assumption) ?_; rotate_left; focus (intro W hSw; (try dsimp only at hSw); go_simp; (first | done | with_reducible rfl))
  (try simp only [List.getElem_toArray, List.getElem_cons_succ, List.getElem_cons_zero, Act.put, List.setIfInBounds_toArray, List.set_cons_zero, List.set_cons_succ])
  refine wpAnyH_take (i := 1) (oi := _) (v := ?_) rfl (by kernel_rfl) (by kernel_rfl) (by kernel_rfl) (fun _ _ _ h => h) (Or.inl ⟨by rfl, ?_⟩) (by assumption) ?_; rotate_left; focus (intro W hSw; (try dsimp only at hSw); go_simp; (first | done | with_reducible rfl))
  (try simp only [List.getElem_toArray, List.getElem_cons_succ, List.getElem_cons_zero, Act.put, List.setIfInBounds_toArray, List.set_cons_zero, List.set_cons_succ])
  refine wpAnyH_take (i := 2) (oi := _) (v := ?_) rfl (by kernel_rfl) (by kernel_rfl) (by kernel_rfl) (fun _ _ _ h => h) (Or.inl ⟨by rfl, ?_⟩) (by assumption) ?_; rotate_left; focus (intro W hSw; (try dsimp only at hSw); go_simp; (first | done | with_reducible rfl))
  (try simp only [List.getElem_toArray, List.getElem_cons_succ, List.getElem_cons_zero, Act.put, List.setIfInBounds_toArray, List.set_cons_zero, List.set_cons_succ])
  refine wpAnyH_take (i := 3) (oi := _) (v := ?_) rfl (by kernel_rfl) (by kernel_rfl) (by kernel_rfl) (fun _ _ _ h => h) (Or.inl ⟨by rfl, ?_⟩) (by assumption) ?_; rotate_left; focus (intro W hSw; (try dsimp only at hSw); go_simp; (first | done | with_reducible rfl))
  (try simp only [List.getElem_toArray, List.getElem_cons_succ, List.getElem_cons_zero, Act.put, List.setIfInBounds_toArray, List.set_cons_zero, List.set_cons_succ])
  refine wpAnyH_take (i := 4) (oi := _) (v := ?_) rfl (by kernel_rfl) (by kernel_rfl) (by kernel_rfl) (fun _ _ _ h => h) (Or.inl ⟨by rfl, ?_⟩) (by assumption) ?_; rotate_left; focus (intro W hSw; (try dsimp only at hSw); go_simp; (first | done | with_reducible rfl))
  (try simp only [List.getElem_toArray, List.getElem_cons_succ, List.getElem_cons_zero, Act.put, List.setIfInBounds_toArray, List.set_cons_zero, List.set_cons_succ])
  refine wpAnyH_take (i := 5) (oi := _) (v := ?_) rfl (by kernel_rfl) (by kernel_rfl) (by kernel_rfl) (fun _ _ _ h => h) (Or.inl ⟨by rfl, ?_⟩) (by assumption) ?_; rotate_left; focus (intro W hSw; (try dsimp only at hSw); go_simp; (first | done | with_reducible rfl))
  (try simp only [List.getElem_toArray, List.getElem_cons_succ, List.getElem_cons_zero, Act.put, List.setIfInBounds_toArray, List.set_cons_zero, List.set_cons_succ])
  refine wpAnyH_take (i := 6) (oi := _) (v := ?_) rfl (by kernel_rfl) (by kernel_rfl) (by kernel_rfl) (fun _ _ _ h => h) (Or.inl ⟨by rfl, ?_⟩) (by assumption) ?_; rotate_left; focus (intro W hSw; (try dsimp only at hSw); go_simp; (first | done | with_reducible rfl))
  (try simp only [List.getElem_toArray, List.getElem_cons_succ, List.getElem_cons_zero, Act.put, List.setIfInBounds_toArray, List.set_cons_zero, List.set_cons_succ])
  refine wpAnyH_take (i := 7) (oi := _) (v := ?_) rfl (by kernel_rfl) (by kernel_rfl) (by kernel_rfl) (fun _ _ _ h => h) (Or.inl ⟨by rfl, ?_⟩) (by assumption) ?_; rotate_left; focus (intro W hSw; (try dsimp only at hSw); go_simp; (first | done | with_reducible rfl))
  (try simp only [List.getElem_toArray, List.getElem_cons_succ, List.getElem_cons_zero, Act.put, List.setIfInBounds_toArray, List.set_cons_zero, List.set_cons_succ])
  refine wpAnyH_take (i := 8) (oi := _) (v := ?_) rfl (by kernel_rfl) (by kernel_rfl) (by kernel_rfl) (fun _ _ _ h => h) (Or.inl ⟨by rfl, ?_⟩) (by assumption) ?_; rotate_left; focus (intro W hSw; (try dsimp only at hSw); go_simp; (first | done | with_reducible rfl))
  (try simp only [List.getElem_toArray, List.getElem_cons_succ, List.getElem_cons_zero, Act.put, List.setIfInBounds_toArray, List.set_cons_zero, List.set_cons_succ])
  refine wpAnyH_take (i := 9) (oi := _) (v := ?_) rfl (by kernel_rfl) (by kernel_rfl) (by kernel_rfl) (fun _ _ _ h => h) (Or.inl ⟨by rfl, ?_⟩) (by assumption) ?_; rotate_left; focus (intro W hSw; (try dsimp only at hSw); go_simp; (first | done | with_reducible rfl))
  (try simp only [List.getElem_toArray, List.getElem_cons_succ, List.getElem_cons_zero, Act.put, List.setIfInBounds_toArray, List.set_cons_zero, List.set_cons_succ])
  refine wpAnyH_take (i := 11) (oi := _) (v := ?_) rfl (by kernel_rfl) (by kernel_rfl) (by kernel_rfl) (fun _ _ _ h => h) (Or.inl ⟨by rfl, ?_⟩) (by assumption) ?_; rotate_left; focus (intro W hSw; (try dsimp only at hSw); go_simp; (first | done | with_reducible rfl))
  (try simp only [List.getElem_toArray, List.getElem_cons_succ, List.getElem_cons_zero, Act.put, List.setIfInBounds_toArray, List.set_cons_zero, List.set_cons_succ])
  refine wpAnyH_take (i := 13) (oi := _) (v := ?_) rfl (by kernel_rfl) (by kernel_rfl) (by kernel_rfl) (fun _ _ _ h => h) (Or.inl ⟨by rfl, ?_⟩) (by assumption) ?_; rotate_left; focus (intro W hSw; (try dsimp only at hSw); go_simp; (first | done | with_reducible rfl))
  (try simp only [List.getElem_toArray, List.getElem_cons_succ, List.getElem_cons_zero, Act.put, List.setIfInBounds_toArray, List.set_cons_zero, List.set_cons_succ])
  refine wpAnyH_ready (rs := [10]) (by kernel_rfl) (by simp) ?_
  refine AllReadyH.cons (o := _) rfl (fun K hK => ?_) AllReadyH.nil
  go_simp
  go_at_call 74
  refine (C1.out _).mono ?_
  rintro e w1 ⟨rfl, hw1⟩
  have hS1 : (w1.cell? ⟨w.heap.size, 0, none⟩ = some (.int .i64 x.id) ∧ w1.cell? ⟨w.heap.size, 1, none⟩ = some (.string x.nm) ∧ w1.cell? ⟨w.heap.size, 2, none⟩ = some (.int .i64 x.lo) ∧ w1.cell? ⟨w.heap.size, 3, none⟩ = some (.int .i64 x.hi) ∧ w1.cell? ⟨w.heap.size, 4, none⟩ = some (.bool x.wo) ∧ w1.cell? ⟨w.heap.size, 5, none⟩ = some (.bool x.me) ∧ w1.cell? ⟨w.heap.size, 6, none⟩ = some (.int .i64 x.co) ∧ w1.cell? ⟨w.heap.size, 7, none⟩ = some (.int .i64 x.mo) ∧ w1.cell? ⟨w.heap.size + 1, 0, none⟩ = some (.int .i64 y.id) ∧ w1.cell? ⟨w.heap.size + 1, 1, none⟩ = some (.string y.nm) ∧ w1.cell? ⟨w.heap.size + 1, 2, none⟩ = some (.int .i64 y.lo) ∧ w1.cell? ⟨w.heap.size + 1, 3, none⟩ = some (.int .i64 y.hi) ∧ w1.cell? ⟨w.heap.size + 1, 4, none⟩ = some (.bool y.wo) ∧ w1.cell? ⟨w.heap.size + 1, 5, none⟩ = some (.bool y.me) ∧ w1.cell? ⟨w.heap.size + 1, 6, none⟩ = some (.int .i64 y.co) ∧ w1.cell? ⟨w.heap.size + 1, 7, none⟩ = some (.int .i64 y.mo)) := by rw [hw1]; exact ⟨p0, p1, p2, p3, p4, p5, p6, p7, q0, q1, q2, q3, q4, q5, q6, q7⟩
  have HB1 := Lib.hid (show Below w.heap.size w w1 from hw1 ▸ HB.out.drew)
  clear hw1
  go_wp2_with fail
  refine hK.out _ _ hS1 (fun _ => ?_)
  clear hK K hHeld
  obtain ⟨a0, a1, a2, a3, a4, a5, a6, a7, a8, a9, a10, a11, a12, a13, a14, a15⟩ := hS1
  refine wpAnyH_ready (rs := [12]) (by kernel_rfl) (by simp) ?_
  refine AllReadyH.cons (o := _) rfl (fun K hK => ?_) AllReadyH.nil
  go_simp
  go_at_call 75
  refine (C2.out _).mono ?_
  rintro e w2 ⟨rfl, hb⟩
  have HB2 := Lib.hid (HB1.out.trans (hb.mono HB1.out.size))
  have hSs : (w2.cell? ⟨w.heap.size, 0, none⟩ = some (.int .i64 x.id) ∧ w2.cell? ⟨w.heap.size, 1, none⟩ = some (.string x.nm) ∧ w2.cell? ⟨w.heap.size, 2, none⟩ = some (.int .i64 x.lo) ∧ w2.cell? ⟨w.heap.size, 3, none⟩ = some (.int .i64 x.hi) ∧ w2.cell? ⟨w.heap.size, 4, none⟩ = some (.bool x.wo) ∧ w2.cell? ⟨w.heap.size, 5, none⟩ = some (.bool x.me) ∧ w2.cell? ⟨w.heap.size, 6, none⟩ = some (.int .i64 x.co) ∧ w2.cell? ⟨w.heap.size, 7, none⟩ = some (.int .i64 x.mo) ∧ w2.cell? ⟨w.heap.size + 1, 0, none⟩ = some (.int .i64 y.id) ∧ w2.cell? ⟨w.heap.size + 1, 1, none⟩ = some (.string y.nm) ∧ w2.cell? ⟨w.heap.size + 1, 2, none⟩ = some (.int .i64 y.lo) ∧ w2.cell? ⟨w.heap.size + 1, 3, none⟩ = some (.int .i64 y.hi) ∧ w2.cell? ⟨w.heap.size + 1, 4, none⟩ = some (.bool y.wo) ∧ w2.cell? ⟨w.heap.size + 1, 5, none⟩ = some (.bool y.me) ∧ w2.cell? ⟨w.heap.size + 1, 6, none⟩ = some (.int .i64 y.co) ∧ w2.cell? ⟨w.heap.size + 1, 7, none⟩ = some (.int .i64 y.mo)) := ⟨(hb.cell (World.block_lt_of_cell? w1 _ a0)).trans a0, (hb.cell (World.block_lt_of_cell? w1 _ a1)).trans a1, (hb.cell (World.block_lt_of_cell? w1 _ a2)).trans a2, (hb.cell (World.block_lt_of_cell? w1 _ a3)).trans a3, (hb.cell (World.block_lt_of_cell? w1 _ a4)).trans a4, (hb.cell (World.block_lt_of_cell? w1 _ a5)).trans a5, (hb.cell (World.block_lt_of_cell? w1 _ a6)).trans a6, (hb.cell (World.block_lt_of_cell? w1 _ a7)).trans a7, (hb.cell (World.block_lt_of_cell? w1 _ a8)).trans a8, (hb.cell (World.block_lt_of_cell? w1 _ a9)).trans a9, (hb.cell (World.block_lt_of_cell? w1 _ a10)).trans a10, (hb.cell (World.block_lt_of_cell? w1 _ a11)).trans a11, (hb.cell (World.block_lt_of_cell? w1 _ a12)).trans a12, (hb.cell (World.block_lt_of_cell? w1 _ a13)).trans a13, (hb.cell (World.block_lt_of_cell? w1 _ a14)).trans a14, (hb.cell (World.block_lt_of_cell? w1 _ a15)).trans a15⟩
  clear hb
  go_wp2_with fail
  refine hK.out _ _ hSs (fun _ => ?_)
  clear hK K
  obtain ⟨s0, s1, s2, s3, s4, s5, s6, s7, s8, s9, s10, s11, s12, s13, s14, s15⟩ := hSs
  refine wpAnyH_ready (rs := [14]) (by kernel_rfl) (by simp) ?_
  refine AllReadyH.cons (o := _) rfl (fun K hK => ?_) AllReadyH.nil
  go_simp
  go_at_call 75
  refine (C3.out _).mono ?_
  rintro e w3 ⟨rfl, hb⟩
  have HB3 := Lib.hid (HB2.out.trans (hb.mono HB2.out.size))
  have hSt : (w3.cell? ⟨w.heap.size, 0, none⟩ = some (.int .i64 x.id) ∧ w3.cell? ⟨w.heap.size, 1, none⟩ = some (.string x.nm) ∧ w3.cell? ⟨w.heap.size, 2, none⟩ = some (.int .i64 x.lo) ∧ w3.cell? ⟨w.heap.size, 3, none⟩ = some (.int .i64 x.hi) ∧ w3.cell? ⟨w.heap.size, 4, none⟩ = some (.bool x.wo) ∧ w3.cell? ⟨w.heap.size, 5, none⟩ = some (.bool x.me) ∧ w3.cell? ⟨w.heap.size, 6, none⟩ = some (.int .i64 x.co) ∧ w3.cell? ⟨w.heap.size, 7, none⟩ = some (.int .i64 x.mo) ∧ w3.cell? ⟨w.heap.size + 1, 0, none⟩ = some (.int .i64 y.id) ∧ w3.cell? ⟨w.heap.size + 1, 1, none⟩ = some (.string y.nm) ∧ w3.cell? ⟨w.heap.size + 1, 2, none⟩ = some (.int .i64 y.lo) ∧ w3.cell? ⟨w.heap.size + 1, 3, none⟩ = some (.int .i64 y.hi) ∧ w3.cell? ⟨w.heap.size + 1, 4, none⟩ = some (.bool y.wo) ∧ w3.cell? ⟨w.heap.size + 1, 5, none⟩ = some (.bool y.me) ∧ w3.cell? ⟨w.heap.size + 1, 6, none⟩ = some (.int .i64 y.co) ∧ w3.cell? ⟨w.heap.size + 1, 7, none⟩ = some (.int .i64 y.mo)) := ⟨(hb.cell (World.block_lt_of_cell? w2 _ s0)).trans s0, (hb.cell (World.block_lt_of_cell? w2 _ s1)).trans s1, (hb.cell (World.block_lt_of_cell? w2 _ s2)).trans s2, (hb.cell (World.block_lt_of_cell? w2 _ s3)).trans s3, (hb.cell (World.block_lt_of_cell? w2 _ s4)).trans s4, (hb.cell (World.block_lt_of_cell? w2 _ s5)).trans s5, (hb.cell (World.block_lt_of_cell? w2 _ s6)).trans s6, (hb.cell (World.block_lt_of_cell? w2 _ s7)).trans s7, (hb.cell (World.block_lt_of_cell? w2 _ s8)).trans s8, (hb.cell (World.block_lt_of_cell? w2 _ s9)).trans s9, (hb.cell (World.block_lt_of_cell? w2 _ s10)).trans s10, (hb.cell (World.block_lt_of_cell? w2 _ s11)).trans s11, (hb.cell (World.block_lt_of_cell? w2 _ s12)).trans s12, (hb.cell (World.block_lt_of_cell? w2 _ s13)).trans s13, (hb.cell (World.block_lt_of_cell? w2 _ s14)).trans s14, (hb.cell (World.block_lt_of_cell? w2 _ s15)).trans s15⟩
  clear hb
  go_wp2_with fail
  refine hK.out _ _ hSt (fun _ => ?_)
  clear hK K
  obtain ⟨t0, t1, t2, t3, t4, t5, t6, t7, t8, t9, t10, t11, t12, t13, t14, t15⟩ := hSt
  refine wpAnyH_ready (rs := [15]) (by kernel_rfl) (by simp) ?_
  refine AllReadyH.cons (o := _) rfl (fun K hK => ?_) AllReadyH.nil
  go_simp
  go_at_call 74
  refine (C4.out _).mono ?_
  rintro e w4 ⟨rfl, hw4⟩
  have hS4 : (w4.cell? ⟨w.heap.size, 0, none⟩ = some (.int .i64 x.id) ∧ w4.cell? ⟨w.heap.size, 1, none⟩ = some (.string x.nm) ∧ w4.cell? ⟨w.heap.size, 2, none⟩ = some (.int .i64 x.lo) ∧ w4.cell? ⟨w.heap.size, 3, none⟩ = some (.int .i64 x.hi) ∧ w4.cell? ⟨w.heap.size, 4, none⟩ = some (.bool x.wo) ∧ w4.cell? ⟨w.heap.size, 5, none⟩ = some (.bool x.me) ∧ w4.cell? ⟨w.heap.size, 6, none⟩ = some (.int .i64 x.co) ∧ w4.cell? ⟨w.heap.size, 7, none⟩ = some (.int .i64 x.mo) ∧ w4.cell? ⟨w.heap.size + 1, 0, none⟩ = some (.int .i64 y.id) ∧ w4.cell? ⟨w.heap.size + 1, 1, none⟩ = some (.string y.nm) ∧ w4.cell? ⟨w.heap.size + 1, 2, none⟩ = some (.int .i64 y.lo) ∧ w4.cell? ⟨w.heap.size + 1, 3, none⟩ = some (.int .i64 y.hi) ∧ w4.cell? ⟨w.heap.size + 1, 4, none⟩ = some (.bool y.wo) ∧ w4.cell? ⟨w.heap.size + 1, 5, none⟩ = some (.bool y.me) ∧ w4.cell? ⟨w.heap.size + 1, 6, none⟩ = some (.int .i64 y.co) ∧ w4.cell? ⟨w.heap.size + 1, 7, none⟩ = some (.int .i64 y.mo)) := by rw [hw4]; exact ⟨t0, t1, t2, t3, t4, t5, t6, t7, t8, t9, t10, t11, t12, t13, t14, t15⟩
  have HB4 := Lib.hid (show Below w.heap.size w w4 from hw4 ▸ HB3.out)
  clear hw4
  go_wp2_with fail
  refine hK.out _ _ hS4 (fun _ => ?_)
  clear hK K
  obtain ⟨v0, v1, v2, v3, v4, v5, v6, v7, v8, v9, v10, v11, v12, v13, v14, v15⟩ := hS4
  refine wpAnyH_ready (rs := [16]) (by kernel_rfl) (by simp) ?_
  refine AllReadyH.cons (o := _) rfl (fun K hK => ?_) AllReadyH.nil
  go_simp
  have HBa := Lib.hid (HB4.out.alloc HB4.out.size (.cells #[.int .i64 d1, .int .i64 d2] 3))
  have HX := Lib.hid (Blk.new w4 3 #[.int .i64 d1, .int .i64 d2])
  have hA := (Below.refl w4.heap.size w4).alloc (Nat.le_refl _) (.cells #[.int .i64 d1, .int .i64 d2] 3)
  have hS5 : ((w4.alloc (.cells #[.int .i64 d1, .int .i64 d2] 3)).cell? ⟨w.heap.size, 0, none⟩ = some (.int .i64 x.id) ∧ (w4.alloc (.cells #[.int .i64 d1, .int .i64 d2] 3)).cell? ⟨w.heap.size, 1, none⟩ = some (.string x.nm) ∧ (w4.alloc (.cells #[.int .i64 d1, .int .i64 d2] 3)).cell? ⟨w.heap.size, 2, none⟩ = some (.int .i64 x.lo) ∧ (w4.alloc (.cells #[.int .i64 d1, .int .i64 d2] 3)).cell? ⟨w.heap.size, 3, none⟩ = some (.int .i64 x.hi) ∧ (w4.alloc (.cells #[.int .i64 d1, .int .i64 d2] 3)).cell? ⟨w.heap.size, 4, none⟩ = some (.bool x.wo) ∧ (w4.alloc (.cells #[.int .i64 d1, .int .i64 d2] 3)).cell? ⟨w.heap.size, 5, none⟩ = some (.bool x.me) ∧ (w4.alloc (.cells #[.int .i64 d1, .int .i64 d2] 3)).cell? ⟨w.heap.size, 6, none⟩ = some (.int .i64 x.co) ∧ (w4.alloc (.cells #[.int .i64 d1, .int .i64 d2] 3)).cell? ⟨w.heap.size, 7, none⟩ = some (.int .i64 x.mo) ∧ (w4.alloc (.cells #[.int .i64 d1, .int .i64 d2] 3)).cell? ⟨w.heap.size + 1, 0, none⟩ = some (.int .i64 y.id) ∧ (w4.alloc (.cells #[.int .i64 d1, .int .i64 d2] 3)).cell? ⟨w.heap.size + 1, 1, none⟩ = some (.string y.nm) ∧ (w4.alloc (.cells #[.int .i64 d1, .int .i64 d2] 3)).cell? ⟨w.heap.size + 1, 2, none⟩ = some (.int .i64 y.lo) ∧ (w4.alloc (.cells #[.int .i64 d1, .int .i64 d2] 3)).cell? ⟨w.heap.size + 1, 3, none⟩ = some (.int .i64 y.hi) ∧ (w4.alloc (.cells #[.int .i64 d1, .int .i64 d2] 3)).cell? ⟨w.heap.size + 1, 4, none⟩ = some (.bool y.wo) ∧ (w4.alloc (.cells #[.int .i64 d1, .int .i64 d2] 3)).cell? ⟨w.heap.size + 1, 5, none⟩ = some (.bool y.me) ∧ (w4.alloc (.cells #[.int .i64 d1, .int .i64 d2] 3)).cell? ⟨w.heap.size + 1, 6, none⟩ = some (.int .i64 y.co) ∧ (w4.alloc (.cells #[.int .i64 d1, .int .i64 d2] 3)).cell? ⟨w.heap.size + 1, 7, none⟩ = some (.int .i64 y.mo)) := ⟨(hA.cell (World.block_lt_of_cell? w4 _ v0)).trans v0, (hA.cell (World.block_lt_of_cell? w4 _ v1)).trans v1, (hA.cell (World.block_lt_of_cell? w4 _ v2)).trans v2, (hA.cell (World.block_lt_of_cell? w4 _ v3)).trans v3, (hA.cell (World.block_lt_of_cell? w4 _ v4)).trans v4, (hA.cell (World.block_lt_of_cell? w4 _ v5)).trans v5, (hA.cell (World.block_lt_of_cell? w4 _ v6)).trans v6, (hA.cell (World.block_lt_of_cell? w4 _ v7)).trans v7, (hA.cell (World.block_lt_of_cell? w4 _ v8)).trans v8, (hA.cell (World.block_lt_of_cell? w4 _ v9)).trans v9, (hA.cell (World.block_lt_of_cell? w4 _ v10)).trans v10, (hA.cell (World.block_lt_of_cell? w4 _ v11)).trans v11, (hA.cell (World.block_lt_of_cell? w4 _ v12)).trans v12, (hA.cell (World.block_lt_of_cell? w4 _ v13)).trans v13, (hA.cell (World.block_lt_of_cell? w4 _ v14)).trans v14, (hA.cell (World.block_lt_of_cell? w4 _ v15)).trans v15⟩
  clear hA
  refine hK.out _ _ hS5 (fun _ => ?_)
  clear hK K
  refine wpAnyH_ready (rs := [17]) (by kernel_rfl) (by simp) ?_
  refine AllReadyH.cons (o := _) rfl (fun K hK => ?_) AllReadyH.nil
  go_simp
  go_at_call 73
  refine (C5.out w4.heap.size _ (HX.out.cell 0 rfl) (HX.out.cell 1 rfl)).mono ?_
  rintro e w6 ⟨rfl, hw6⟩
  have hS6 : (w6.cell? ⟨w.heap.size, 0, none⟩ = some (.int .i64 x.id) ∧ w6.cell? ⟨w.heap.size, 1, none⟩ = some (.string x.nm) ∧ w6.cell? ⟨w.heap.size, 2, none⟩ = some (.int .i64 x.lo) ∧ w6.cell? ⟨w.heap.size, 3, none⟩ = some (.int .i64 x.hi) ∧ w6.cell? ⟨w.heap.size, 4, none⟩ = some (.bool x.wo) ∧ w6.cell? ⟨w.heap.size, 5, none⟩ = some (.bool x.me) ∧ w6.cell? ⟨w.heap.size, 6, none⟩ = some (.int .i64 x.co) ∧ w6.cell? ⟨w.heap.size, 7, none⟩ = some (.int .i64 x.mo) ∧ w6.cell? ⟨w.heap.size + 1, 0, none⟩ = some (.int .i64 y.id) ∧ w6.cell? ⟨w.heap.size + 1, 1, none⟩ = some (.string y.nm) ∧ w6.cell? ⟨w.heap.size + 1, 2, none⟩ = some (.int .i64 y.lo) ∧ w6.cell? ⟨w.heap.size + 1, 3, none⟩ = some (.int .i64 y.hi) ∧ w6.cell? ⟨w.heap.size + 1, 4, none⟩ = some (.bool y.wo) ∧ w6.cell? ⟨w.heap.size + 1, 5, none⟩ = some (.bool y.me) ∧ w6.cell? ⟨w.heap.size + 1, 6, none⟩ = some (.int .i64 y.co) ∧ w6.cell? ⟨w.heap.size + 1, 7, none⟩ = some (.int .i64 y.mo)) := by rw [hw6]; exact hS5
  have HB6 := Lib.hid (show Below w.heap.size w w6 from hw6 ▸ HBa.out)
  clear hw6 hS5
  go_wp2_with fail
  refine hK.out _ _ hS6 (fun _ => ?_)
  clear hK K hS6
  refine wpAnyH_take (i := 18) (oi := _) (v := ?_) rfl (by kernel_rfl) (by kernel_rfl) (by kernel_rfl) (fun _ _ _ h => h) (Or.inl ⟨by rfl, ?_⟩) (by assumption) ?_; rotate_left; focus (intro W hSw; (try dsimp only at hSw); go_simp; (first | done | with_reducible rfl))
  (try simp only [List.getElem_toArray, List.getElem_cons_succ, List.getElem_cons_zero, Act.put, List.setIfInBounds_toArray, List.set_cons_zero, List.set_cons_succ])
  refine wpAnyH_done (by kernel_rfl) ?_ _
  refine NoPanic.normal ?_
  (try simp only [List.getElem_toArray, List.getElem_cons_succ, List.getElem_cons_zero, Act.put, List.setIfInBounds_toArray, List.set_cons_zero, List.set_cons_succ])
  clear a0 a1 a2 a3 a4 a5 a6 a7 a8 a9 a10 a11 a12 a13 a14 a15 s0 s1 s2 s3 s4 s5 s6 s7 s8 s9 s10 s11 s12 s13 s14 s15 t0 t1 t2 t3 t4 t5 t6 t7 t8 t9 t10 t11 t12 t13 t14 t15 v0 v1 v2 v3 v4 v5 v6 v7 v8 v9 v10 v11 v12 v13 v14 v15
  go_wp2
  go_ret
  exact ⟨rfl, HB6.out⟩

set_option maxRecDepth 20000 in
set_option maxHeartbeats 4000000 in
theorem min_any (g : Nat) (cb : Array Value) (Q : Kl → Prop) (w : World) (eg : ∀ args w, (callFunc g args).run Tryz.prog w = .ok (.enter g args) w)
    (hp : ∀ x y, Q x → Q y → ∀ w', Below w.heap.size w w' → Calls Tryz.prog g (#[.agg #[.int .i64 x.id, .string x.nm, .int .i64 x.lo, .int .i64 x.hi, .bool x.wo, .bool x.me, .int .i64 x.co, .int .i64 x.mo], .agg #[.int .i64 y.id, .string y.nm, .int .i64 y.lo, .int .i64 y.hi, .bool y.wo, .bool y.me, .int .i64 y.co, .int .i64 y.mo]] ++ cb) w' fun e w'' => (∃ z : Int, e = .returned (.int .i64 z) ∧ decide (z < 0) = decide (keyK x < keyK y)) ∧ Below w'.heap.size w' w'')
    (a : Option Addr) (cap : Nat) (fs : List Kl) (hr : Row w a fs) (hf : ∀ i, i < fs.length → Q (at_ fs i)) (hl : fs.length ≤ 1048576) (m : Kl) (hm : mo fs = some m) :
    Calls Tryz.prog 43 #[.slice a fs.length cap, .func (.func g) #[] cb] w fun e w' => e = .returned (.agg #[.int .i64 m.id, .string m.nm, .int .i64 m.lo, .int .i64 m.hi, .bool m.wo, .bool m.me, .int .i64 m.co, .int .i64 m.mo]) ∧ Below w.heap.size w w' := by
  have H := Lib.hid hr
  have HF := Lib.hid hf
  have HP := Lib.hid hp
  have HM := Lib.hid hm
  have hpos : 0 < fs.length := by
    rcases Nat.eq_zero_or_pos fs.length with h | h
    · rw [mo_none.2 (List.eq_nil_of_length_eq_zero h)] at hm
      cases hm
    · exact h
  have HB0 := Lib.hid ((Below.refl w.heap.size w).alloc (Nat.le_refl _) (.cells #[.int .i64 0, .string ⟨#[]⟩, .int .i64 0, .int .i64 0, .bool false, .bool false, .int .i64 0, .int .i64 0] 25))
  have HK0 := Lib.hid (show Blk (w.alloc (.cells #[.int .i64 0, .string ⟨#[]⟩, .int .i64 0, .int .i64 0, .bool false, .bool false, .int .i64 0, .int .i64 0] 25)) w.heap.size 25 #[.int .i64 no.id, .string no.nm, .int .i64 no.lo, .int .i64 no.hi, .bool no.wo, .bool no.me, .int .i64 no.co, .int .i64 no.mo] from Blk.new w 25 #[.int .i64 0, .string ⟨#[]⟩, .int .i64 0, .int .i64 0, .bool false, .bool false, .int .i64 0, .int .i64 0])
  obtain ⟨b0, o0, e0, k0, k1, k2, k3, k4, k5, k6, k7⟩ := (hr.later HB0.out).cells hpos
  obtain ⟨y0, hy0⟩ : ∃ y, at_ fs 0 = y := ⟨_, rfl⟩
  rw [hy0] at k0 k1 k2 k3 k4 k5 k6 k7
  have HY0 := Lib.hid hy0
  obtain ⟨n, hn⟩ : ∃ n, fs.length = n := ⟨_, rfl⟩
  have HN := Lib.hid hn
  rw [hn] at hl hpos ⊢
  subst e0
  clear hr hf hp hn hm hy0
  have hn1 : ¬ (n : Int) < 1 := by omega
  have hz1 : (0 : Int) < (n : Int) := by omega
  have HB1 := Lib.hid (HB0.out.alloc HB0.out.size (.cells #[.int .i64 y0.id, .string y0.nm, .int .i64 y0.lo, .int .i64 y0.hi, .bool y0.wo, .bool y0.me, .int .i64 y0.co, .int .i64 y0.mo] 25))
  have HK1 := Lib.hid (HK0.out.alloc (.cells #[.int .i64 y0.id, .string y0.nm, .int .i64 y0.lo, .int .i64 y0.hi, .bool y0.wo, .bool y0.me, .int .i64 y0.co, .int .i64 y0.mo] 25))
  have HL1 := Lib.hid (show Blk ((w.alloc (.cells #[.int .i64 0, .string ⟨#[]⟩, .int .i64 0, .int .i64 0, .bool false, .bool false, .int .i64 0, .int .i64 0] 25)).alloc (.cells #[.int .i64 y0.id, .string y0.nm, .int .i64 y0.lo, .int .i64 y0.hi, .bool y0.wo, .bool y0.me, .int .i64 y0.co, .int .i64 y0.mo] 25)) (w.heap.size + 1) 25 #[.int .i64 y0.id, .string y0.nm, .int .i64 y0.lo, .int .i64 y0.hi, .bool y0.wo, .bool y0.me, .int .i64 y0.co, .int .i64 y0.mo] from by simpa using Blk.new (w.alloc (.cells #[.int .i64 0, .string ⟨#[]⟩, .int .i64 0, .int .i64 0, .bool false, .bool false, .int .i64 0, .int .i64 0] 25)) 25 #[.int .i64 y0.id, .string y0.nm, .int .i64 y0.lo, .int .i64 y0.hi, .bool y0.wo, .bool y0.me, .int .i64 y0.co, .int .i64 y0.mo])
  have hmo1 := Lib.hid (show mo (fs.take 1) = some y0 from by rw [mo_take (k := 0) (by rw [HN.out]; omega), HY0.out]; rfl)
  have hq0 := Lib.hid (show Q y0 from by have := HF.out 0 (by rw [HN.out]; exact hpos); rwa [HY0.out] at this)
  simp only [Nat.zero_mul, Nat.add_zero] at k0 k1 k2 k3 k4 k5 k6 k7
  clear HB0 HK0
  go_enter Tryz.func43, Tryz.ntmps43
  go_wp2_with fail
  go_loopw [6] (fun i wr => ∃ (k : Nat) (q : Kl), k ≤ n ∧ i = .int .i64 k ∧ mo (fs.take k) = some q ∧ Q q ∧ Below w.heap.size w wr ∧ Blk wr w.heap.size 25 #[.int .i64 no.id, .string no.nm, .int .i64 no.lo, .int .i64 no.hi, .bool no.wo, .bool no.me, .int .i64 no.co, .int .i64 no.mo] ∧ Blk wr (w.heap.size + 1) 25 #[.int .i64 q.id, .string q.nm, .int .i64 q.lo, .int .i64 q.hi, .bool q.wo, .bool q.me, .int .i64 q.co, .int .i64 q.mo]) (fun i _ => n - (intOf i).toNat)
  case atStart => exact ⟨1, y0, by omega, rfl, hmo1.out, hq0.out, HB1.out, HK1.out, HL1.out⟩
  case round =>
    clear HB1 HK1 HL1 hmo1 hq0
    obtain ⟨k, q, hk, rfl, hmo, hq, hB, hK, hL⟩ := hrel
    have HMO := Lib.hid hmo
    have HQ := Lib.hid hq
    have HB := Lib.hid hB
    have HK := Lib.hid hK
    have HL := Lib.hid hL
    clear hmo hq hB hK hL
    have hsz := HB.out.size
    obtain ⟨⟨d0, d1, d2, d3, d4, d5, d6, d7⟩, -⟩ := blk_cells HL.out
    by_cases hlt : k < n
    · obtain ⟨b1, o1, e1, c0, c1, c2, c3, c4, c5, c6, c7⟩ := (H.out.later HB.out).cells (i := k) (by rw [HN.out]; exact hlt)
      cases e1
      obtain ⟨y, hy⟩ : ∃ y, at_ fs k = y := ⟨_, rfl⟩
      rw [hy] at c0 c1 c2 c3 c4 c5 c6 c7
      have HY := Lib.hid hy
      have HI := Lib.hid (show Q y from by have := HF.out k (by rw [HN.out]; exact hlt); rwa [hy] at this)
      obtain ⟨t, ht⟩ : ∃ t, decide (keyK y < keyK q) = t := ⟨_, rfl⟩
      have HT := Lib.hid ht
      have CP := Lib.hid (fun w' hb => ht ▸ HP.out y q HI.out HQ.out w' hb)
      have HNX := Lib.hid (show mo (fs.take (k + 1)) = upd (some q) y from by rw [mo_take (by rw [HN.out]; exact hlt), HMO.out, HY.out])
      have hk0 : (0 : Int) ≤ (k : Int) := by omega
      have hk1 : (k : Int) < (n : Int) := by omega
      clear hy ht
      go_upto_region 7 with (fail)
      refine wp_region_noPanic ?_
      refine wp_region_held_drew (S := (fun Wx : World => Wx.cell? ⟨b0, o0 + k * 8, none⟩ = some (.int .i64 y.id) ∧ Wx.cell? ⟨b0, o0 + k * 8 + 1, none⟩ = some (.string y.nm) ∧ Wx.cell? ⟨b0, o0 + k * 8 + 2, none⟩ = some (.int .i64 y.lo) ∧ Wx.cell? ⟨b0, o0 + k * 8 + 3, none⟩ = some (.int .i64 y.hi) ∧ Wx.cell? ⟨b0, o0 + k * 8 + 4, none⟩ = some (.bool y.wo) ∧ Wx.cell? ⟨b0, o0 + k * 8 + 5, none⟩ = some (.bool y.me) ∧ Wx.cell? ⟨b0, o0 + k * 8 + 6, none⟩ = some (.int .i64 y.co) ∧ Wx.cell? ⟨b0, o0 + k * 8 + 7, none⟩ = some (.int .i64 y.mo) ∧ Wx.cell? ⟨w.heap.size + 1, 0, none⟩ = some (.int .i64 q.id) ∧ Wx.cell? ⟨w.heap.size + 1, 1, none⟩ = some (.string q.nm) ∧ Wx.cell? ⟨w.heap.size + 1, 2, none⟩ = some (.int .i64 q.lo) ∧ Wx.cell? ⟨w.heap.size + 1, 3, none⟩ = some (.int .i64 q.hi) ∧ Wx.cell? ⟨w.heap.size + 1, 4, none⟩ = some (.bool q.wo) ∧ Wx.cell? ⟨w.heap.size + 1, 5, none⟩ = some (.bool q.me) ∧ Wx.cell? ⟨w.heap.size + 1, 6, none⟩ = some (.int .i64 q.co) ∧ Wx.cell? ⟨w.heap.size + 1, 7, none⟩ = some (.int .i64 q.mo))) (by kernel_rfl) ⟨c0, c1, c2, c3, c4, c5, c6, c7, d0, d1, d2, d3, d4, d5, d6, d7⟩ (fun hHeld => ?_)
      refine wpAnyH_take (i := 0) (oi := _) (v := ?_) rfl (by kernel_rfl) (by kernel_rfl) (by kernel_rfl) (fun _ _ _ h => h) (Or.inl ⟨by rfl, ?_⟩) (by assumption) ?_; rotate_left; focus (intro W hSw; (try dsimp only at hSw); go_simp; (first | done | with_reducible rfl))
      (try simp only [List.getElem_toArray, List.getElem_cons_succ, List.getElem_cons_zero, Act.put, List.setIfInBounds_toArray, List.set_cons_zero, List.set_cons_succ])
      refine wpAnyH_take (i := 1) (oi := _) (v := ?_) rfl (by kernel_rfl) (by kernel_rfl) (by kernel_rfl) (fun _ _ _ h => h) (Or.inl ⟨by rfl, ?_⟩) (by assumption) ?_; rotate_left; focus (intro W hSw; (try dsimp only at hSw); go_simp; (first | done | with_reducible rfl))
      (try simp only [List.getElem_toArray, List.getElem_cons_succ, List.getElem_cons_zero, Act.put, List.setIfInBounds_toArray, List.set_cons_zero, List.set_cons_succ])
      refine wpAnyH_take (i := 2) (oi := _) (v := ?_) rfl (by kernel_rfl) (by kernel_rfl) (by kernel_rfl) (fun _ _ _ h => h) (Or.inl ⟨by rfl, ?_⟩) (by assumption) ?_; rotate_left; focus (intro W hSw; (try dsimp only at hSw); go_simp; (first | done | with_reducible rfl))
      (try simp only [List.getElem_toArray, List.getElem_cons_succ, List.getElem_cons_zero, Act.put, List.setIfInBounds_toArray, List.set_cons_zero, List.set_cons_succ])
      refine wpAnyH_take (i := 3) (oi := _) (v := ?_) rfl (by kernel_rfl) (by kernel_rfl) (by kernel_rfl) (fun _ _ _ h => h) (Or.inl ⟨by rfl, ?_⟩) (by assumption) ?_; rotate_left; focus (intro W hSw; (try dsimp only at hSw); go_simp; (first | done | with_reducible rfl))
      (try simp only [List.getElem_toArray, List.getElem_cons_succ, List.getElem_cons_zero, Act.put, List.setIfInBounds_toArray, List.set_cons_zero, List.set_cons_succ])
      refine wpAnyH_take (i := 4) (oi := _) (v := ?_) rfl (by kernel_rfl) (by kernel_rfl) (by kernel_rfl) (fun _ _ _ h => h) (Or.inl ⟨by rfl, ?_⟩) (by assumption) ?_; rotate_left; focus (intro W hSw; (try dsimp only at hSw); go_simp; (first | done | with_reducible rfl))
      (try simp only [List.getElem_toArray, List.getElem_cons_succ, List.getElem_cons_zero, Act.put, List.setIfInBounds_toArray, List.set_cons_zero, List.set_cons_succ])
      refine wpAnyH_take (i := 5) (oi := _) (v := ?_) rfl (by kernel_rfl) (by kernel_rfl) (by kernel_rfl) (fun _ _ _ h => h) (Or.inl ⟨by rfl, ?_⟩) (by assumption) ?_; rotate_left; focus (intro W hSw; (try dsimp only at hSw); go_simp; (first | done | with_reducible rfl))
      (try simp only [List.getElem_toArray, List.getElem_cons_succ, List.getElem_cons_zero, Act.put, List.setIfInBounds_toArray, List.set_cons_zero, List.set_cons_succ])
      refine wpAnyH_ready (rs := [6]) (by kernel_rfl) (by simp) ?_
      refine AllReadyH.cons (o := _) rfl (fun K hK => ?_) AllReadyH.nil
      go_simp
      go_at_fn g
      refine (CP.out _ HB.out.drew).mono ?_
      rintro e w2 ⟨⟨z, rfl, hz⟩, hb⟩
      have hS : (w2.cell? ⟨b0, o0 + k * 8, none⟩ = some (.int .i64 y.id) ∧ w2.cell? ⟨b0, o0 + k * 8 + 1, none⟩ = some (.string y.nm) ∧ w2.cell? ⟨b0, o0 + k * 8 + 2, none⟩ = some (.int .i64 y.lo) ∧ w2.cell? ⟨b0, o0 + k * 8 + 3, none⟩ = some (.int .i64 y.hi) ∧ w2.cell? ⟨b0, o0 + k * 8 + 4, none⟩ = some (.bool y.wo) ∧ w2.cell? ⟨b0, o0 + k * 8 + 5, none⟩ = some (.bool y.me) ∧ w2.cell? ⟨b0, o0 + k * 8 + 6, none⟩ = some (.int .i64 y.co) ∧ w2.cell? ⟨b0, o0 + k * 8 + 7, none⟩ = some (.int .i64 y.mo) ∧ w2.cell? ⟨w.heap.size + 1, 0, none⟩ = some (.int .i64 q.id) ∧ w2.cell? ⟨w.heap.size + 1, 1, none⟩ = some (.string q.nm) ∧ w2.cell? ⟨w.heap.size + 1, 2, none⟩ = some (.int .i64 q.lo) ∧ w2.cell? ⟨w.heap.size + 1, 3, none⟩ = some (.int .i64 q.hi) ∧ w2.cell? ⟨w.heap.size + 1, 4, none⟩ = some (.bool q.wo) ∧ w2.cell? ⟨w.heap.size + 1, 5, none⟩ = some (.bool q.me) ∧ w2.cell? ⟨w.heap.size + 1, 6, none⟩ = some (.int .i64 q.co) ∧ w2.cell? ⟨w.heap.size + 1, 7, none⟩ = some (.int .i64 q.mo)) := ⟨(hb.cell (World.block_lt_of_cell? wr.drew _ c0)).trans c0, (hb.cell (World.block_lt_of_cell? wr.drew _ c1)).trans c1, (hb.cell (World.block_lt_of_cell? wr.drew _ c2)).trans c2, (hb.cell (World.block_lt_of_cell? wr.drew _ c3)).trans c3, (hb.cell (World.block_lt_of_cell? wr.drew _ c4)).trans c4, (hb.cell (World.block_lt_of_cell? wr.drew _ c5)).trans c5, (hb.cell (World.block_lt_of_cell? wr.drew _ c6)).trans c6, (hb.cell (World.block_lt_of_cell? wr.drew _ c7)).trans c7, (hb.cell (World.block_lt_of_cell? wr.drew _ d0)).trans d0, (hb.cell (World.block_lt_of_cell? wr.drew _ d1)).trans d1, (hb.cell (World.block_lt_of_cell? wr.drew _ d2)).trans d2, (hb.cell (World.block_lt_of_cell? wr.drew _ d3)).trans d3, (hb.cell (World.block_lt_of_cell? wr.drew _ d4)).trans d4, (hb.cell (World.block_lt_of_cell? wr.drew _ d5)).trans d5, (hb.cell (World.block_lt_of_cell? wr.drew _ d6)).trans d6, (hb.cell (World.block_lt_of_cell? wr.drew _ d7)).trans d7⟩
      have HB2 := Lib.hid (HB.out.drew.trans (hb.mono HB.out.size))
      have HK2 := Lib.hid (HK.out.drew.later hb)
      have HL2 := Lib.hid (HL.out.drew.later hb)
      clear hb
      go_wp2_with fail
      refine hK.out _ _ hS (fun _ => ?_)
      clear hK K hHeld
      obtain ⟨g0, g1, g2, g3, g4, g5, g6, g7, h0, h1, h2, h3, h4, h5, h6, h7⟩ := hS
      refine wpAnyH_take (i := 7) (oi := _) (v := ?_) rfl (by kernel_rfl) (by kernel_rfl) (by kernel_rfl) (fun _ _ _ h => h) (Or.inl ⟨by rfl, ?_⟩) (by assumption) ?_; rotate_left; focus (intro W hSw; (try dsimp only at hSw); go_simp; (first | done | with_reducible rfl))
      (try simp only [List.getElem_toArray, List.getElem_cons_succ, List.getElem_cons_zero, Act.put, List.setIfInBounds_toArray, List.set_cons_zero, List.set_cons_succ])
      refine wpAnyH_done (by kernel_rfl) ?_ _
      refine NoPanic.normal ?_
      (try simp only [List.getElem_toArray, List.getElem_cons_succ, List.getElem_cons_zero, Act.put, List.setIfInBounds_toArray, List.set_cons_zero, List.set_cons_succ])
      clear d0 d1 d2 d3 d4 d5 d6 d7
      have hsz2 := HB2.out.size
      cases t with
      | false =>
        have HNY := Lib.hid (show mo (fs.take (k + 1)) = some q from by rw [HNX.out]; exact if_neg (of_decide_eq_false HT.out))
        go_wp2
        go_roundw
        case rel => exact ⟨k + 1, q, by omega, by go_num, HNY.out, HQ.out, HB2.out, HK2.out, HL2.out⟩
        case measure => simp [intOf]; omega
      | true =>
        have HNY := Lib.hid (show mo (fs.take (k + 1)) = some y from by rw [HNX.out]; exact if_pos (of_decide_eq_true HT.out))
        obtain ⟨⟨x0, x1, x2, x3, x4, x5, x6, x7⟩, f0, f1, f2, f3, f4, f5, f6, f7⟩ := blk_cells HL2.out
        have hzl := HL2.out.lt
        have HPn := Lib.hid (blk_all HL2.out y)
        go_wp2
        go_roundw
        case rel => exact ⟨k + 1, y, by omega, by go_num, HNY.out, HI.out, HB2.out.trans (HPn.out.2 _ (by omega)), ((HPn.out.2 _ (Nat.le_refl _)).block _ (by omega)).trans HK2.out, HPn.out.1⟩
        case measure => simp [intOf]; omega
    · obtain rfl : k = n := by omega
      have hmq : q = m := by
        have h1 := HMO.out
        rw [show fs.take k = fs from List.take_of_length_le (by rw [HN.out]; exact Nat.le_refl _), HM.out] at h1
        exact (Option.some.inj h1).symm
      subst hmq
      obtain ⟨⟨x0, x1, x2, x3, x4, x5, x6, x7⟩, f0, f1, f2, f3, f4, f5, f6, f7⟩ := blk_cells HK.out
      have hzl := HK.out.lt
      have HPn := Lib.hid (blk_all HK.out q)
      obtain ⟨⟨r0, r1, r2, r3, r4, r5, r6, r7⟩, -⟩ := blk_cells HPn.out.1
      go_wp2
      refine bodyPost_ret (v := .agg #[.int .i64 q.id, .string q.nm, .int .i64 q.lo, .int .i64 q.hi, .bool q.wo, .bool q.me, .int .i64 q.co, .int .i64 q.mo]) (by simp [results, Tryz.results43, go_sem, r0, r1, r2, r3, r4, r5, r6, r7]) rfl ⟨rfl, HB.out.trans (HPn.out.2 _ (Nat.le_refl _))⟩
end Go.Proofs.YtleoljnofdajfaaGreatDoor.KaB
