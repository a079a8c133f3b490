/- IsRoute: the model. -/
import Derived.Test.YtnenaponiahalaaRtI
namespace Go.Proofs.Ytnenaponiahalaa.RtS
open Go.RowKit Lb IntS MapS MapV High Cells StepT StpF SpecB DjkB OpnI RtI
set_option linter.unusedSimpArgs false
set_option linter.unusedVariables false

/-- The map's box, and two cells that are known. -/
structure Sq (w : World) (box : Array Value) (b1 o p : Nat) (x y : Int) (W : World) : Prop where
  b : Below w.heap.size w W
  box : Blk W w.heap.size 26 box
  c1 : W.cell? ⟨b1, o, none⟩ = some (.int .i64 x)
  c2 : W.cell? ⟨b1, p, none⟩ = some (.int .i64 y)
theorem Sq.later {w : World} {box : Array Value} {b1 o p : Nat} {x y : Int} {W W' : World} (h : Sq w box b1 o p x y W) (hb : Below W.heap.size W W') : Sq w box b1 o p x y W' :=
  ⟨h.b.trans (hb.mono h.b.size), h.box.later hb, (hb.cell (World.block_lt_of_cell? _ _ h.c1)).trans h.c1, (hb.cell (World.block_lt_of_cell? _ _ h.c2)).trans h.c2⟩
theorem Sq.keep {w : World} {x0 x1 x2 x3 : Value} {b1 o p : Nat} {x y : Int} {W : World} (h : Sq w #[x0, x1, x2, x3] b1 o p x y W) :
    W.cell? ⟨b1, o, none⟩ = some (.int .i64 x) ∧ W.cell? ⟨b1, p, none⟩ = some (.int .i64 y) ∧ W.cell? ⟨w.heap.size, 0, none⟩ = some x0 ∧ W.cell? ⟨w.heap.size, 1, none⟩ = some x1 ∧ W.cell? ⟨w.heap.size, 2, none⟩ = some x2 ∧ W.cell? ⟨w.heap.size, 3, none⟩ = some x3 := by
  obtain ⟨p0, p1, p2, p3, -⟩ := h.box.four
  exact ⟨h.c1, h.c2, p0, p1, p2, p3⟩
theorem Sq.turn {w : World} {box : Array Value} {b1 o p p' : Nat} {x y d : Int} {W : World} (h : Sq w box b1 o p x y W) (hp : p = p') (hy : y = d) : Sq w box b1 o p' x d W.drew := by
  subst hp hy
  exact h.later (Below.refl _ _).drew
theorem has_take {a : Option Addr} {cap : Nat} {zs : List Int} {W : World} (hr : IRow W a zs) {k : Nat} (hk : k ≤ zs.length) (hl : zs.length ≤ 1048576) (x : Int) :
    Calls Try.prog 138 #[.slice a k cap, .int .i64 x] W fun e w' => e = .returned (.bool (decide (x ∈ zs.take k))) ∧ w' = W := by
  have hlen : (zs.take k).length = k := by rw [List.length_take]; omega
  have hr' : IRow W a (zs.take k) := by
    rcases hr with h0 | ⟨b, off, rfl, hc⟩
    · left; rw [hlen]; omega
    · refine .inr ⟨b, off, rfl, fun j hj => ?_⟩
      rw [hlen] at hj
      rw [hc j (by omega)]
      show some (Value.int .i64 (zAt zs j)) = some (Value.int .i64 (zAt (zs.take k) j))
      unfold zAt
      rw [List.getD_eq_getElem?_getD, List.getD_eq_getElem?_getD, List.getElem?_take, if_pos hj]
  have := has_any a cap (zs.take k) x W hr' (by rw [hlen]; unfold maxLen; omega)
  rwa [hlen] at this

set_option maxRecDepth 20000 in
set_option maxHeartbeats 8000000 in
theorem route_any (m : Mp) (ww hh : Nat) (g : GoodM m ww hh) (zs : List Int) (hl : zs.length ≤ 1048576) (a b al : Option Addr) (ca cb cl : Nat) (hcap : zs.length ≤ cl) (w : World) (hc : IRow w b m.C) (hz : IRow w al zs) :
    Calls Try.prog 89 #[.agg #[.int .i64 m.W, .int .i64 m.H, .slice a m.R.length ca, .slice b m.C.length cb], .slice al zs.length cl] w fun e w' => e = .returned (.bool (rtB m zs)) ∧ Below w.heap.size w w' := by
  have n36 := g.n36
  have HB := Lib.hid ((Below.refl w.heap.size w).alloc (Nat.le_refl _) (.cells #[.int .i64 m.W, .int .i64 m.H, .slice a m.R.length ca, .slice b m.C.length cb] 26))
  have HK := Lib.hid (Blk.new w 26 #[.int .i64 m.W, .int .i64 m.H, .slice a m.R.length ca, .slice b m.C.length cb])
  have HG := Lib.hid g
  have HC := Lib.hid hc
  have HZ := Lib.hid hz
  clear g hc hz
  go_enter Try.func89, Try.ntmps89
  go_wp2_with fail
  go_loopg [5] zs.length (fun q i wr => ∃ k : Nat, k ≤ zs.length ∧ q = zs.length - k ∧ i = .int .i64 k ∧ (∀ j, j < k → okAt m zs j = true) ∧ Below w.heap.size w wr ∧ Blk wr w.heap.size 26 #[.int .i64 m.W, .int .i64 m.H, .slice a m.R.length ca, .slice b m.C.length cb])
  case atStart => exact ⟨0, Nat.zero_le _, rfl, rfl, (fun j hj => by omega), HB.out, HK.out⟩
  case round =>
    clear HB HK
    obtain ⟨k, hk, hq, rfl, hall, hb, hkb⟩ := hrel
    have HA := Lib.hid hall
    have HB := Lib.hid hb
    have HK := Lib.hid hkb
    clear hall hb hkb
    by_cases hlt : k < zs.length
    · rcases RowAt.below HZ.out HB.out with h0 | ⟨b1, off1, rfl, hc1⟩
      · omega
      have g1 : wr.cell? ⟨b1, off1 + k, none⟩ = some (.int .i64 (zAt zs k)) := hc1 k hlt
      have g0 : wr.cell? ⟨b1, off1 + (k - 1), none⟩ = some (.int .i64 (zAt zs (k - 1))) := hc1 (k - 1) (by omega)
      obtain ⟨x, hx⟩ : ∃ x, zAt zs k = x := ⟨_, rfl⟩
      obtain ⟨y, hy⟩ : ∃ y, zAt zs (k - 1) = y := ⟨_, rfl⟩
      rw [hx] at g1
      rw [hy] at g0
      have HX := Lib.hid hx
      have HY := Lib.hid hy
      obtain ⟨ob, hob⟩ : ∃ ob, opB m x = ob := ⟨_, rfl⟩
      obtain ⟨tb, htb⟩ : ∃ tb, decide (x ∈ zs.take k) = tb := ⟨_, rfl⟩
      have HO := Lib.hid hob
      have HTk := Lib.hid htb
      have HS := Lib.hid (show Sq w #[.int .i64 m.W, .int .i64 m.H, .slice a m.R.length ca, .slice b m.C.length cb] b1 (off1 + k) (off1 + (k - 1)) x y wr.drew from Sq.later (W := wr) ⟨HB.out, HK.out, g1, g0⟩ (Below.refl _ _).drew)
      have hk0 : (0 : Int) ≤ (k : Int) := by omega
      have hki : (k : Int) < (zs.length : Int) := by omega
      have hkc : (k : Int) ≤ (cl : Int) := by omega
      clear hc1 hx hy hob htb g0 g1
      go_upto_region 4 with (fail)
      have HS0 := HS
      cases ob with
      | false =>
        have HF := Lib.hid (rt_not hlt (ok_shut (by rw [HX.out]; exact HO.out)))
        refine wp_region_noPanic ?_
        refine wp_region_held_drew (S := (fun W : World => W.cell? ⟨b1, off1 + k, none⟩ = some (.int .i64 x) ∧ W.cell? ⟨b1, off1 + (k - 1), none⟩ = some (.int .i64 y) ∧ W.cell? ⟨w.heap.size, 0, none⟩ = some (.int .i64 m.W) ∧ W.cell? ⟨w.heap.size, 1, none⟩ = some (.int .i64 m.H) ∧ W.cell? ⟨w.heap.size, 2, none⟩ = some (.slice a m.R.length ca) ∧ W.cell? ⟨w.heap.size, 3, none⟩ = some (.slice b m.C.length cb))) (by kernel_rfl) HS.out.keep (fun hHeld => ?_)
        refine wpAnyH_take (i := 0) (oi := _) (v := ?_) rfl (by kernel_rfl) (by kernel_rfl) (by kernel_rfl) (fun _ _ _ h => h) (Or.inl ⟨by rfl, ?_⟩) (by assumption) ?_; rotate_left; focus (intro W hSw; (try dsimp only at hSw); go_simp; (first | done | with_reducible rfl))
        simp only [List.getElem_toArray, List.getElem_cons_succ, List.getElem_cons_zero, Act.put, List.setIfInBounds_toArray, List.set_cons_zero, List.set_cons_succ]
        refine wpAnyH_take (i := 1) (oi := _) (v := ?_) rfl (by kernel_rfl) (by kernel_rfl) (by kernel_rfl) (fun _ _ _ h => h) (Or.inl ⟨by rfl, ?_⟩) (by assumption) ?_; rotate_left; focus (intro W hSw; (try dsimp only at hSw); go_simp; (first | done | with_reducible rfl))
        simp only [List.getElem_toArray, List.getElem_cons_succ, List.getElem_cons_zero, Act.put, List.setIfInBounds_toArray, List.set_cons_zero, List.set_cons_succ]
        refine wpAnyH_take (i := 2) (oi := _) (v := ?_) rfl (by kernel_rfl) (by kernel_rfl) (by kernel_rfl) (fun _ _ _ h => h) (Or.inl ⟨by rfl, ?_⟩) (by assumption) ?_; rotate_left; focus (intro W hSw; (try dsimp only at hSw); go_simp; (first | done | with_reducible rfl))
        simp only [List.getElem_toArray, List.getElem_cons_succ, List.getElem_cons_zero, Act.put, List.setIfInBounds_toArray, List.set_cons_zero, List.set_cons_succ]
        refine wpAnyH_take (i := 3) (oi := _) (v := ?_) rfl (by kernel_rfl) (by kernel_rfl) (by kernel_rfl) (fun _ _ _ h => h) (Or.inl ⟨by rfl, ?_⟩) (by assumption) ?_; rotate_left; focus (intro W hSw; (try dsimp only at hSw); go_simp; (first | done | with_reducible rfl))
        simp only [List.getElem_toArray, List.getElem_cons_succ, List.getElem_cons_zero, Act.put, List.setIfInBounds_toArray, List.set_cons_zero, List.set_cons_succ]
        refine wpAnyH_take (i := 4) (oi := _) (v := ?_) rfl (by kernel_rfl) (by kernel_rfl) (by kernel_rfl) (fun _ _ _ h => h) (Or.inl ⟨by rfl, ?_⟩) (by assumption) ?_; rotate_left; focus (intro W hSw; (try dsimp only at hSw); go_simp; (first | done | with_reducible rfl))
        simp only [List.getElem_toArray, List.getElem_cons_succ, List.getElem_cons_zero, Act.put, List.setIfInBounds_toArray, List.set_cons_zero, List.set_cons_succ]
        refine wpAnyH_ready (rs := [5]) (by kernel_rfl) (by simp) ?_
        refine AllReadyH.cons (o := _) rfl (fun K hK => ?_) AllReadyH.nil
        go_simp
        go_at_call 131
        refine (spec_open m ww hh HG.out x a b ca cb _ (RowAt.below HC.out HS.out.b)).mono ?_
        rw [HO.out]
        rintro e w5 ⟨rfl, hb5⟩
        have HS5 := Lib.hid (HS.out.later hb5)
        clear hb5 hHeld
        go_wp2_with fail
        refine hK.out _ _ HS5.out.keep (fun hHeld => ?_)
        clear hK K
        (try simp only [Act.put, List.setIfInBounds_toArray, List.set_cons_zero, List.set_cons_succ])
        refine wpAnyH_take (i := 6) (oi := _) (v := ?_) rfl (by kernel_rfl) (by kernel_rfl) (by kernel_rfl) (fun _ _ _ h => h) (Or.inl ⟨by rfl, ?_⟩) (by assumption) ?_; rotate_left; focus (intro W hSw; (try dsimp only at hSw); go_simp; (first | done | with_reducible rfl))
        simp only [List.getElem_toArray, List.getElem_cons_succ, List.getElem_cons_zero, Act.put, List.setIfInBounds_toArray, List.set_cons_zero, List.set_cons_succ]
        refine wpAnyH_take (i := 7) (oi := _) (v := ?_) rfl (by kernel_rfl) (by kernel_rfl) (by kernel_rfl) (fun _ _ _ h => h) (Or.inl ⟨by rfl, ?_⟩) (by assumption) ?_; rotate_left; focus (intro W hSw; (try dsimp only at hSw); go_simp; (first | done | with_reducible rfl))
        simp only [List.getElem_toArray, List.getElem_cons_succ, List.getElem_cons_zero, Act.put, List.setIfInBounds_toArray, List.set_cons_zero, List.set_cons_succ]
        refine wpAnyH_take (i := 8) (oi := _) (v := undef) rfl (by kernel_rfl) (by kernel_rfl) (by kernel_rfl) (fun _ _ _ h => h) (Or.inr ⟨by rfl, rfl⟩) (by assumption) ?_
        simp only [List.getElem_toArray, List.getElem_cons_succ, List.getElem_cons_zero, Act.put, List.setIfInBounds_toArray, List.set_cons_zero, List.set_cons_succ]
        refine wpAnyH_take (i := 9) (oi := _) (v := undef) rfl (by kernel_rfl) (by kernel_rfl) (by kernel_rfl) (fun _ _ _ h => h) (Or.inr ⟨by rfl, rfl⟩) (by assumption) ?_
        simp only [List.getElem_toArray, List.getElem_cons_succ, List.getElem_cons_zero, Act.put, List.setIfInBounds_toArray, List.set_cons_zero, List.set_cons_succ]
        refine wpAnyH_take (i := 10) (oi := _) (v := undef) rfl (by kernel_rfl) (by kernel_rfl) (by kernel_rfl) (fun _ _ _ h => h) (Or.inr ⟨by rfl, rfl⟩) (by assumption) ?_
        simp only [List.getElem_toArray, List.getElem_cons_succ, List.getElem_cons_zero, Act.put, List.setIfInBounds_toArray, List.set_cons_zero, List.set_cons_succ]
        refine wpAnyH_take (i := 11) (oi := _) (v := undef) rfl (by kernel_rfl) (by kernel_rfl) (by kernel_rfl) (fun _ _ _ h => h) (Or.inr ⟨by rfl, rfl⟩) (by assumption) ?_
        simp only [List.getElem_toArray, List.getElem_cons_succ, List.getElem_cons_zero, Act.put, List.setIfInBounds_toArray, List.set_cons_zero, List.set_cons_succ]
        refine wpAnyH_take (i := 12) (oi := _) (v := undef) rfl (by kernel_rfl) (by kernel_rfl) (by kernel_rfl) (fun _ _ _ h => h) (Or.inr ⟨by rfl, rfl⟩) (by assumption) ?_
        simp only [List.getElem_toArray, List.getElem_cons_succ, List.getElem_cons_zero, Act.put, List.setIfInBounds_toArray, List.set_cons_zero, List.set_cons_succ]
        refine wpAnyH_take (i := 13) (oi := _) (v := undef) rfl (by kernel_rfl) (by kernel_rfl) (by kernel_rfl) (fun _ _ _ h => h) (Or.inr ⟨by rfl, rfl⟩) (by assumption) ?_
        simp only [List.getElem_toArray, List.getElem_cons_succ, List.getElem_cons_zero, Act.put, List.setIfInBounds_toArray, List.set_cons_zero, List.set_cons_succ]
        refine wpAnyH_take (i := 14) (oi := _) (v := undef) rfl (by kernel_rfl) (by kernel_rfl) (by kernel_rfl) (fun _ _ _ h => h) (Or.inr ⟨by rfl, rfl⟩) (by assumption) ?_
        simp only [List.getElem_toArray, List.getElem_cons_succ, List.getElem_cons_zero, Act.put, List.setIfInBounds_toArray, List.set_cons_zero, List.set_cons_succ]
        refine wpAnyH_take (i := 15) (oi := _) (v := undef) rfl (by kernel_rfl) (by kernel_rfl) (by kernel_rfl) (fun _ _ _ h => h) (Or.inr ⟨by rfl, rfl⟩) (by assumption) ?_
        simp only [List.getElem_toArray, List.getElem_cons_succ, List.getElem_cons_zero, Act.put, List.setIfInBounds_toArray, List.set_cons_zero, List.set_cons_succ]
        refine wpAnyH_take (i := 16) (oi := _) (v := ?_) rfl (by kernel_rfl) (by kernel_rfl) (by kernel_rfl) (fun _ _ _ h => h) (Or.inl ⟨by rfl, ?_⟩) (by assumption) ?_; rotate_left; focus (intro W hSw; (try dsimp only at hSw); go_simp; (first | done | with_reducible rfl))
        simp only [List.getElem_toArray, List.getElem_cons_succ, List.getElem_cons_zero, Act.put, List.setIfInBounds_toArray, List.set_cons_zero, List.set_cons_succ]
        refine wpAnyH_done (by kernel_rfl) ?_ _
        refine NoPanic.normal ?_
        go_wp2_with fail
        go_ret
        exact ⟨ret_bool HF.out.symm, HS5.out.b⟩
      | true =>
        cases tb with
        | true =>
          have HF := Lib.hid (rt_not hlt (ok_twice (m := m) (by rw [HX.out]; exact of_decide_eq_true HTk.out)))
          go_region_held3 (fun W : World => W.cell? ⟨b1, off1 + k, none⟩ = some (.int .i64 x) ∧ W.cell? ⟨b1, off1 + (k - 1), none⟩ = some (.int .i64 y) ∧ W.cell? ⟨w.heap.size, 0, none⟩ = some (.int .i64 m.W) ∧ W.cell? ⟨w.heap.size, 1, none⟩ = some (.int .i64 m.H) ∧ W.cell? ⟨w.heap.size, 2, none⟩ = some (.slice a m.R.length ca) ∧ W.cell? ⟨w.heap.size, 3, none⟩ = some (.slice b m.C.length cb)) (first | with_reducible exact HS.out.keep) (first
            | (go_at_call 131; refine (spec_open m ww hh HG.out x a b ca cb _ (RowAt.below HC.out HS.out.b)).mono ?_; rw [HO.out]; rintro e w5 ⟨rfl, hb5⟩; have HS5 := Lib.hid (HS.out.later hb5); clear hb5; have HS := HS5)
            | (go_at_call 138; refine (has_take (RowAt.below HZ.out HS.out.b) hk hl x).mono ?_; rw [HTk.out]; rintro e w6 ⟨rfl, rfl⟩))
          go_wp2_with fail
          go_ret
          exact ⟨ret_bool HF.out.symm, HS.out.b⟩
        | false =>
          go_region_held3 (fun W : World => W.cell? ⟨b1, off1 + k, none⟩ = some (.int .i64 x) ∧ W.cell? ⟨b1, off1 + (k - 1), none⟩ = some (.int .i64 y) ∧ W.cell? ⟨w.heap.size, 0, none⟩ = some (.int .i64 m.W) ∧ W.cell? ⟨w.heap.size, 1, none⟩ = some (.int .i64 m.H) ∧ W.cell? ⟨w.heap.size, 2, none⟩ = some (.slice a m.R.length ca) ∧ W.cell? ⟨w.heap.size, 3, none⟩ = some (.slice b m.C.length cb)) (first | with_reducible exact HS.out.keep) (first
            | (go_at_call 131; refine (spec_open m ww hh HG.out x a b ca cb _ (RowAt.below HC.out HS.out.b)).mono ?_; rw [HO.out]; rintro e w5 ⟨rfl, hb5⟩; have HS5 := Lib.hid (HS.out.later hb5); clear hb5; have HS := HS5)
            | (go_at_call 138; refine (has_take (RowAt.below HZ.out HS.out.b) hk hl x).mono ?_; rw [HTk.out]; rintro e w6 ⟨rfl, rfl⟩))
          have HNt := Lib.hid (show zAt zs k ∉ zs.take k from by rw [HX.out]; exact of_decide_eq_false HTk.out)
          have HS6 := HS
          clear HS
          cases k with
          | zero =>
            have HOk := Lib.hid (ok_yes (m := m) (by rw [HX.out]; exact HO.out) HNt.out (.inl rfl))
            go_upto_region 6 with (fail)
            go_quiet (fail)
            go_wp2_with fail
            go_roundg (zs.length - 1)
            case measure => omega
            case rel => exact ⟨1, by omega, rfl, rfl, (fun j hj => by
              obtain rfl : j = 0 := by omega
              exact HOk.out), Next.below_drewN HS6.out.b _, HS6.out.box.later (Next.below_drewN (Below.refl _ _) _)⟩
          | succ k =>
            have hkl : k < zs.length := by omega
            obtain ⟨d, hd, hdo⟩ := opB_of HG.out (ok_opn (HA.out k (by omega)))
            have hdl : d < ww * hh := hdo.1
            have HDd := Lib.hid hd
            have hyd : y = (d : Int) := by rw [← HY.out]; exact hd
            have HS := Lib.hid (HS6.out.turn (p' := off1 + k) rfl hyd)
            obtain ⟨tc, htc⟩ : ∃ tc, decide (x ∈ ints (nx m d)) = tc := ⟨_, rfl⟩
            have HTc := Lib.hid htc
            have hnl := nx_length m d
            have hj0 : (0 : Int) ≤ (k : Int) := by omega
            have hji : (k : Int) < (zs.length : Int) := by omega
            have hj1 : (k : Int) + 1 < (zs.length : Int) := by omega
            have hj2 : (0 : Int) ≤ (k : Int) + 1 := by omega
            have hwk : IntKind.i64.wrap (k : Int) = (k : Int) := IntWalk.i64_in _ (by omega)
            have hwk2 : IntKind.i64.wrap ((k : Int) + 1 - 1) = (k : Int) := by rw [Int.add_sub_cancel]; exact hwk
            clear htc hd hdo hyd hk0 hki hkc HS0 HS6
            go_upto_region 6 with (fail)
            go_region_held3 (fun W : World => W.cell? ⟨b1, off1 + (k + 1), none⟩ = some (.int .i64 x) ∧ W.cell? ⟨b1, off1 + k, none⟩ = some (.int .i64 (d : Nat)) ∧ W.cell? ⟨w.heap.size, 0, none⟩ = some (.int .i64 m.W) ∧ W.cell? ⟨w.heap.size, 1, none⟩ = some (.int .i64 m.H) ∧ W.cell? ⟨w.heap.size, 2, none⟩ = some (.slice a m.R.length ca) ∧ W.cell? ⟨w.heap.size, 3, none⟩ = some (.slice b m.C.length cb)) (first | with_reducible exact HS.out.keep) (first
              | (go_at_call 132; refine (spec_next m ww hh HG.out a b ca cb d _ (RowAt.below HC.out HS.out.b) hdl).mono ?_; rintro e w5 ⟨⟨v8, rfl, ho8⟩, hb5⟩; obtain ⟨a8, c8, rfl, hr8, -⟩ := OwnI.slice ho8; have HS5 := Lib.hid (HS.out.later hb5); have hcn := has_any a8 c8 (ints (nx m d)) x w5 hr8 (by rw [ints_length]; unfold maxLen; omega); rw [ints_length] at hcn; rw [ints_length]; have HCn := Lib.hid hcn; clear hb5 ho8 hr8 hcn; have HS := HS5)
              | (go_at_call 138; refine HCn.out.mono ?_; rw [HTc.out]; rintro e w6 ⟨rfl, rfl⟩))
            cases tc with
            | true =>
              have HOk := Lib.hid (ok_yes (m := m) (by rw [HX.out]; exact HO.out) HNt.out (.inr (by rw [HX.out, show k + 1 - 1 = k from rfl, HDd.out]; exact of_decide_eq_true HTc.out)))
              go_wp2_with fail
              go_roundg (zs.length - (k + 1 + 1))
              case measure => omega
              case rel => exact ⟨k + 1 + 1, by omega, rfl, by go_num, all_succ (p := fun j => okAt m zs j = true) HA.out HOk.out, HS.out.b, HS.out.box⟩
            | false =>
              have HF := Lib.hid (rt_not hlt (ok_far (m := m) (by omega) (by rw [HX.out, show k + 1 - 1 = k from rfl, HDd.out]; exact of_decide_eq_false HTc.out)))
              go_wp2_with fail
              go_ret
              exact ⟨ret_bool HF.out.symm, HS.out.b⟩
    · obtain rfl : k = zs.length := by omega
      have HF := Lib.hid (rt_all HA.out)
      go_wp2_with fail
      go_ret
      exact ⟨ret_bool HF.out.symm, HB.out⟩
set_option maxHeartbeats 1000000 in
theorem spec_bad (m : Mp) (zs : List Int) (h : ¬ m.ok) (a b al : Option Addr) (ca cb cl : Nat) (w : World) (hR : m.R.length ≤ maxLen) (hC : m.C.length ≤ maxLen) (hr : IRow w a m.R) (hc : IRow w b m.C) :
    Calls Try.prog 27 #[.agg #[.int .i64 m.W, .int .i64 m.H, .slice a m.R.length ca, .slice b m.C.length cb], .slice al zs.length cl] w (BPost w false false) := by
  have HB := Lib.hid ((Below.refl w.heap.size w).alloc (Nat.le_refl _) (.cells #[.int .i64 m.W, .int .i64 m.H, .slice a m.R.length ca, .slice b m.C.length cb] 26))
  have hk := okB_no h
  clear h
  go_enter Try.func27, Try.ntmps27
  go_wp2_with fail
  refine (MapV.spec_any m a b ca cb _ hR hC (RowAt.below hr HB.out) (RowAt.below hc HB.out)).mono ?_
  rw [hk]
  rintro e w1 ⟨rfl, hb1⟩
  have HB1 := Lib.hid (HB.out.trans (hb1.mono (by simp)))
  clear hb1
  go_wp2_with fail
  go_ret2
  exact ⟨rfl, HB1.out⟩
set_option maxHeartbeats 1000000 in
theorem spec_ok (m : Mp) (ww hh : Nat) (g : GoodM m ww hh) (hok : m.ok) (zs : List Int) (hl : zs.length ≤ 1048576) (a b al : Option Addr) (ca cb cl : Nat) (hcap : zs.length ≤ cl) (w : World) (hR : m.R.length ≤ maxLen) (hC : m.C.length ≤ maxLen) (hr : IRow w a m.R) (hc : IRow w b m.C) (hz : IRow w al zs) :
    Calls Try.prog 27 #[.agg #[.int .i64 m.W, .int .i64 m.H, .slice a m.R.length ca, .slice b m.C.length cb], .slice al zs.length cl] w (BPost w (rtB m zs) true) := by
  have HB := Lib.hid ((Below.refl w.heap.size w).alloc (Nat.le_refl _) (.cells #[.int .i64 m.W, .int .i64 m.H, .slice a m.R.length ca, .slice b m.C.length cb] 26))
  have HK := Lib.hid (Blk.new w 26 #[.int .i64 m.W, .int .i64 m.H, .slice a m.R.length ca, .slice b m.C.length cb])
  have HG := Lib.hid g
  have HR := Lib.hid hr
  have HC := Lib.hid hc
  have HZ := Lib.hid hz
  have hk := okB_yes hok
  clear g hr hc hz hok
  go_enter Try.func27, Try.ntmps27
  go_wp2_with fail
  refine (MapV.spec_any m a b ca cb _ hR hC (RowAt.below HR.out HB.out) (RowAt.below HC.out HB.out)).mono ?_
  rw [hk]
  rintro e w1 ⟨rfl, hb1⟩
  have HB1 := Lib.hid (HB.out.trans (hb1.mono (by simp)))
  obtain ⟨p0, p1, p2, p3, -⟩ := (HK.out.later hb1).four
  clear hb1 hk HB HK
  go_wp2_with fail
  refine (route_any m ww hh HG.out zs hl a b al ca cb cl hcap _ (RowAt.below HC.out HB1.out) (RowAt.below HZ.out HB1.out)).mono ?_
  rintro e w2 ⟨rfl, hb2⟩
  have HB2 := Lib.hid (HB1.out.trans (hb2.mono HB1.out.size))
  clear hb2
  go_wp2_with fail
  go_ret2
  exact ⟨rfl, HB2.out⟩

/-- The answers: whether a list is a route, and whether the map is valid. -/
theorem both (m : Mp) (zs : List Int) (hl : zs.length ≤ 1048576) : ∃ x ok : Bool, (ok = true ↔ m.ok) ∧ (ok = true → x = rtB m zs) ∧ (ok = false → x = false) ∧
    (∀ a b al ca cb cl w, zs.length ≤ cl → m.R.length ≤ maxLen → m.C.length ≤ maxLen → IRow w a m.R → IRow w b m.C → IRow w al zs → Calls Try.prog 27 #[.agg #[.int .i64 m.W, .int .i64 m.H, .slice a m.R.length ca, .slice b m.C.length cb], .slice al zs.length cl] w (BPost w x ok)) ∧
    (∀ a b al ca cb cl w, zs.length ≤ cl → m.R.length ≤ maxLen → m.C.length ≤ maxLen → IRow w a m.R → IRow w b m.C → IRow w al zs → Calls Try.prog 22 #[.agg #[.int .i64 m.W, .int .i64 m.H, .slice a m.R.length ca, .slice b m.C.length cb], .slice al zs.length cl] w (BPost w x ok)) := by
  by_cases h : m.ok
  · obtain ⟨ww, hh, g⟩ := good_of h
    exact ⟨rtB m zs, true, ⟨fun _ => h, fun _ => rfl⟩, fun _ => rfl, (fun e => by cases e), fun a b al ca cb cl w hcap hR hC hr hc hz => spec_ok m ww hh g h zs hl a b al ca cb cl hcap w hR hC hr hc hz, fun a b al ca cb cl w _ _ _ hr hc hz => impl_ok m ww hh g zs hl a b al ca cb cl w hr hc hz⟩
  · exact ⟨false, false, ⟨(fun e => by cases e), fun e => absurd e h⟩, (fun e => by cases e), fun _ => rfl, fun a b al ca cb cl w _ hR hC hr hc _ => spec_bad m zs h a b al ca cb cl w hR hC hr hc, fun a b al ca cb cl w _ hR hC hr hc _ => impl_bad m zs h a b al ca cb cl w hR hC hr hc⟩
theorem both_v (m : Mp) (zs : List Int) (hl : zs.length ≤ 1048576) : ∃ x ok : Bool,
    (∀ a b al ca cb cl w, zs.length ≤ cl → m.R.length ≤ maxLen → m.C.length ≤ maxLen → IRow w a m.R → IRow w b m.C → IRow w al zs → Calls Try.prog 27 #[.agg #[.int .i64 m.W, .int .i64 m.H, .slice a m.R.length ca, .slice b m.C.length cb], .slice al zs.length cl] w (BPost w x ok)) ∧
    (∀ a b al ca cb cl w, zs.length ≤ cl → m.R.length ≤ maxLen → m.C.length ≤ maxLen → IRow w a m.R → IRow w b m.C → IRow w al zs → Calls Try.prog 22 #[.agg #[.int .i64 m.W, .int .i64 m.H, .slice a m.R.length ca, .slice b m.C.length cb], .slice al zs.length cl] w (BPost w x ok)) := by
  obtain ⟨x, ok, -, -, -, h1, h2⟩ := both m zs hl
  exact ⟨x, ok, h1, h2⟩
end Go.Proofs.Ytnenaponiahalaa.RtS
