/- DetourTime: the model. -/
import Derived.Test.YtjngnjokbnklfaaDtI
import Derived.Deep.RegionHeld3
import Derived.Deep.Cut
import Derived.Deep.CutRange
import Derived.Deep.DeepCutAuto
namespace Go.Proofs.Ytjngnjokbnklfaa.DtS
open Go.RowKit Lb IntS MapS MapV High Cells StepT StpF SpecB DjkB OpnI TmsI LtI
open Go.Proofs.Ytjngnjokbnklfaa.BfoB (oL oL_len oL_at own_at own_cell)
set_option linter.unusedSimpArgs false
set_option linter.unusedVariables false

set_option maxHeartbeats 1000000 in
theorem spec_no (m : Mp) (T : Nat → Nat → Int) (p r q : Int) (h : askB m p q = false ∨ opB m r = false) (a b : Option Addr) (ca cb : Nat) (w : World) (hR : m.R.length ≤ maxLen) (hC : m.C.length ≤ maxLen) (hr : IRow w a m.R) (hc : IRow w b m.C) :
    Calls Try.prog 29 #[.agg #[.int .i64 m.W, .int .i64 m.H, .slice a m.R.length ca, .slice b m.C.length cb], .int .i64 p, .int .i64 r, .int .i64 q] w (LPost w (dtN m T p r q) (dtB m T p r q)) := by
  have HB := Lib.hid ((Below.refl w.heap.size w).alloc (Nat.le_refl _) (.cells #[.int .i64 m.W, .int .i64 m.H, .slice a m.R.length ca, .slice b m.C.length cb] 26))
  have HK := Lib.hid (Blk.new w 26 #[.int .i64 m.W, .int .i64 m.H, .slice a m.R.length ca, .slice b m.C.length cb])
  have HL := Lib.hid (dt_no (T := T) h)
  have HR := Lib.hid hr
  have HC := Lib.hid hc
  clear hr hc
  cases ha : askB m p q with
  | false =>
    have HA := Lib.hid ha
    clear ha h
    go_enter Try.func29, Try.ntmps29
    go_wp2_with fail
    refine (asked_any m p q a b ca cb _ hR hC (RowAt.below HR.out HB.out) (RowAt.below HC.out HB.out)).mono ?_
    rw [HA.out]
    rintro e w1 ⟨rfl, hb1⟩
    have HB1 := Lib.hid (HB.out.trans (hb1.mono (by simp)))
    clear hb1
    go_wp2_with fail
    go_ret2
    exact ⟨lret HL.out.2 HL.out.1, HB1.out⟩
  | true =>
    have HA := Lib.hid ha
    have HO := Lib.hid (show opB m r = false from by
      rcases h with h | h
      · rw [ha] at h; cases h
      · exact h)
    obtain ⟨ww, hh, g⟩ := good_of (askB_of ha).1
    have HG := Lib.hid g
    clear ha h g
    go_enter Try.func29, Try.ntmps29
    go_wp2_with fail
    refine (asked_any m p q a b ca cb _ hR hC (RowAt.below HR.out HB.out) (RowAt.below HC.out HB.out)).mono ?_
    rw [HA.out]
    rintro e w1 ⟨rfl, hb1⟩
    have HB1 := Lib.hid (HB.out.trans (hb1.mono (by simp)))
    obtain ⟨p0, p1, p2, p3, -⟩ := (HK.out.later hb1).four
    clear hb1
    go_wp2_with fail
    refine (spec_open m ww hh HG.out r a b ca cb _ (RowAt.below HC.out HB1.out)).mono ?_
    rw [HO.out]
    rintro e w2 ⟨rfl, hb2⟩
    have HB2 := Lib.hid (HB1.out.trans (hb2.mono HB1.out.size))
    clear hb2
    go_wp2_with fail
    go_ret2
    exact ⟨lret HL.out.2 HL.out.1, HB2.out⟩

/-- Cells that are known. -/
def Kn (W : World) : List (Nat × Nat × Int) → Prop
  | [] => True
  | x :: l => W.cell? ⟨x.1, x.2.1, none⟩ = some (.int .i64 x.2.2) ∧ Kn W l
theorem Kn.later {W W' : World} (hb : Below W.heap.size W W') : ∀ {l : List (Nat × Nat × Int)}, Kn W l → Kn W' l
  | [], _ => trivial
  | x :: l, h => ⟨(hb.cell (World.block_lt_of_cell? _ _ h.1)).trans h.1, Kn.later hb h.2⟩
theorem kn_row {W : World} {l : List (Nat × Nat × Int)} (h : Kn W l) {base g n c i k : Nat} {cap : Nat} {D : Nat → Int} (ho : OwnI W base (.slice (some ⟨g, 0, none⟩) c cap) (oL n D)) (hi : i < n) (hk : k < n) : Kn W ((g, i, D i) :: (g, k, D k) :: l) := by
  have h1 := (own_cell ho (j := i) (by rw [oL_len]; exact hi)).1
  have h2 := (own_cell ho (j := k) (by rw [oL_len]; exact hk)).1
  rw [oL_at _ hi] at h1
  rw [oL_at _ hk] at h2
  exact ⟨h1, h2, h⟩
/-- What stands while the three searches are made. -/
structure Dr (w W : World) (box : Array Value) : Prop where
  b : Below w.heap.size w W
  box : Blk W w.heap.size 26 box
theorem Dr.later {w W W' : World} {box : Array Value} (h : Dr w W box) (hb : Below W.heap.size W W') : Dr w W' box := ⟨h.b.trans (hb.mono h.b.size), h.box.later hb⟩
theorem Dr.drew {w W : World} {box : Array Value} (h : Dr w W box) : Dr w W.drew box := h.later (Below.refl _ _).drew
theorem Dr.keep {w W : World} {x0 x1 x2 x3 : Value} (h : Dr w W #[x0, x1, x2, x3]) : W.cell? ⟨w.heap.size, 0, none⟩ = some x0 ∧ W.cell? ⟨w.heap.size, 1, none⟩ = some x1 ∧ W.cell? ⟨w.heap.size, 2, none⟩ = some x2 ∧ W.cell? ⟨w.heap.size, 3, none⟩ = some x3 := by
  obtain ⟨p0, p1, p2, p3, -⟩ := h.box.four
  exact ⟨p0, p1, p2, p3⟩

/-- What holds behind every operation: the map's box, and the cells that are known. -/
def Sd (B : Nat) (x0 x1 x2 x3 : Value) (l : List (Nat × Nat × Int)) (W : World) : Prop := (W.cell? ⟨B, 0, none⟩ = some x0 ∧ W.cell? ⟨B, 1, none⟩ = some x1 ∧ W.cell? ⟨B, 2, none⟩ = some x2 ∧ W.cell? ⟨B, 3, none⟩ = some x3) ∧ Kn W l
theorem wpAnyH_mono {P : Program} {md : Region.Mode} {ops : Array Oper} {Q : Exit → Act → World → Prop} {S S' : World → Prop} (hS : ∀ w, S' w → S w) :
    ∀ (fuel : Nat) (listed : Array Bool) (a : Act) (w : World), wpAnyH P md ops Q S' fuel listed a w → wpAnyH P md ops Q S fuel listed a w
  | 0, _, _, _, h => h
  | fuel + 1, _, _, _, h => ⟨h.1, fun i hi => wpOp_mono (fun a' w' h' => ⟨hS _ h'.1, wpAnyH_mono hS fuel _ a' w' h'.2⟩) (h.2 i hi)⟩

set_option maxRecDepth 20000 in
set_option maxHeartbeats 4000000 in
theorem spec_ask (m : Mp) (T : Nat → Nat → Int) (ww hh : Nat) (g : GoodM m ww hh) (hT : TT m T) (i k j : Nat) (hi : Opn m (ww * hh) i) (hk : Opn m (ww * hh) k) (hj : Opn m (ww * hh) j) (a b : Option Addr) (ca cb : Nat) (w : World) (hr : IRow w a m.R) (hc : IRow w b m.C) :
    Calls Try.prog 29 #[.agg #[.int .i64 m.W, .int .i64 m.H, .slice a m.R.length ca, .slice b m.C.length cb], .int .i64 i, .int .i64 k, .int .i64 j] w (LPost w (dtN m T i k j) (dtB m T i k j)) := by
  obtain ⟨hR, hC⟩ := lens g
  have n36 := g.n36
  have n1 := g.n1
  have HB := Lib.hid ((Below.refl w.heap.size w).alloc (Nat.le_refl _) (.cells #[.int .i64 m.W, .int .i64 m.H, .slice a m.R.length ca, .slice b m.C.length cb] 26))
  have HK := Lib.hid (Blk.new w 26 #[.int .i64 m.W, .int .i64 m.H, .slice a m.R.length ca, .slice b m.C.length cb])
  have HG := Lib.hid g
  have HR := Lib.hid hr
  have HC := Lib.hid hc
  have HJ := Lib.hid hj
  have HKo := Lib.hid hk
  have HDj := Lib.hid (hT ww hh g j hj)
  have HDk := Lib.hid (hT ww hh g k hk)
  have HA := Lib.hid (ask_split g hi hj)
  have HO := Lib.hid (opB_yes g hk)
  have hil : i < ww * hh := hi.1
  have hkl : k < ww * hh := hk.1
  have hi0 : (0 : Int) ≤ (i : Int) := by omega
  have hk0 : (0 : Int) ≤ (k : Int) := by omega
  have hil2 : (i : Int) < (ww : Int) * (hh : Int) := by rw [← Int.natCast_mul]; omega
  have hkl2 : (k : Int) < (ww : Int) * (hh : Int) := by rw [← Int.natCast_mul]; omega
  obtain ⟨x, hx⟩ : ∃ t, T k i = t := ⟨_, rfl⟩
  obtain ⟨y, hy⟩ : ∃ t, T j k = t := ⟨_, rfl⟩
  obtain ⟨z, hz⟩ : ∃ t, T j i = t := ⟨_, rfl⟩
  have bx := tt_bd g hT hk i
  have by_ := tt_bd g hT hj k
  have bz := tt_bd g hT hj i
  rw [hx] at bx
  rw [hy] at by_
  rw [hz] at bz
  obtain ⟨bx1, bx2⟩ := bx
  obtain ⟨by1, by2⟩ := by_
  obtain ⟨bz1, bz2⟩ := bz
  have HX := Lib.hid hx
  have HY := Lib.hid hy
  have HZ := Lib.hid hz
  have HV := Lib.hid (show (x < 0 ∨ y < 0 → dtB m T i k j = false ∧ dtN m T i k j = 0) ∧ (0 ≤ x → 0 ≤ y → dtB m T i k j = true ∧ dtN m T i k j = x + y - z) from ⟨fun h => dt_far (by omega), fun h1 h2 => by rw [← hx, ← hy, ← hz]; exact dt_yes g hT hi hk hj (by omega) (by omega)⟩)
  clear hr hc hi hj hk g hT hx hy hz
  go_enter Try.func29, Try.ntmps29
  go_wp2_with fail
  refine (asked_any m i j a b ca cb _ hR hC (RowAt.below HR.out HB.out) (RowAt.below HC.out HB.out)).mono ?_
  rw [HA.out]
  rintro e w1 ⟨rfl, hb1⟩
  have HB1 := Lib.hid (HB.out.trans (hb1.mono (by simp)))
  have HK1 := Lib.hid (HK.out.later hb1)
  obtain ⟨p0, p1, p2, p3, -⟩ := HK1.out.four
  clear hb1 HB HK
  go_wp2_with fail
  refine (spec_open m ww hh HG.out k a b ca cb _ (RowAt.below HC.out HB1.out)).mono ?_
  rw [HO.out]
  rintro e w2 ⟨rfl, hb2⟩
  have HS2 := Lib.hid (show Dr w w2 #[.int .i64 m.W, .int .i64 m.H, .slice a m.R.length ca, .slice b m.C.length cb] from ⟨HB1.out.trans (hb2.mono HB1.out.size), HK1.out.later hb2⟩)
  clear hb2 HB1 HK1 p0 p1 p2 p3
  go_upto_region 3 with (fail)
  go_cut [10, 11, 12] from 24 to 42 (fun u1 u2 u3 wx => u1 = .int .i64 x ∧ u2 = .int .i64 y ∧ u3 = .int .i64 z ∧ Below w.heap.size w wx)
  case first =>
    have HS := Lib.hid HS2.out.drew
    have HAny := Lib.hid (fun (s : Nat) (W : World) (hs : s = k ∨ s = j) (h1 : IRow W a m.R) (h2 : IRow W b m.C) => BfoS.to_any m ww hh HG.out a b ca cb s W h1 h2 (by rcases hs with rfl | rfl; exact HKo.out; exact HJ.out) (T s) (by rcases hs with rfl | rfl; exact HDk.out; exact HDj.out))
    clear HV HA HO bx1 bx2 by1 by2 bz1 bz2
    have HKn := Lib.hid (show Kn w2.drew [] from trivial)
    refine wp_region_noPanic ?_
    refine wp_region_held_drew (S := Sd w.heap.size (.int .i64 m.W) (.int .i64 m.H) (.slice a m.R.length ca) (.slice b m.C.length cb) []) (by kernel_rfl) ⟨HS.out.keep, trivial⟩ (fun hHeld => ?_)
    refine wpAnyH_take (i := 0) (oi := _) (v := ?_) rfl (by kernel_rfl) (by kernel_rfl) (by kernel_rfl) (fun _ _ _ h => h) (Or.inl ⟨by rfl, ?_⟩) (by assumption) ?_; rotate_left; focus (intro W hSw; (try dsimp only [Sd, Kn] at hSw); go_simp; (first | done | with_reducible rfl))
    simp only [Act.put, List.setIfInBounds_toArray, List.set_cons_zero, List.set_cons_succ]
    refine wpAnyH_take (i := 1) (oi := _) (v := ?_) rfl (by kernel_rfl) (by kernel_rfl) (by kernel_rfl) (fun _ _ _ h => h) (Or.inl ⟨by rfl, ?_⟩) (by assumption) ?_; rotate_left; focus (intro W hSw; (try dsimp only [Sd, Kn] at hSw); go_simp; (first | done | with_reducible rfl))
    simp only [Act.put, List.setIfInBounds_toArray, List.set_cons_zero, List.set_cons_succ]
    refine wpAnyH_take (i := 3) (oi := _) (v := ?_) rfl (by kernel_rfl) (by kernel_rfl) (by kernel_rfl) (fun _ _ _ h => h) (Or.inl ⟨by rfl, ?_⟩) (by assumption) ?_; rotate_left; focus (intro W hSw; (try dsimp only [Sd, Kn] at hSw); go_simp; (first | done | with_reducible rfl))
    simp only [Act.put, List.setIfInBounds_toArray, List.set_cons_zero, List.set_cons_succ]
    refine wpAnyH_take (i := 6) (oi := _) (v := ?_) rfl (by kernel_rfl) (by kernel_rfl) (by kernel_rfl) (fun _ _ _ h => h) (Or.inl ⟨by rfl, ?_⟩) (by assumption) ?_; rotate_left; focus (intro W hSw; (try dsimp only [Sd, Kn] at hSw); go_simp; (first | done | with_reducible rfl))
    simp only [Act.put, List.setIfInBounds_toArray, List.set_cons_zero, List.set_cons_succ]
    refine wpAnyH_take (i := 7) (oi := _) (v := ?_) rfl (by kernel_rfl) (by kernel_rfl) (by kernel_rfl) (fun _ _ _ h => h) (Or.inl ⟨by rfl, ?_⟩) (by assumption) ?_; rotate_left; focus (intro W hSw; (try dsimp only [Sd, Kn] at hSw); go_simp; (first | done | with_reducible rfl))
    simp only [Act.put, List.setIfInBounds_toArray, List.set_cons_zero, List.set_cons_succ]
    refine wpAnyH_take (i := 9) (oi := _) (v := ?_) rfl (by kernel_rfl) (by kernel_rfl) (by kernel_rfl) (fun _ _ _ h => h) (Or.inl ⟨by rfl, ?_⟩) (by assumption) ?_; rotate_left; focus (intro W hSw; (try dsimp only [Sd, Kn] at hSw); go_simp; (first | done | with_reducible rfl))
    simp only [Act.put, List.setIfInBounds_toArray, List.set_cons_zero, List.set_cons_succ]
    refine wpAnyH_take (i := 12) (oi := _) (v := ?_) rfl (by kernel_rfl) (by kernel_rfl) (by kernel_rfl) (fun _ _ _ h => h) (Or.inl ⟨by rfl, ?_⟩) (by assumption) ?_; rotate_left; focus (intro W hSw; (try dsimp only [Sd, Kn] at hSw); go_simp; (first | done | with_reducible rfl))
    simp only [Act.put, List.setIfInBounds_toArray, List.set_cons_zero, List.set_cons_succ]
    refine wpAnyH_take (i := 13) (oi := _) (v := ?_) rfl (by kernel_rfl) (by kernel_rfl) (by kernel_rfl) (fun _ _ _ h => h) (Or.inl ⟨by rfl, ?_⟩) (by assumption) ?_; rotate_left; focus (intro W hSw; (try dsimp only [Sd, Kn] at hSw); go_simp; (first | done | with_reducible rfl))
    simp only [Act.put, List.setIfInBounds_toArray, List.set_cons_zero, List.set_cons_succ]
    refine wpAnyH_take (i := 15) (oi := _) (v := ?_) rfl (by kernel_rfl) (by kernel_rfl) (by kernel_rfl) (fun _ _ _ h => h) (Or.inl ⟨by rfl, ?_⟩) (by assumption) ?_; rotate_left; focus (intro W hSw; (try dsimp only [Sd, Kn] at hSw); go_simp; (first | done | with_reducible rfl))
    simp only [Act.put, List.setIfInBounds_toArray, List.set_cons_zero, List.set_cons_succ]
    refine wpAnyH_ready (rs := [2]) (by kernel_rfl) (by simp) ?_
    refine AllReadyH.cons (o := _) rfl (fun K hK => ?_) AllReadyH.nil
    go_simp
    go_at_call 74
    refine (HAny.out _ _ (by first | exact .inl rfl | exact .inr rfl) (RowAt.below HR.out HS.out.b) (RowAt.below HC.out HS.out.b)).mono ?_
    rintro e w5 ⟨⟨v5, rfl, ho5⟩, hb5⟩
    obtain ⟨g5, c5, rfl⟩ := own_at ho5 (by rw [oL_len]; omega)
    rw [oL_len] at ho5 ⊢
    have HS := Lib.hid (HS.out.later hb5)
    have HKn := Lib.hid (kn_row (HKn.out.later hb5) ho5 hil hkl)
    simp only [HX.out, HY.out, HZ.out] at HKn
    clear hb5 ho5 hHeld
    go_wp2_with fail
    refine hK.out _ _ ⟨HS.out.keep, HKn.out.2.2⟩ (fun _ => ?_)
    clear hK K
    have hHeld : Sd w.heap.size (.int .i64 m.W) (.int .i64 m.H) (.slice a m.R.length ca) (.slice b m.C.length cb) [(g5, i, x), (g5, k, T k k)] w5 := ⟨HS.out.keep, HKn.out⟩
    refine wpAnyH_mono (S' := Sd w.heap.size (.int .i64 m.W) (.int .i64 m.H) (.slice a m.R.length ca) (.slice b m.C.length cb) [(g5, i, x), (g5, k, T k k)]) (fun W h => ⟨h.1, h.2.2.2⟩) _ _ _ _ ?_
    (try simp only [Act.put, List.setIfInBounds_toArray, List.set_cons_zero, List.set_cons_succ])
    refine wpAnyH_take (i := 4) (oi := _) (v := ?_) rfl (by kernel_rfl) (by kernel_rfl) (by kernel_rfl) (fun _ _ _ h => h) (Or.inl ⟨by rfl, ?_⟩) (by assumption) ?_; rotate_left; focus (intro W hSw; (try dsimp only [Sd, Kn] at hSw); go_simp; (first | done | with_reducible rfl))
    simp only [Act.put, List.setIfInBounds_toArray, List.set_cons_zero, List.set_cons_succ]
    refine wpAnyH_take (i := 5) (oi := _) (v := ?_) rfl (by kernel_rfl) (by kernel_rfl) (by kernel_rfl) (fun _ _ _ h => h) (Or.inl ⟨by rfl, ?_⟩) (by assumption) ?_; rotate_left; focus (intro W hSw; (try dsimp only [Sd, Kn] at hSw); go_simp; (first | done | with_reducible rfl))
    simp only [Act.put, List.setIfInBounds_toArray, List.set_cons_zero, List.set_cons_succ]
    refine wpAnyH_ready (rs := [8]) (by kernel_rfl) (by simp) ?_
    refine AllReadyH.cons (o := _) rfl (fun K hK => ?_) AllReadyH.nil
    go_simp
    go_at_call 74
    refine (HAny.out _ _ (by first | exact .inl rfl | exact .inr rfl) (RowAt.below HR.out HS.out.b) (RowAt.below HC.out HS.out.b)).mono ?_
    rintro e w6 ⟨⟨v6, rfl, ho6⟩, hb6⟩
    obtain ⟨g6, c6, rfl⟩ := own_at ho6 (by rw [oL_len]; omega)
    rw [oL_len] at ho6 ⊢
    have HS := Lib.hid (HS.out.later hb6)
    have HKn := Lib.hid (kn_row (HKn.out.later hb6) ho6 hil hkl)
    simp only [HX.out, HY.out, HZ.out] at HKn
    clear hb6 ho6 hHeld
    go_wp2_with fail
    refine hK.out _ _ ⟨HS.out.keep, HKn.out.2.2⟩ (fun _ => ?_)
    clear hK K
    have hHeld : Sd w.heap.size (.int .i64 m.W) (.int .i64 m.H) (.slice a m.R.length ca) (.slice b m.C.length cb) [(g6, i, z), (g6, k, y), (g5, i, x), (g5, k, T k k)] w6 := ⟨HS.out.keep, HKn.out⟩
    refine wpAnyH_mono (S' := Sd w.heap.size (.int .i64 m.W) (.int .i64 m.H) (.slice a m.R.length ca) (.slice b m.C.length cb) [(g6, i, z), (g6, k, y), (g5, i, x), (g5, k, T k k)]) (fun W h => ⟨h.1, h.2.2.2⟩) _ _ _ _ ?_
    (try simp only [Act.put, List.setIfInBounds_toArray, List.set_cons_zero, List.set_cons_succ])
    refine wpAnyH_take (i := 10) (oi := _) (v := ?_) rfl (by kernel_rfl) (by kernel_rfl) (by kernel_rfl) (fun _ _ _ h => h) (Or.inl ⟨by rfl, ?_⟩) (by assumption) ?_; rotate_left; focus (intro W hSw; (try dsimp only [Sd, Kn] at hSw); go_simp; (first | done | with_reducible rfl))
    simp only [Act.put, List.setIfInBounds_toArray, List.set_cons_zero, List.set_cons_succ]
    refine wpAnyH_take (i := 11) (oi := _) (v := ?_) rfl (by kernel_rfl) (by kernel_rfl) (by kernel_rfl) (fun _ _ _ h => h) (Or.inl ⟨by rfl, ?_⟩) (by assumption) ?_; rotate_left; focus (intro W hSw; (try dsimp only [Sd, Kn] at hSw); go_simp; (first | done | with_reducible rfl))
    simp only [Act.put, List.setIfInBounds_toArray, List.set_cons_zero, List.set_cons_succ]
    refine wpAnyH_ready (rs := [14]) (by kernel_rfl) (by simp) ?_
    refine AllReadyH.cons (o := _) rfl (fun K hK => ?_) AllReadyH.nil
    go_simp
    go_at_call 74
    refine (HAny.out _ _ (by first | exact .inl rfl | exact .inr rfl) (RowAt.below HR.out HS.out.b) (RowAt.below HC.out HS.out.b)).mono ?_
    rintro e w7 ⟨⟨v7, rfl, ho7⟩, hb7⟩
    obtain ⟨g7, c7, rfl⟩ := own_at ho7 (by rw [oL_len]; omega)
    rw [oL_len] at ho7 ⊢
    have HS := Lib.hid (HS.out.later hb7)
    have HKn := Lib.hid (kn_row (HKn.out.later hb7) ho7 hil hkl)
    simp only [HX.out, HY.out, HZ.out] at HKn
    clear hb7 ho7 hHeld
    go_wp2_with fail
    refine hK.out _ _ ⟨HS.out.keep, HKn.out.2.2⟩ (fun _ => ?_)
    clear hK K
    have hHeld : Sd w.heap.size (.int .i64 m.W) (.int .i64 m.H) (.slice a m.R.length ca) (.slice b m.C.length cb) [(g7, i, z), (g7, k, y), (g6, i, z), (g6, k, y), (g5, i, x), (g5, k, T k k)] w7 := ⟨HS.out.keep, HKn.out⟩
    refine wpAnyH_mono (S' := Sd w.heap.size (.int .i64 m.W) (.int .i64 m.H) (.slice a m.R.length ca) (.slice b m.C.length cb) [(g7, i, z), (g7, k, y), (g6, i, z), (g6, k, y), (g5, i, x), (g5, k, T k k)]) (fun W h => ⟨h.1, h.2.2.2⟩) _ _ _ _ ?_
    (try simp only [Act.put, List.setIfInBounds_toArray, List.set_cons_zero, List.set_cons_succ])
    refine wpAnyH_take (i := 16) (oi := _) (v := ?_) rfl (by kernel_rfl) (by kernel_rfl) (by kernel_rfl) (fun _ _ _ h => h) (Or.inl ⟨by rfl, ?_⟩) (by assumption) ?_; rotate_left; focus (intro W hSw; (try dsimp only [Sd, Kn] at hSw); go_simp; (first | done | with_reducible rfl))
    simp only [List.getElem_toArray, List.getElem_cons_succ, List.getElem_cons_zero, Act.put, List.setIfInBounds_toArray, List.set_cons_zero, List.set_cons_succ]
    refine wpAnyH_take (i := 17) (oi := _) (v := ?_) rfl (by kernel_rfl) (by kernel_rfl) (by kernel_rfl) (fun _ _ _ h => h) (Or.inl ⟨by rfl, ?_⟩) (by assumption) ?_; rotate_left; focus (intro W hSw; (try dsimp only [Sd, Kn] at hSw); go_simp; (first | done | with_reducible rfl))
    simp only [List.getElem_toArray, List.getElem_cons_succ, List.getElem_cons_zero, Act.put, List.setIfInBounds_toArray, List.set_cons_zero, List.set_cons_succ]
    refine wpAnyH_take (i := 18) (oi := _) (v := ?_) rfl (by kernel_rfl) (by kernel_rfl) (by kernel_rfl) (fun _ _ _ h => h) (Or.inl ⟨by rfl, ?_⟩) (by assumption) ?_; rotate_left; focus (intro W hSw; (try dsimp only [Sd, Kn] at hSw); go_simp; (first | done | with_reducible rfl))
    simp only [List.getElem_toArray, List.getElem_cons_succ, List.getElem_cons_zero, Act.put, List.setIfInBounds_toArray, List.set_cons_zero, List.set_cons_succ]
    refine wpAnyH_take (i := 19) (oi := _) (v := ?_) rfl (by kernel_rfl) (by kernel_rfl) (by kernel_rfl) (fun _ _ _ h => h) (Or.inl ⟨by rfl, ?_⟩) (by assumption) ?_; rotate_left; focus (intro W hSw; (try dsimp only [Sd, Kn] at hSw); go_simp; (first | done | with_reducible rfl))
    simp only [List.getElem_toArray, List.getElem_cons_succ, List.getElem_cons_zero, Act.put, List.setIfInBounds_toArray, List.set_cons_zero, List.set_cons_succ]
    refine wpAnyH_take (i := 20) (oi := _) (v := ?_) rfl (by kernel_rfl) (by kernel_rfl) (by kernel_rfl) (fun _ _ _ h => h) (Or.inl ⟨by rfl, ?_⟩) (by assumption) ?_; rotate_left; focus (intro W hSw; (try dsimp only [Sd, Kn] at hSw); go_simp; (first | done | with_reducible rfl))
    simp only [List.getElem_toArray, List.getElem_cons_succ, List.getElem_cons_zero, Act.put, List.setIfInBounds_toArray, List.set_cons_zero, List.set_cons_succ]
    refine wpAnyH_done (by kernel_rfl) ?_ _
    refine NoPanic.normal ?_
    go_wp2_with fail
    go_meet
    exact ⟨rfl, rfl, rfl, HS.out.b⟩
  case rest =>
    obtain ⟨rfl, rfl, rfl, hB3⟩ := hcut
    have HB3 := Lib.hid hB3
    clear hB3 HS2
    by_cases h1 : x < 0
    · have HL := Lib.hid (HV.out.1 (.inl h1))
      clear HV
      go_wp2_with fail
      go_ret2
      exact ⟨lret HL.out.2 HL.out.1, HB3.out⟩
    · have d1 : decide (x < 0) = false := by simpa using h1
      by_cases h2 : y < 0
      · have HL := Lib.hid (HV.out.1 (.inr h2))
        clear HV
        go_wp2_with fail
        go_ret2
        exact ⟨lret HL.out.2 HL.out.1, HB3.out⟩
      · have d2 : decide (y < 0) = false := by simpa using h2
        have HL := Lib.hid (HV.out.2 (by omega) (by omega))
        clear HV
        go_wp2_with fail
        go_ret2
        exact ⟨lret HL.out.2 HL.out.1, HB3.out⟩
end Go.Proofs.Ytjngnjokbnklfaa.DtS
