/- Courses: the model's times. -/
import Derived.Test.YtdfmfmndmldggaaKrG
import Derived.Test.YtdfmfmndmldggaaKrO
namespace Go.Proofs.Ytdfmfmndmldggaa.KrT
open Go.RowKit Lb Bk IntS CtK CoM CoP CoF CoC KrM KrI KrG LtI
open InA (in_any)
open KrR (blk_keep rn)
open KrO (own_ints)
open Cells (NPost)
open Go.Proofs.Ytdfmfmndmldggaa.BfoB (oL oL_len oL_at own_at own_cell)
set_option linter.unusedSimpArgs false
set_option linter.unusedVariables false

theorem lg_bd {m : Mp} {T : Nat → Nat → Int} (hT : TT m T) {cs : List Ct} {zs : List Int} (hg : goodB m cs = true) (hf : ∀ i, i < zs.length → Fnd cs zs i) {l : Nat} (h : l < zs.length - 1) : -1 ≤ lgT T cs zs l ∧ lgT T cs zs l ≤ 972 := by
  obtain ⟨ww, hh, g⟩ := good_of (good_ok hg)
  obtain ⟨j, ej, oj⟩ := fnd_open g hg (hf (l + 1) (by omega))
  unfold lgT
  rw [ej]
  exact tt_bd g hT oj _

set_option maxRecDepth 20000 in
set_option maxHeartbeats 8000000 in
theorem times_any (m : Mp) (T : Nat → Nat → Int) (hT : TT m T) (cs : List Ct) (hl : cs.length ≤ 1048576) (zs : List Int) (h8 : zs.length ≤ 8) (hg : goodB m cs = true) (hf : ∀ i, i < zs.length → Fnd cs zs i) (a b : Option Addr) (ca cb : Nat) (ad : Option Addr) (cap : Nat) (al : Option Addr) (cl : Nat) (w : World) (h : Rc m cs zs a b ad al w) :
    Calls Try.prog 58 #[.agg #[.int .i64 m.W, .int .i64 m.H, .slice a m.R.length ca, .slice b m.C.length cb], .slice ad cs.length cap, .slice al zs.length cl] w fun e w' => ∃ v, e = .returned v ∧ OwnI w' w.heap.size v (seqL (lgT T cs zs) (zs.length - 1)) ∧ Below w.heap.size w w' := by
  obtain ⟨t0, hi0, hz0, hz1, hz2⟩ := info_parts iInfo
  have HB := Lib.hid ((Below.refl w.heap.size w).alloc (Nat.le_refl _) (.cells #[.int .i64 m.W, .int .i64 m.H, .slice a m.R.length ca, .slice b m.C.length cb] 26))
  have HK := Lib.hid ((Blk.new w 26 #[.int .i64 m.W, .int .i64 m.H, .slice a m.R.length ca, .slice b m.C.length cb]).alloc (.cells #[] 3))
  have H := Lib.hid h
  have HG := Lib.hid hg
  have HF := Lib.hid hf
  have HT := Lib.hid hT
  obtain ⟨n, hn⟩ : ∃ n, zs.length = n := ⟨_, rfl⟩
  have HN := Lib.hid hn
  rw [hn] at h8 ⊢
  obtain ⟨r, hr⟩ : ∃ r, n - 1 = r := ⟨_, rfl⟩
  rw [hr]
  obtain ⟨ww, hh, gm⟩ := good_of (good_ok hg)
  have HGm := Lib.hid gm
  have n36 := gm.n36
  have n1 := gm.n1
  obtain ⟨B, hB⟩ : ∃ B, w.heap.size = B := ⟨_, rfl⟩
  have HBq := Lib.hid hB
  have HS0 := Lib.hid (show IntK.Gr w (.slice (some ⟨w.heap.size + 1, 0, none⟩) 0 0) [] ((w.alloc (.cells #[.int .i64 m.W, .int .i64 m.H, .slice a m.R.length ca, .slice b m.C.length cb] 26)).alloc (.cells #[] 3)) from by
    have := own_ints (w.alloc (.cells #[.int .i64 m.W, .int .i64 m.H, .slice a m.R.length ca, .slice b m.C.length cb] 26)) w.heap.size (by simp)
    rw [World.size_alloc] at this
    exact ⟨HB.out.alloc (by simp) _, this⟩)
  rw [hB] at HK
  have HRq := Lib.hid hr
  clear h hg hf hn gm hT hr hB
  go_enter Try.func58, Try.ntmps58
  go_wp2
  try rw [HBq.out]
  go_loopg [8, 7] r (fun gk i v wr => ∃ k : Nat, k ≤ r ∧ gk = r - k ∧ i = .int .i64 ((k : Int) + 1) ∧ IntK.Gr w v (seqL (lgT T cs zs) k) wr ∧ Blk wr B 26 #[.int .i64 m.W, .int .i64 m.H, .slice a m.R.length ca, .slice b m.C.length cb])
  case atStart => exact ⟨0, Nat.zero_le _, rfl, rfl, by have h := HS0.out; rw [HBq.out] at h; exact h, HK.out⟩
  case round =>
    clear HS0 HK
    obtain ⟨k, hk, hgk, rfl, hS, hK⟩ := hrel
    have HS := Lib.hid hS
    have HK := Lib.hid hK
    clear hS hK
    by_cases hlt : k < r
    · have hkn : k + 1 < n := by have := HRq.out; omega
      have hkn' : (k : Int) + 1 < (n : Int) := by omega
      have hlz := H.out.cell (k := k) (by rw [HN.out]; omega)
      obtain ⟨zb, zo, rfl, hz0'⟩ := hlz
      have hzb : zb < w.heap.size := World.block_lt_of_cell? w _ (hz0' k (by rw [HN.out]; omega))
      have HZB := Lib.hid hzb
      have HRr := Lib.hid (H.out.later HS.out.b)
      obtain ⟨zb', zo', e', hce⟩ := HRr.out.cell (k := k) (by rw [HN.out]; omega)
      cases e'
      have c0 := hce (k + 1) (by rw [HN.out]; exact hkn)
      have c1 := hce k (by rw [HN.out]; omega)
      obtain ⟨x, hx⟩ : ∃ x, zAt zs (k + 1) = x := ⟨_, rfl⟩
      obtain ⟨y, hy⟩ : ∃ y, zAt zs k = y := ⟨_, rfl⟩
      rw [hx] at c0
      rw [hy] at c1
      have HX := Lib.hid hx
      have HY := Lib.hid hy
      have hk0 : (0 : Int) ≤ (k : Int) + 1 := by omega
      have hk1 : (0 : Int) ≤ (k : Int) := by omega
      have hk2 : (k : Int) < (n : Int) := by omega
      have hkw : IntKind.i64.wrap (k : Int) = (k : Int) := IntWalk.i64_in _ (by omega)
      have hu : undef = Value.tuple #[] := rfl
      have HFx := Lib.hid (show 0 ≤ fiZ cs x from by have := HF.out (k + 1) (by rw [HN.out]; exact hkn); unfold Fnd at this; rwa [hx] at this)
      have HFy := Lib.hid (show 0 ≤ fiZ cs y from by have := HF.out k (by rw [HN.out]; omega); unfold Fnd at this; rwa [hy] at this)
      clear hce hz0' hx hy hzb
      obtain ⟨p0, p1, p2, p3, -⟩ := MapS.Blk.four HK.out
      obtain ⟨cx, ecx, ocx⟩ := fnd_open HGm.out HG.out HFx.out
      obtain ⟨cy, ecy, ocy⟩ := fnd_open HGm.out HG.out HFy.out
      have CX := Lib.hid (fun w h => ecx ▸ cell_any cs hl x HFx.out ad cap w h)
      have CY := Lib.hid (fun w h => ecy ▸ cell_any cs hl y HFy.out ad cap w h)
      have CT := Lib.hid (fun w hr hc => BfoS.to_any m ww hh HGm.out a b ca cb cx w hr hc ocx (T cx) (HT.out ww hh HGm.out cx ocx))
      have hcyl := ocy.1
      obtain ⟨t, ht⟩ : ∃ t, T cx cy = t := ⟨_, rfl⟩
      have HLt := Lib.hid (show seqL (lgT T cs zs) (k + 1) = seqL (lgT T cs zs) k ++ [t] from by rw [seq_next]; unfold lgT; rw [HX.out, HY.out, ecx, ecy, ← ht]; rfl)
      have HTt := Lib.hid ht
      have hy0 : (0 : Int) ≤ (cy : Int) := by omega
      have hy2 : (cy : Int) < (ww : Int) * (hh : Int) := by rw [← Int.natCast_mul]; omega
      have HCy := Lib.hid hcyl
      have HM := Lib.hid (show (seqL (lgT T cs zs) k).length = k from seq_len _ _)
      clear ecx ecy ocx ocy ht hcyl
      go_upto_region 5 with (fail)
      refine wp_region_noPanic ?_
      refine wp_region_held_drew (S := (fun Wx : World => Wx.cell? ⟨B, 0, none⟩ = some (.int .i64 m.W) ∧ Wx.cell? ⟨B, 1, none⟩ = some (.int .i64 m.H) ∧ Wx.cell? ⟨B, 2, none⟩ = some (.slice a m.R.length ca) ∧ Wx.cell? ⟨B, 3, none⟩ = some (.slice b m.C.length cb) ∧ Wx.cell? ⟨zb, zo + (k + 1), none⟩ = some (.int .i64 x) ∧ Wx.cell? ⟨zb, zo + k, none⟩ = some (.int .i64 y))) (by kernel_rfl) ⟨p0, p1, p2, p3, c0, c1⟩ (fun hHeld => ?_)
      refine wpAnyH_take (i := 0) (oi := _) (v := ?_) rfl (by kernel_rfl) (by kernel_rfl) (by kernel_rfl) (fun _ _ _ h => h) (Or.inl ⟨by rfl, ?_⟩) (by assumption) ?_; rotate_left; focus (intro W hSw; (try dsimp only at hSw); go_simp; (first | done | with_reducible rfl))
      (try simp only [List.getElem_toArray, List.getElem_cons_succ, List.getElem_cons_zero, Act.put, List.setIfInBounds_toArray, List.set_cons_zero, List.set_cons_succ])
      refine wpAnyH_take (i := 1) (oi := _) (v := ?_) rfl (by kernel_rfl) (by kernel_rfl) (by kernel_rfl) (fun _ _ _ h => h) (Or.inl ⟨by rfl, ?_⟩) (by assumption) ?_; rotate_left; focus (intro W hSw; (try dsimp only at hSw); go_simp; (first | done | with_reducible rfl))
      (try simp only [List.getElem_toArray, List.getElem_cons_succ, List.getElem_cons_zero, Act.put, List.setIfInBounds_toArray, List.set_cons_zero, List.set_cons_succ])
      refine wpAnyH_take (i := 2) (oi := _) (v := ?_) rfl (by kernel_rfl) (by kernel_rfl) (by kernel_rfl) (fun _ _ _ h => h) (Or.inl ⟨by rfl, ?_⟩) (by assumption) ?_; rotate_left; focus (intro W hSw; (try dsimp only at hSw); go_simp; (first | done | with_reducible rfl))
      (try simp only [List.getElem_toArray, List.getElem_cons_succ, List.getElem_cons_zero, Act.put, List.setIfInBounds_toArray, List.set_cons_zero, List.set_cons_succ])
      refine wpAnyH_take (i := 3) (oi := _) (v := ?_) rfl (by kernel_rfl) (by kernel_rfl) (by kernel_rfl) (fun _ _ _ h => h) (Or.inl ⟨by rfl, ?_⟩) (by assumption) ?_; rotate_left; focus (intro W hSw; (try dsimp only at hSw); go_simp; (first | done | with_reducible rfl))
      (try simp only [List.getElem_toArray, List.getElem_cons_succ, List.getElem_cons_zero, Act.put, List.setIfInBounds_toArray, List.set_cons_zero, List.set_cons_succ])
      refine wpAnyH_take (i := 4) (oi := _) (v := ?_) rfl (by kernel_rfl) (by kernel_rfl) (by kernel_rfl) (fun _ _ _ h => h) (Or.inl ⟨by rfl, ?_⟩) (by assumption) ?_; rotate_left; focus (intro W hSw; (try dsimp only at hSw); go_simp; (first | done | with_reducible rfl))
      (try simp only [List.getElem_toArray, List.getElem_cons_succ, List.getElem_cons_zero, Act.put, List.setIfInBounds_toArray, List.set_cons_zero, List.set_cons_succ])
      refine wpAnyH_take (i := 5) (oi := _) (v := ?_) rfl (by kernel_rfl) (by kernel_rfl) (by kernel_rfl) (fun _ _ _ h => h) (Or.inl ⟨by rfl, ?_⟩) (by assumption) ?_; rotate_left; focus (intro W hSw; (try dsimp only at hSw); go_simp; (first | done | with_reducible rfl))
      (try simp only [List.getElem_toArray, List.getElem_cons_succ, List.getElem_cons_zero, Act.put, List.setIfInBounds_toArray, List.set_cons_zero, List.set_cons_succ])
      refine wpAnyH_take (i := 6) (oi := _) (v := ?_) rfl (by kernel_rfl) (by kernel_rfl) (by kernel_rfl) (fun _ _ _ h => h) (Or.inl ⟨by rfl, ?_⟩) (by assumption) ?_; rotate_left; focus (intro W hSw; (try dsimp only at hSw); go_simp; (first | done | with_reducible rfl))
      (try simp only [List.getElem_toArray, List.getElem_cons_succ, List.getElem_cons_zero, Act.put, List.setIfInBounds_toArray, List.set_cons_zero, List.set_cons_succ])
      refine wpAnyH_take (i := 9) (oi := _) (v := ?_) rfl (by kernel_rfl) (by kernel_rfl) (by kernel_rfl) (fun _ _ _ h => h) (Or.inl ⟨by rfl, ?_⟩) (by assumption) ?_; rotate_left; focus (intro W hSw; (try dsimp only at hSw); go_simp; (first | done | with_reducible rfl))
      (try simp only [List.getElem_toArray, List.getElem_cons_succ, List.getElem_cons_zero, Act.put, List.setIfInBounds_toArray, List.set_cons_zero, List.set_cons_succ])
      refine wpAnyH_take (i := 10) (oi := _) (v := ?_) rfl (by kernel_rfl) (by kernel_rfl) (by kernel_rfl) (fun _ _ _ h => h) (Or.inl ⟨by rfl, ?_⟩) (by assumption) ?_; rotate_left; focus (intro W hSw; (try dsimp only at hSw); go_simp; (first | done | with_reducible rfl))
      (try simp only [List.getElem_toArray, List.getElem_cons_succ, List.getElem_cons_zero, Act.put, List.setIfInBounds_toArray, List.set_cons_zero, List.set_cons_succ])
      refine wpAnyH_take (i := 11) (oi := _) (v := ?_) rfl (by kernel_rfl) (by kernel_rfl) (by kernel_rfl) (fun _ _ _ h => h) (Or.inl ⟨by rfl, ?_⟩) (by assumption) ?_; rotate_left; focus (intro W hSw; (try dsimp only at hSw); go_simp; (first | done | with_reducible rfl))
      (try simp only [List.getElem_toArray, List.getElem_cons_succ, List.getElem_cons_zero, Act.put, List.setIfInBounds_toArray, List.set_cons_zero, List.set_cons_succ])
      refine wpAnyH_take (i := 12) (oi := _) (v := ?_) rfl (by kernel_rfl) (by kernel_rfl) (by kernel_rfl) (fun _ _ _ h => h) (Or.inl ⟨by rfl, ?_⟩) (by assumption) ?_; rotate_left; focus (intro W hSw; (try dsimp only at hSw); go_simp; (first | done | with_reducible rfl))
      (try simp only [List.getElem_toArray, List.getElem_cons_succ, List.getElem_cons_zero, Act.put, List.setIfInBounds_toArray, List.set_cons_zero, List.set_cons_succ])
      refine wpAnyH_take (i := 13) (oi := _) (v := ?_) rfl (by kernel_rfl) (by kernel_rfl) (by kernel_rfl) (fun _ _ _ h => h) (Or.inl ⟨by rfl, ?_⟩) (by assumption) ?_; rotate_left; focus (intro W hSw; (try dsimp only at hSw); go_simp; (first | done | with_reducible rfl))
      (try simp only [List.getElem_toArray, List.getElem_cons_succ, List.getElem_cons_zero, Act.put, List.setIfInBounds_toArray, List.set_cons_zero, List.set_cons_succ])
      refine wpAnyH_take (i := 14) (oi := _) (v := ?_) rfl (by kernel_rfl) (by kernel_rfl) (by kernel_rfl) (fun _ _ _ h => h) (Or.inl ⟨by rfl, ?_⟩) (by assumption) ?_; rotate_left; focus (intro W hSw; (try dsimp only at hSw); go_simp; (first | done | with_reducible rfl))
      (try simp only [List.getElem_toArray, List.getElem_cons_succ, List.getElem_cons_zero, Act.put, List.setIfInBounds_toArray, List.set_cons_zero, List.set_cons_succ])
      refine wpAnyH_ready (rs := [7]) (by kernel_rfl) (by simp) ?_
      refine AllReadyH.cons (o := _) rfl (fun K hK => ?_) AllReadyH.nil
      go_simp
      go_at_call 89
      refine (CX.out _ HRr.out.drew.d.l).mono ?_
      rintro e w2 ⟨rfl, rfl⟩
      go_wp2_with fail
      refine hK.out _ _ ⟨p0, p1, p2, p3, c0, c1⟩ (fun _ => ?_)
      clear hK K hHeld
      refine wpAnyH_ready (rs := [8]) (by kernel_rfl) (by simp) ?_
      refine AllReadyH.cons (o := _) rfl (fun K hK => ?_) AllReadyH.nil
      go_simp
      go_at_call 88
      refine (CT.out _ HRr.out.drew.d.r HRr.out.drew.d.c).mono ?_
      rintro e w2 ⟨⟨v2, rfl, ho⟩, hb⟩
      obtain ⟨gq, cq, rfl⟩ := own_at ho (by rw [oL_len]; omega)
      have hcx := (own_cell ho (j := cy) (by rw [oL_len]; exact HCy.out)).1
      rw [oL_at _ HCy.out, HTt.out] at hcx
      rw [oL_len]
      have hS : (w2.cell? ⟨B, 0, none⟩ = some (.int .i64 m.W) ∧ w2.cell? ⟨B, 1, none⟩ = some (.int .i64 m.H) ∧ w2.cell? ⟨B, 2, none⟩ = some (.slice a m.R.length ca) ∧ w2.cell? ⟨B, 3, none⟩ = some (.slice b m.C.length cb) ∧ w2.cell? ⟨zb, zo + (k + 1), none⟩ = some (.int .i64 x) ∧ w2.cell? ⟨zb, zo + k, none⟩ = some (.int .i64 y)) := ⟨(hb.cell (World.block_lt_of_cell? wr.drew _ p0)).trans p0, (hb.cell (World.block_lt_of_cell? wr.drew _ p1)).trans p1, (hb.cell (World.block_lt_of_cell? wr.drew _ p2)).trans p2, (hb.cell (World.block_lt_of_cell? wr.drew _ p3)).trans p3, (hb.cell (World.block_lt_of_cell? wr.drew _ c0)).trans c0, (hb.cell (World.block_lt_of_cell? wr.drew _ c1)).trans c1⟩
      have HS3 := Lib.hid (HS.out.below ((Below.refl _ _).drew.trans hb))
      have HK3 := Lib.hid (HK.out.later ((Below.refl _ _).drew.trans hb))
      have HR3 := Lib.hid (HRr.out.drew.later hb)
      clear hb ho HRr HS HK
      go_wp2_with fail
      refine hK.out _ _ hS (fun _ => ?_)
      clear hK K
      refine wpAnyH_ready (rs := [15]) (by kernel_rfl) (by simp) ?_
      refine AllReadyH.cons (o := _) rfl (fun K hK => ?_) AllReadyH.nil
      go_simp
      go_at_call 89
      refine (CY.out _ HR3.out.d.l).mono ?_
      rintro e w3 ⟨rfl, rfl⟩
      go_wp2_with fail
      refine hK.out _ _ hS (fun _ => ?_)
      clear hK K
      refine wpAnyH_take (i := 16) (oi := _) (v := ?_) rfl (by kernel_rfl) (by kernel_rfl) (by kernel_rfl) (fun _ _ _ h => h) (Or.inl ⟨by rfl, ?_⟩) (by assumption) ?_; rotate_left; focus (intro W hSw; (try dsimp only at hSw); go_simp; (first | done | with_reducible rfl))
      (try simp only [List.getElem_toArray, List.getElem_cons_succ, List.getElem_cons_zero, Act.put, List.setIfInBounds_toArray, List.set_cons_zero, List.set_cons_succ])
      refine wpAnyH_ready (rs := [17]) (by kernel_rfl) (by simp) ?_
      refine AllReadyH.cons (o := _) rfl (fun K hK => ?_) AllReadyH.nil
      go_simp
      refine hK.out _ _ hS (fun _ => ?_)
      clear hK K hcx
      have hb : Below w3.heap.size w3 (w3.alloc (.cells #[.int .i64 t] 3)) := (Below.refl _ _).alloc (Nat.le_refl _) _
      have hS3 : ((w3.alloc (.cells #[.int .i64 t] 3)).cell? ⟨B, 0, none⟩ = some (.int .i64 m.W) ∧ (w3.alloc (.cells #[.int .i64 t] 3)).cell? ⟨B, 1, none⟩ = some (.int .i64 m.H) ∧ (w3.alloc (.cells #[.int .i64 t] 3)).cell? ⟨B, 2, none⟩ = some (.slice a m.R.length ca) ∧ (w3.alloc (.cells #[.int .i64 t] 3)).cell? ⟨B, 3, none⟩ = some (.slice b m.C.length cb) ∧ (w3.alloc (.cells #[.int .i64 t] 3)).cell? ⟨zb, zo + (k + 1), none⟩ = some (.int .i64 x) ∧ (w3.alloc (.cells #[.int .i64 t] 3)).cell? ⟨zb, zo + k, none⟩ = some (.int .i64 y)) := by
        obtain ⟨p0, p1, p2, p3, c0, c1⟩ := hS
        exact ⟨(hb.cell (World.block_lt_of_cell? w3 _ p0)).trans p0, (hb.cell (World.block_lt_of_cell? w3 _ p1)).trans p1, (hb.cell (World.block_lt_of_cell? w3 _ p2)).trans p2, (hb.cell (World.block_lt_of_cell? w3 _ p3)).trans p3, (hb.cell (World.block_lt_of_cell? w3 _ c0)).trans c0, (hb.cell (World.block_lt_of_cell? w3 _ c1)).trans c1⟩
      have HS4 := Lib.hid (HS3.out.alloc (.cells #[.int .i64 t] 3))
      have HK4 := Lib.hid (HK3.out.alloc (.cells #[.int .i64 t] 3))
      have hcn := cell_one_new w3 (.int .i64 t) 3
      clear hb hS
      refine wpAnyH_ready (rs := [18]) (by kernel_rfl) (by simp) ?_
      refine AllReadyH.cons (o := _) rfl (fun K hK => ?_) AllReadyH.nil
      go_simp
      refine hK.out _ _ hS3 (fun _ => ?_)
      clear hK K
      have hown := HS4.out.own
      unfold OwnI at hown
      rw [HM.out] at hown
      have hsz := HS4.out.b.size
      refine wpAnyH_ready (rs := [19]) (by kernel_rfl) (by simp) ?_
      refine AllReadyH.cons (o := _) rfl (fun K hK => ?_) AllReadyH.nil
      rw [if_pos (by rfl)]
      refine wp_append_own _ (.tmp 16) (.tmp 34) 24 rfl w.heap.size 3 t0 (.int .i64 0) 1 8 Try.underlying24 hi0 hz0 hz1 hz2 rfl (by decide) _ k _ (by (try simp only [Act.eval, Act.put]); rfl) hown ⟨_, 0, none⟩ 1 1 [.int .i64 t] (by (try simp only [Act.eval, Act.put]); rfl) rfl hcn (by simp [Value.oneCell']) (by unfold maxLen; omega) (by omega) hsz ?_
      intro v' w5 hown3 hgr3 _
      have HP3 := Lib.hid (HS4.out.put HM.out hgr3 hown3)
      have HK5 := Lib.hid (blk_keep hown HK4.out (by decide) hgr3)
      obtain ⟨q0, q1, q2, q3, -⟩ := MapS.Blk.four HK5.out
      have hS5 : (w5.cell? ⟨B, 0, none⟩ = some (.int .i64 m.W) ∧ w5.cell? ⟨B, 1, none⟩ = some (.int .i64 m.H) ∧ w5.cell? ⟨B, 2, none⟩ = some (.slice a m.R.length ca) ∧ w5.cell? ⟨B, 3, none⟩ = some (.slice b m.C.length cb) ∧ w5.cell? ⟨zb, zo + (k + 1), none⟩ = some (.int .i64 x) ∧ w5.cell? ⟨zb, zo + k, none⟩ = some (.int .i64 y)) := by
        obtain ⟨-, -, -, -, c0, c1⟩ := hS3
        have hne : ∀ z, u7.ownBlock = some z → w.heap.size ≤ z := fun z e => (World.ownsRow.lt hown z e).1
        exact ⟨q0, q1, q2, q3, hgr3.cell c0 (fun e => by have h1 := hne _ e.symm; have h2 := HZB.out; simp at h1; omega), hgr3.cell c1 (fun e => by have h1 := hne _ e.symm; have h2 := HZB.out; simp at h1; omega)⟩
      refine hK.out _ _ hS5 (fun _ => ?_)
      clear hK K hown3 hgr3 hS5 hS3 q0 q1 q2 q3
      refine wpAnyH_take (i := 20) (oi := _) (v := ?_) rfl (by kernel_rfl) (by kernel_rfl) (by kernel_rfl) (fun _ _ _ h => h) (Or.inl ⟨by rfl, ?_⟩) (by assumption) ?_; rotate_left; focus (intro W hSw; (try dsimp only at hSw); go_simp; (first | done | with_reducible rfl))
      (try simp only [List.getElem_toArray, List.getElem_cons_succ, List.getElem_cons_zero, Act.put, List.setIfInBounds_toArray, List.set_cons_zero, List.set_cons_succ])
      refine wpAnyH_done (by kernel_rfl) ?_ _
      refine NoPanic.normal ?_
      (try simp only [List.getElem_toArray, List.getElem_cons_succ, List.getElem_cons_zero, Act.put, List.setIfInBounds_toArray, List.set_cons_zero, List.set_cons_succ])
      clear hu
      go_wp2
      go_roundg (r - (k + 1))
      case measure => omega
      case rel => exact ⟨k + 1, by omega, rfl, by go_num, by rw [HLt.out]; exact HP3.out, HK5.out⟩
    · obtain rfl : k = r := by omega
      have hkn : ¬ k + 1 < n := by have := HRq.out; omega
      go_wp2
      go_ret
      exact ⟨_, rfl, HS.out.own, HS.out.b⟩
end Go.Proofs.Ytdfmfmndmldggaa.KrT
