/- The Ids of the Classes that admit a Runner, ClassesFor: the model's texts; both. -/
import Derived.Test.YtleoljnofdajfaaGreatDoorKaF
import Derived.Deep.MidRow
namespace Go.Proofs.YtleoljnofdajfaaGreatDoor.KaH
open Go.RowKit Lb Bk InA KlI KaA KaG KaD KaF
open KlK (at_ at_lt no Row Own cells cells_one blk_cells info)
open IntS (OwnI iInfo)
set_option linter.unusedSimpArgs false
set_option linter.unusedVariables false

theorem blk_keep {w w' : World} {base : Nat} {e T : TypeId} {k n : Nat} {v : Value} {xs : List Value} {A : Nat} {cs : Array Value} (h : w.ownsRow base e k v n xs) (hb : Blk w A T cs) (hne : e ≠ T) (hg : w.grownBy w' v.ownBlock) : Blk w' A T cs := by
  refine (hg.block A hb.lt (fun e2 => ?_)).trans hb
  rcases h.2 with ⟨rfl, _⟩ | ⟨g, cap, cur, rfl, _, hh, _⟩
  · simp [Value.ownBlock] at e2
  · have h1 : A = g := by simpa [Value.ownBlock] using e2
    subst h1
    unfold Blk at hb
    rw [hh] at hb
    injection hb with h3
    injection h3 with _ h4
    exact hne h4

set_option maxRecDepth 20000 in
set_option maxHeartbeats 4000000 in
theorem for_any (rs : List Kl) (hl : rs.length ≤ 1048576) (r : Ru) (hb1 : 1920 ≤ r.bo) (hb2 : r.bo ≤ 2020) (a : Option Addr) (cap : Nat) (w : World) (hr : Row w a rs) :
    Calls Tryz.prog 49 #[.slice a rs.length cap, .agg #[.int .i64 r.id, .string r.nm, .string r.cl, .int .i64 r.bo, .bool r.wo, .int .i64 r.ca]] w fun e w' => ∃ v, e = .returned v ∧ IntK.Own w' w.heap.size v (idsL (rs.filter (fun c => admR c r))) ∧ Below w.heap.size w w' := by
  obtain ⟨t0, hi0, hz0, hz1, hz2⟩ := info_parts iInfo
  have HB := Lib.hid ((Below.refl w.heap.size w).alloc (Nat.le_refl _) (.cells #[.int .i64 r.id, .string r.nm, .string r.cl, .int .i64 r.bo, .bool r.wo, .int .i64 r.ca] 35))
  have HK0 := Lib.hid ((Blk.new w 35 #[.int .i64 r.id, .string r.nm, .string r.cl, .int .i64 r.bo, .bool r.wo, .int .i64 r.ca]).alloc (.cells #[] 3))
  have H := Lib.hid hr
  have HS0 := Lib.hid (show IntK.Gr w (.slice (some ⟨w.heap.size + 1, 0, none⟩) 0 0) [] ((w.alloc (.cells #[.int .i64 r.id, .string r.nm, .string r.cl, .int .i64 r.bo, .bool r.wo, .int .i64 r.ca] 35)).alloc (.cells #[] 3)) from
    ⟨HB.out.alloc (by simp) _, by have := own_none (w.alloc (.cells #[.int .i64 r.id, .string r.nm, .string r.cl, .int .i64 r.bo, .bool r.wo, .int .i64 r.ca] 35)) w.heap.size (by simp); rw [World.size_alloc] at this; exact this⟩)
  obtain ⟨n, hn⟩ : ∃ n, rs.length = n := ⟨_, rfl⟩
  have HN := Lib.hid hn
  rw [hn] at hl ⊢
  obtain ⟨ag, hag⟩ : ∃ x, 2026 - r.bo = x := ⟨_, rfl⟩
  have hwr : IntKind.i64.wrap (2026 - r.bo) = ag := by rw [← hag]; exact IntWalk.i64_in _ (by omega)
  have HAG := Lib.hid hag
  obtain ⟨B, hB⟩ : ∃ B, w.heap.size = B := ⟨_, rfl⟩
  have HBq := Lib.hid hB
  rw [hB] at HK0
  clear hr hn hag hb1 hb2 HB hB
  go_enter Tryz.func49, Tryz.ntmps49
  go_wp2
  try rw [HBq.out]
  go_loopg [6, 5] n (fun gk i v wr => ∃ k : Nat, k ≤ n ∧ gk = n - k ∧ i = .int .i64 k ∧ IntK.Gr w v (idsL ((rs.take k).filter (fun c => admR c r))) wr ∧ Blk wr B 35 #[.int .i64 r.id, .string r.nm, .string r.cl, .int .i64 r.bo, .bool r.wo, .int .i64 r.ca])
  case atStart => exact ⟨0, Nat.zero_le _, rfl, rfl, by rw [← HBq.out]; simpa [idsL] using HS0.out, HK0.out⟩
  case round =>
    clear HS0 HK0
    obtain ⟨k, hk, hgk, rfl, hS, hK⟩ := hrel
    have HS := Lib.hid hS
    have HK := Lib.hid hK
    clear hS hK
    by_cases hlt : k < n
    · obtain ⟨b, off, rfl, c0, c1, c2, c3, c4, c5, c6, c7⟩ := (H.out.later HS.out.b).cells (i := k) (by rw [HN.out]; exact hlt)
      obtain ⟨y, hy⟩ : ∃ y, at_ rs k = y := ⟨_, rfl⟩
      rw [hy] at c0 c1 c2 c3 c4 c5 c6 c7
      have HY := Lib.hid hy
      obtain ⟨⟨q0, q1, q2, q3, q4, q5⟩, -⟩ := RuK.blk_cells HK.out
      obtain ⟨o, ho⟩ : ∃ o, admR y r = o := ⟨_, rfl⟩
      have HO := Lib.hid ho
      have CP := Lib.hid (fun w => (show admB y ag r.wo = o from by rw [← ho, ← HAG.out]; rfl) ▸ adm_spec y ag r.wo w)
      clear hy ho
      have hu : undef = Value.tuple #[] := rfl
      have hk0 : (0 : Int) ≤ (k : Int) := by omega
      have hk1 : (k : Int) < (n : Int) := by omega
      go_upto_region 5 with (fail)
      refine wp_region_noPanic ?_
      refine wp_region_held_drew (S := (fun Wx : World => Wx.cell? ⟨b, off + k * 8, none⟩ = some (.int .i64 y.id) ∧ Wx.cell? ⟨b, off + k * 8 + 1, none⟩ = some (.string y.nm) ∧ Wx.cell? ⟨b, off + k * 8 + 2, none⟩ = some (.int .i64 y.lo) ∧ Wx.cell? ⟨b, off + k * 8 + 3, none⟩ = some (.int .i64 y.hi) ∧ Wx.cell? ⟨b, off + k * 8 + 4, none⟩ = some (.bool y.wo) ∧ Wx.cell? ⟨b, off + k * 8 + 5, none⟩ = some (.bool y.me) ∧ Wx.cell? ⟨b, off + k * 8 + 6, none⟩ = some (.int .i64 y.co) ∧ Wx.cell? ⟨b, off + k * 8 + 7, none⟩ = some (.int .i64 y.mo) ∧ Wx.cell? ⟨B, 0, none⟩ = some (.int .i64 r.id) ∧ Wx.cell? ⟨B, 1, none⟩ = some (.string r.nm) ∧ Wx.cell? ⟨B, 2, none⟩ = some (.string r.cl) ∧ Wx.cell? ⟨B, 3, none⟩ = some (.int .i64 r.bo) ∧ Wx.cell? ⟨B, 4, none⟩ = some (.bool r.wo) ∧ Wx.cell? ⟨B, 5, none⟩ = some (.int .i64 r.ca))) (by kernel_rfl) ⟨c0, c1, c2, c3, c4, c5, c6, c7, q0, q1, q2, q3, q4, q5⟩ (fun hHeld => ?_)
      refine wpAnyH_take (i := 0) (oi := _) (v := ?_) rfl (by kernel_rfl) (by kernel_rfl) (by kernel_rfl) (fun _ _ _ h => h) (Or.inl ⟨by rfl, ?_⟩) (by assumption) ?_; rotate_left; focus (intro W hSw; (try dsimp only at hSw); go_simp; (first | done | with_reducible rfl))
      (try simp only [List.getElem_toArray, List.getElem_cons_succ, List.getElem_cons_zero, Act.put, List.setIfInBounds_toArray, List.set_cons_zero, List.set_cons_succ])
      refine wpAnyH_take (i := 1) (oi := _) (v := ?_) rfl (by kernel_rfl) (by kernel_rfl) (by kernel_rfl) (fun _ _ _ h => h) (Or.inl ⟨by rfl, ?_⟩) (by assumption) ?_; rotate_left; focus (intro W hSw; (try dsimp only at hSw); go_simp; (first | done | with_reducible rfl))
      (try simp only [List.getElem_toArray, List.getElem_cons_succ, List.getElem_cons_zero, Act.put, List.setIfInBounds_toArray, List.set_cons_zero, List.set_cons_succ])
      refine wpAnyH_take (i := 2) (oi := _) (v := ?_) rfl (by kernel_rfl) (by kernel_rfl) (by kernel_rfl) (fun _ _ _ h => h) (Or.inl ⟨by rfl, ?_⟩) (by assumption) ?_; rotate_left; focus (intro W hSw; (try dsimp only at hSw); go_simp; (first | done | with_reducible rfl))
      (try simp only [List.getElem_toArray, List.getElem_cons_succ, List.getElem_cons_zero, Act.put, List.setIfInBounds_toArray, List.set_cons_zero, List.set_cons_succ])
      refine wpAnyH_take (i := 3) (oi := _) (v := ?_) rfl (by kernel_rfl) (by kernel_rfl) (by kernel_rfl) (fun _ _ _ h => h) (Or.inl ⟨by rfl, ?_⟩) (by assumption) ?_; rotate_left; focus (intro W hSw; (try dsimp only at hSw); go_simp; (first | done | with_reducible rfl))
      (try simp only [List.getElem_toArray, List.getElem_cons_succ, List.getElem_cons_zero, Act.put, List.setIfInBounds_toArray, List.set_cons_zero, List.set_cons_succ])
      refine wpAnyH_take (i := 4) (oi := _) (v := ?_) rfl (by kernel_rfl) (by kernel_rfl) (by kernel_rfl) (fun _ _ _ h => h) (Or.inl ⟨by rfl, ?_⟩) (by assumption) ?_; rotate_left; focus (intro W hSw; (try dsimp only at hSw); go_simp; (first | done | with_reducible rfl))
      (try simp only [List.getElem_toArray, List.getElem_cons_succ, List.getElem_cons_zero, Act.put, List.setIfInBounds_toArray, List.set_cons_zero, List.set_cons_succ])
      refine wpAnyH_take (i := 5) (oi := _) (v := ?_) rfl (by kernel_rfl) (by kernel_rfl) (by kernel_rfl) (fun _ _ _ h => h) (Or.inl ⟨by rfl, ?_⟩) (by assumption) ?_; rotate_left; focus (intro W hSw; (try dsimp only at hSw); go_simp; (first | done | with_reducible rfl))
      (try simp only [List.getElem_toArray, List.getElem_cons_succ, List.getElem_cons_zero, Act.put, List.setIfInBounds_toArray, List.set_cons_zero, List.set_cons_succ])
      refine wpAnyH_take (i := 6) (oi := _) (v := ?_) rfl (by kernel_rfl) (by kernel_rfl) (by kernel_rfl) (fun _ _ _ h => h) (Or.inl ⟨by rfl, ?_⟩) (by assumption) ?_; rotate_left; focus (intro W hSw; (try dsimp only at hSw); go_simp; (first | done | with_reducible rfl))
      (try simp only [List.getElem_toArray, List.getElem_cons_succ, List.getElem_cons_zero, Act.put, List.setIfInBounds_toArray, List.set_cons_zero, List.set_cons_succ])
      refine wpAnyH_take (i := 7) (oi := _) (v := ?_) rfl (by kernel_rfl) (by kernel_rfl) (by kernel_rfl) (fun _ _ _ h => h) (Or.inl ⟨by rfl, ?_⟩) (by assumption) ?_; rotate_left; focus (intro W hSw; (try dsimp only at hSw); go_simp; (first | done | with_reducible rfl))
      (try simp only [List.getElem_toArray, List.getElem_cons_succ, List.getElem_cons_zero, Act.put, List.setIfInBounds_toArray, List.set_cons_zero, List.set_cons_succ])
      refine wpAnyH_take (i := 8) (oi := _) (v := ?_) rfl (by kernel_rfl) (by kernel_rfl) (by kernel_rfl) (fun _ _ _ h => h) (Or.inl ⟨by rfl, ?_⟩) (by assumption) ?_; rotate_left; focus (intro W hSw; (try dsimp only at hSw); go_simp; (first | done | with_reducible rfl))
      (try simp only [List.getElem_toArray, List.getElem_cons_succ, List.getElem_cons_zero, Act.put, List.setIfInBounds_toArray, List.set_cons_zero, List.set_cons_succ])
      refine wpAnyH_ready (rs := [9]) (by kernel_rfl) (by simp) ?_
      refine AllReadyH.cons (o := _) rfl (fun K hK => ?_) AllReadyH.nil
      go_simp
      go_at_call 47
      refine (CP.out _).mono ?_
      rintro e w2 ⟨rfl, hb⟩
      have hS : (w2.cell? ⟨b, off + k * 8, none⟩ = some (.int .i64 y.id) ∧ w2.cell? ⟨b, off + k * 8 + 1, none⟩ = some (.string y.nm) ∧ w2.cell? ⟨b, off + k * 8 + 2, none⟩ = some (.int .i64 y.lo) ∧ w2.cell? ⟨b, off + k * 8 + 3, none⟩ = some (.int .i64 y.hi) ∧ w2.cell? ⟨b, off + k * 8 + 4, none⟩ = some (.bool y.wo) ∧ w2.cell? ⟨b, off + k * 8 + 5, none⟩ = some (.bool y.me) ∧ w2.cell? ⟨b, off + k * 8 + 6, none⟩ = some (.int .i64 y.co) ∧ w2.cell? ⟨b, off + k * 8 + 7, none⟩ = some (.int .i64 y.mo) ∧ w2.cell? ⟨B, 0, none⟩ = some (.int .i64 r.id) ∧ w2.cell? ⟨B, 1, none⟩ = some (.string r.nm) ∧ w2.cell? ⟨B, 2, none⟩ = some (.string r.cl) ∧ w2.cell? ⟨B, 3, none⟩ = some (.int .i64 r.bo) ∧ w2.cell? ⟨B, 4, none⟩ = some (.bool r.wo) ∧ w2.cell? ⟨B, 5, none⟩ = some (.int .i64 r.ca)) := ⟨(hb.cell (World.block_lt_of_cell? wr.drew _ c0)).trans c0, (hb.cell (World.block_lt_of_cell? wr.drew _ c1)).trans c1, (hb.cell (World.block_lt_of_cell? wr.drew _ c2)).trans c2, (hb.cell (World.block_lt_of_cell? wr.drew _ c3)).trans c3, (hb.cell (World.block_lt_of_cell? wr.drew _ c4)).trans c4, (hb.cell (World.block_lt_of_cell? wr.drew _ c5)).trans c5, (hb.cell (World.block_lt_of_cell? wr.drew _ c6)).trans c6, (hb.cell (World.block_lt_of_cell? wr.drew _ c7)).trans c7, (hb.cell (World.block_lt_of_cell? wr.drew _ q0)).trans q0, (hb.cell (World.block_lt_of_cell? wr.drew _ q1)).trans q1, (hb.cell (World.block_lt_of_cell? wr.drew _ q2)).trans q2, (hb.cell (World.block_lt_of_cell? wr.drew _ q3)).trans q3, (hb.cell (World.block_lt_of_cell? wr.drew _ q4)).trans q4, (hb.cell (World.block_lt_of_cell? wr.drew _ q5)).trans q5⟩
      have HS3 := Lib.hid (HS.out.below ((Below.refl _ _).drew.trans hb))
      have HK3 := Lib.hid (HK.out.later ((Below.refl _ _).drew.trans hb))
      clear hb
      go_wp2_with fail
      refine hK.out _ _ hS (fun _ => ?_)
      clear hK K hHeld hS
      refine wpAnyH_done (by kernel_rfl) ?_ _
      refine NoPanic.normal ?_
      (try simp only [List.getElem_toArray, List.getElem_cons_succ, List.getElem_cons_zero, Act.put, List.setIfInBounds_toArray, List.set_cons_zero, List.set_cons_succ])
      clear hu HS HK c0 c1 c2 c3 c4 c5 c6 c7 q0 q1 q2 q3 q4 q5
      cases o with
      | false =>
        have HSk := Lib.hid (fil_skip (p := fun c => admR c r) (rs := rs) (k := k) (by rw [HN.out]; exact hlt) (by rw [HY.out]; exact HO.out))
        go_wp2
        go_roundg (n - (k + 1))
        case measure => omega
        case rel => exact ⟨k + 1, by omega, rfl, by go_num, by rw [HSk.out]; exact HS3.out, HK3.out⟩
      | true =>
        have HTk := Lib.hid (fil_take (p := fun c => admR c r) (rs := rs) (k := k) (by rw [HN.out]; exact hlt) (by rw [HY.out]; exact HO.out))
        have hml := fil_len (fun c => admR c r) (rs.take k)
        rw [KaA.take_len (rs := rs) (k := k) (by rw [HN.out]; omega)] at hml
        obtain ⟨fs, hfs⟩ : ∃ fs, (rs.take k).filter (fun c => admR c r) = fs := ⟨_, rfl⟩
        rw [hfs] at hml HS3 HTk
        obtain ⟨m, hm⟩ : ∃ m, fs.length = m := ⟨_, rfl⟩
        rw [hm] at hml
        have HM := Lib.hid (show (idsL fs).length = m from by rw [ids_len]; exact hm)
        obtain ⟨b1, off1, e1, d0, d1, d2, d3, d4, d5, d6, d7⟩ := (H.out.later HS3.out.b).cells (i := k) (by rw [HN.out]; exact hlt)
        cases e1
        rw [HY.out] at d0
        clear hfs hm d1 d2 d3 d4 d5 d6 d7
        have hown := HS3.out.own.below ((Below.refl _ _).alloc (Nat.le_refl _) (.cells #[.int .i64 y.id] 3))
        unfold OwnI at hown
        rw [HM.out] at hown
        have HTa := Lib.hid (HS3.out.alloc (.cells #[.int .i64 y.id] 3))
        have HKa := Lib.hid (HK3.out.alloc (.cells #[.int .i64 y.id] 3))
        have hsz := HS3.out.b.size
        go_wp2_with (at_builtin; (refine wpList_append_own _ rfl (.tmp 24) (.tmp 30) 40 rfl w.heap.size 3 t0 (.int .i64 0) 1 8 Tryz.underlying40 hi0 hz0 hz1 hz2 rfl (by decide) _ m _ rfl hown ⟨_, 0, none⟩ 1 1 [.int .i64 y.id] rfl rfl (cell_one_new _ _ _) (by simp [Value.oneCell']) (by unfold maxLen; omega) (by omega) (by simp; omega) ?_; intro v' w3 hown3 hgr3 _; have HKP := Lib.hid (blk_keep HTa.out.own HKa.out (by decide) hgr3); have HP3 := Lib.hid (HTa.out.put HM.out hgr3 hown3); clear hown3 hgr3))
        go_roundg (n - (k + 1))
        case measure => omega
        case rel => exact ⟨k + 1, by omega, rfl, by go_num, by rw [HTk.out, HY.out]; unfold idsL at HP3 ⊢; rw [List.map_append]; exact HP3.out, HKP.out⟩
    · obtain rfl : k = n := by omega
      have hq : IntK.Own wr w.heap.size u5 (idsL (rs.filter (fun c => admR c r))) := by
        have h := HS.out.own
        rw [show rs.take k = rs from List.take_of_length_le (by rw [HN.out]; exact Nat.le_refl _)] at h
        exact h
      have HQ := Lib.hid hq
      clear hq
      go_wp2
      go_ret
      exact ⟨_, rfl, HQ.out, HS.out.b⟩

set_option maxRecDepth 20000 in
set_option maxHeartbeats 4000000 in
theorem for_spec (rs : List Kl) (hf : ∀ i, i < rs.length → KlK.Is (at_ rs i)) (hl : rs.length ≤ 1048576) (r : Ru) (hr0 : RuK.Is r) (a : Option Addr) (cap : Nat) (w : World) (hr : Row w a rs) :
    Calls Tryz.prog 16 #[.slice a rs.length cap, .agg #[.int .i64 r.id, .string r.nm, .string r.cl, .int .i64 r.bo, .bool r.wo, .int .i64 r.ca]] w (NPost w (cfL rs r) (cfB rs r)) := by
  have HB := Lib.hid ((Below.refl w.heap.size w).alloc (Nat.le_refl _) (.cells #[.int .i64 r.id, .string r.nm, .string r.cl, .int .i64 r.bo, .bool r.wo, .int .i64 r.ca] 35))
  have HK := Lib.hid (Blk.new w 35 #[.int .i64 r.id, .string r.nm, .string r.cl, .int .i64 r.bo, .bool r.wo, .int .i64 r.ca])
  have H := Lib.hid (hr.later HB.out)
  have hml : rs.length ≤ maxLen := by unfold maxLen; omega
  obtain ⟨g, hg⟩ : ∃ g, goodB rs = g := ⟨_, rfl⟩
  have c1 := Lib.hid (fun w hr => hg ▸ good_any a cap rs w hr hf hml)
  have HG := Lib.hid hg
  obtain ⟨v, hv⟩ : ∃ v, RuI.okR r = v := ⟨_, rfl⟩
  have c2 := Lib.hid (fun w => hv ▸ RuI.spec_one r hr0 w)
  have HV := Lib.hid hv
  obtain ⟨ok, hok⟩ : ∃ ok, cfB rs r = ok := ⟨_, rfl⟩
  obtain ⟨zs, hzs⟩ : ∃ zs, cfL rs r = zs := ⟨_, rfl⟩
  have HO := Lib.hid hok
  have HZ := Lib.hid hzs
  rw [hok, hzs]
  have c3 := Lib.hid (fun (h : RuI.okR r = true) w hr => for_any rs hl r (ok_bo h).1 (ok_bo h).2 a cap w hr)
  clear hr hg hok hzs hf hv hr0
  obtain ⟨⟨q0, q1, q2, q3, q4, q5⟩, -⟩ := RuK.blk_cells HK.out
  go_enter Tryz.func16, Tryz.ntmps16
  go_wp2_with fail
  refine (c1.out _ H.out).mono ?_
  rintro e w1 ⟨rfl, hb⟩
  have HB1 := Lib.hid (HB.out.trans (hb.mono HB.out.size))
  have HK1 := Lib.hid (HK.out.later hb)
  have H1 := Lib.hid (H.out.later hb)
  clear hb HB HK H q0 q1 q2 q3 q4 q5
  obtain ⟨⟨q0, q1, q2, q3, q4, q5⟩, -⟩ := RuK.blk_cells HK1.out
  have hsz := HB1.out.size
  cases g with
  | false =>
    have h1 : ok = false := by rw [← HO.out]; unfold cfB; rw [HG.out]; rfl
    have h2 : zs = [] := by rw [← HZ.out]; unfold cfL cfB; rw [HG.out]; rfl
    subst h1 h2
    go_wp2
    go_ret2
    exact ⟨_, rfl, own_none w1 w.heap.size hsz, HB1.out.alloc hsz _⟩
  | true =>
  go_wp2_with fail
  refine (c2.out _).mono ?_
  rintro e w2 ⟨rfl, hb⟩
  have HB2 := Lib.hid (HB1.out.trans (hb.mono HB1.out.size))
  have HK2 := Lib.hid (HK1.out.later hb)
  have H2 := Lib.hid (H1.out.later hb)
  clear hb HB1 HK1 H1 q0 q1 q2 q3 q4 q5 hsz
  obtain ⟨⟨q0, q1, q2, q3, q4, q5⟩, -⟩ := RuK.blk_cells HK2.out
  have hsz := HB2.out.size
  cases v with
  | false =>
    have h1 : ok = false := by rw [← HO.out]; unfold cfB; rw [HV.out]; simp
    have h2 : zs = [] := by rw [← HZ.out]; unfold cfL cfB; rw [HV.out]; simp
    subst h1 h2
    go_wp2
    go_ret2
    exact ⟨_, rfl, own_none w2 w.heap.size hsz, HB2.out.alloc hsz _⟩
  | true =>
    have h1 : ok = true := by rw [← HO.out]; unfold cfB; rw [HG.out, HV.out]; rfl
    have h2 : idsL (rs.filter (fun c => admR c r)) = zs := by rw [← HZ.out]; unfold cfL cfB; rw [HG.out, HV.out]; rfl
    subst h1
    have c4 := Lib.hid (fun w hr => h2 ▸ c3.out HV.out w hr)
    clear c3 h2
    go_wp2_with fail
    refine (c4.out _ H2.out).mono ?_
    rintro e w3 ⟨v3, rfl, ho, hb⟩
    have HO3 := Lib.hid (show IntK.Own w3 w.heap.size v3 zs from IntS.rebase ho hsz)
    have HB3 := Lib.hid (HB2.out.trans (hb.mono hsz))
    clear ho hb
    go_wp2
    go_ret2
    exact ⟨_, rfl, HO3.out, HB3.out⟩

theorem both (rs : List Kl) (hf : ∀ i, i < rs.length → KlK.Is (at_ rs i)) (hl : rs.length ≤ 1048576) (r : Ru) (hr0 : RuK.Is r) : ∃ (zs : List Int) (ok : Bool), zs.length ≤ 1048576 ∧
    (∀ a cap w, rs.length ≤ cap → Row w a rs → Calls Tryz.prog 16 #[.slice a rs.length cap, .agg #[.int .i64 r.id, .string r.nm, .string r.cl, .int .i64 r.bo, .bool r.wo, .int .i64 r.ca]] w fun e w' => ∃ v, e = .returned (.tuple #[v, .bool ok]) ∧ IntK.Own w' w.heap.size v zs ∧ Below w.heap.size w w') ∧
    (∀ a cap w, rs.length ≤ cap → Row w a rs → Calls Tryz.prog 15 #[.slice a rs.length cap, .agg #[.int .i64 r.id, .string r.nm, .string r.cl, .int .i64 r.bo, .bool r.wo, .int .i64 r.ca]] w fun e w' => ∃ v, e = .returned (.tuple #[v, .bool ok]) ∧ IntK.Own w' w.heap.size v zs ∧ Below w.heap.size w w') :=
  ⟨cfL rs r, cfB rs r, by have := cf_len rs r; omega, fun a cap w _ hr => for_spec rs hf hl r hr0 a cap w hr, fun a cap w hc hr => for_impl rs hf hl r hr0 a cap w hc hr⟩
end Go.Proofs.YtleoljnofdajfaaGreatDoor.KaH
