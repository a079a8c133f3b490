/- AddRunner: the model's text. -/
import Derived.Test.YtjngnjokbnklfaaDoorAdI
import Derived.Test.YtjngnjokbnklfaaDoorA3
import Derived.Deep.RegionHeld3
import Derived.Deep.LoopGhost
namespace Go.Proofs.YtjngnjokbnklfaaDoor.AdS
open Go.RowKit Lb Bk InA Wd RuK RuI RuU RuA RuG RuC RuP RuW AdA AdI
set_option linter.unusedSimpArgs false
set_option linter.unusedVariables false

theorem tail_any (rs : List Ru) (hf : ∀ i, i < rs.length → Is (at_ rs i)) (x : Ru) (hx : Is x) (hl : rs.length ≤ 1048576) (k : Nat) (hk : pl rs x.id = k) (w : World) (v : Value) {base : Nat} (ho : Own w base v (rs.take k ++ [x] ++ rs.drop k)) :
    Calls Tryd.prog 45 #[v] w fun e w' => e = .returned (.bool (goodB (insR rs x))) ∧ Below w.heap.size w w' := by
  have e : rs.take k ++ [x] ++ rs.drop k = insR rs x := by unfold insR; rw [hk]
  rw [e] at ho
  obtain ⟨a', c', rfl, hr', -⟩ := ho.slice
  exact good_any a' c' (insR rs x) w hr' (ins_all hf hx) (by rw [ins_len]; unfold maxLen; omega)
theorem cell6 {w : World} {g : Nat} {x : Ru} (h : Blk w g 25 #[.int .i64 x.id, .string x.nm, .string x.cl, .int .i64 x.bo, .bool x.wo, .int .i64 x.ca]) : w.cell? ⟨g, 0, none⟩ = some (.int .i64 x.id) ∧ w.cell? ⟨g, 1, none⟩ = some (.string x.nm) ∧ w.cell? ⟨g, 2, none⟩ = some (.string x.cl) ∧ w.cell? ⟨g, 3, none⟩ = some (.int .i64 x.bo) ∧ w.cell? ⟨g, 4, none⟩ = some (.bool x.wo) ∧ w.cell? ⟨g, 5, none⟩ = some (.int .i64 x.ca) := (blk_cells h).1
theorem own_some {W wF : World} {v : Value} {rs : List Ru} {x : Ru} {base n k m : Nat} (h : A3.G3 W 25 6 wF v (0 + k + 1 + m) (([] ++ cells (rs.take k) ++ cells [x]) ++ cells (rs.drop k))) (hb : base ≤ W.heap.size) (hn : rs.length = n) (hk : k ≤ n) (hm : m = n - k) : Own wF base v (rs.take k ++ [x] ++ rs.drop k) := by
  have h1 := h.own
  have hl : (rs.take k ++ [x] ++ rs.drop k).length = 0 + k + 1 + m := by simp only [List.length_append, List.length_take, List.length_drop, List.length_cons, List.length_nil]; omega
  have h2 : Own wF W.heap.size v (rs.take k ++ [x] ++ rs.drop k) := by
    unfold Own
    rw [hl, cells_cat, cells_cat]
    rwa [List.nil_append] at h1
  exact h2.rebase hb
theorem own_nil {W wF : World} {v : Value} {rs : List Ru} {x : Ru} {base n k : Nat} (h : A3.G3 W 25 6 wF v (0 + 1) ([] ++ cells [x])) (hb : base ≤ W.heap.size) (hn : rs.length = n) (hk : k ≤ n) (h0 : n = 0 := by rfl) : Own wF base v (rs.take k ++ [x] ++ rs.drop k) := by
  subst h0
  obtain rfl : rs = [] := List.eq_nil_of_length_eq_zero hn
  have h2 : Own wF W.heap.size v [x] := h.own
  have h3 := h2.rebase hb
  simpa using h3

set_option maxRecDepth 20000 in
set_option maxHeartbeats 8000000 in
theorem spec_any (rs : List Ru) (hf : ∀ i, i < rs.length → Is (at_ rs i)) (hl : rs.length ≤ 1048576) (x : Ru) (hx : Is x) (a : Option Addr) (cap : Nat) (w : World) (hc : rs.length ≤ cap) (hr : Row w a rs) :
    Calls Tryd.prog 15 #[.slice a rs.length cap, .agg #[.int .i64 x.id, .string x.nm, .string x.cl, .int .i64 x.bo, .bool x.wo, .int .i64 x.ca]] w (LPost w (adL rs x) (adB rs x)) := by
  obtain ⟨t0, hi0, hz0, hz1, hz2⟩ := info_parts info
  have H := Lib.hid hr
  have HF := Lib.hid hf
  have HX0 := Lib.hid hx
  have HB := Lib.hid ((Below.refl w.heap.size w).alloc (Nat.le_refl _) (.cells #[.int .i64 x.id, .string x.nm, .string x.cl, .int .i64 x.bo, .bool x.wo, .int .i64 x.ca] 25))
  have HK := Lib.hid (Blk.new w 25 #[.int .i64 x.id, .string x.nm, .string x.cl, .int .i64 x.bo, .bool x.wo, .int .i64 x.ca])
  have hml : rs.length ≤ maxLen := by unfold maxLen; omega
  obtain ⟨g, hg⟩ : ∃ g, goodB rs = g := ⟨_, rfl⟩
  have c1 := Lib.hid (fun w hr => hg ▸ good_any a cap rs w hr hf hml)
  have HG := Lib.hid hg
  obtain ⟨ok, hok⟩ : ∃ ok, adB rs x = ok := ⟨_, rfl⟩
  obtain ⟨zs, hzs⟩ : ∃ zs, adL rs x = zs := ⟨_, rfl⟩
  have HO := Lib.hid hok
  have HZ := Lib.hid hzs
  rw [hok, hzs]
  obtain ⟨n, hn⟩ : ∃ n, rs.length = n := ⟨_, rfl⟩
  have HN := Lib.hid hn
  rw [hn] at hl hml hc c1 ⊢
  clear hr hg hf hx hok hzs hn
  go_enter Tryd.func15, Tryd.ntmps15
  go_wp2_with fail
  refine (c1.out _ (H.out.later ((Below.refl w.heap.size w).alloc (Nat.le_refl _) _))).mono ?_
  rintro e w1 ⟨rfl, hb⟩
  have HB1 := Lib.hid (HB.out.trans (hb.mono HB.out.size))
  have HK1 := Lib.hid (HK.out.later hb)
  have H1 := Lib.hid (H.out.later HB1.out)
  clear hb HB HK
  obtain ⟨⟨p0, p1, p2, p3, p4, p5⟩, -⟩ := blk_cells HK1.out
  have hsz := HB1.out.size
  cases g with
  | false =>
    have h1 : ok = false := by rw [← HO.out]; unfold adB; rw [HG.out]; rfl
    have h2 : zs = [] := by rw [← HZ.out]; unfold adL; rw [HO.out, h1]; rfl
    subst h1 h2
    go_wp2
    go_ret2
    exact ⟨_, rfl, own_none w1 w.heap.size hsz, HB1.out.alloc hsz _⟩
  | true =>
    obtain ⟨k, hk⟩ : ∃ k, pl rs x.id = k := ⟨_, rfl⟩
    have HP := Lib.hid hk
    have HPl := Lib.hid (show Plc rs x.id k from hk ▸ plc_pl (good_asc HG.out) x.id)
    have hkn : k ≤ n := by rw [← hk, ← HN.out]; exact pl_le rs x.id
    clear hk
    go_upto_region 3 with (fail)
    go_wp2
    go_loopg [6] k (fun gk s wr => ∃ j q : Nat, j ≤ k ∧ gk = k - j ∧ s = .int .i64 j ∧ wr = w1.drewN q)
    case atStart => exact ⟨0, 0, Nat.zero_le _, rfl, rfl, rfl⟩
    case round =>
      obtain ⟨j, q, hj, hgk, rfl, rfl⟩ := hrel
      by_cases hlt : j < k
      · obtain ⟨b, off, rfl, c0, -⟩ := H1.out.cells (i := j) (by rw [HN.out]; omega)
        obtain ⟨z, hz⟩ : ∃ z, (at_ rs j).id = z := ⟨_, rfl⟩
        have hzx : z < x.id := by rw [← hz]; exact HPl.out.2.1 j hlt
        rw [hz] at c0
        have d1 : decide (z < x.id) = true := decide_eq_true hzx
        have hjn : j < n := by omega
        clear hz hzx
        go_upto_region 4 with (fail)
        go_region
        go_wp2
        go_roundg (k - (j + 1))
        case measure => omega
        case rel => exact ⟨j + 1, _, by omega, rfl, by go_num, rfl⟩
      · obtain rfl : k = j := by omega
        clear hlt hj hgk
        by_cases hlt : k < n
        · obtain ⟨b, off, rfl, c0, -⟩ := H1.out.cells (i := k) (by rw [HN.out]; omega)
          obtain ⟨z, hz⟩ : ∃ z, (at_ rs k).id = z := ⟨_, rfl⟩
          have hzx : ¬ z < x.id := by rw [← hz]; exact Int.not_lt.2 (HPl.out.2.2 k (Nat.le_refl _) (by rw [HN.out]; exact hlt))
          rw [hz] at c0
          have d1 : decide (z < x.id) = false := decide_eq_false hzx
          clear hz hzx
          go_upto_region 4 with (fail)
          go_region
          go_upto_region 6 with (fail)
          have HBq := Lib.hid (show Below w.heap.size w (w1.drewN (q + 1)) from Bk.below_drewN HB1.out (q + 1))
          have HKq := Lib.hid (show Blk (w1.drewN (q + 1)) w.heap.size 25 #[.int .i64 x.id, .string x.nm, .string x.cl, .int .i64 x.bo, .bool x.wo, .int .i64 x.ca] from HK1.out.drewN (q + 1))
          have HRq := Lib.hid (show RuK.Row (w1.drewN (q + 1)) (some ⟨b, off, none⟩) rs from H1.out.later (Bk.below_drewN (Below.refl _ _) (q + 1)))
          clear p0 p1 p2 p3 p4 p5 c0
          generalize w1.drewN (q + 1) = wq at *
          obtain ⟨⟨p0, p1, p2, p3, p4, p5⟩, -⟩ := blk_cells HKq.out
          have hkc : k ≤ cap := by omega
          have hTl : (RuK.cells (rs.take k)).length = k * 6 := by rw [cells_len, List.length_take, HN.out, Nat.min_eq_left hkn]
          have hDl : (RuK.cells (rs.drop k)).length = (n - k) * 6 := by rw [cells_len, List.length_drop, HN.out]
          refine wp_region_noPanic ?_
          refine wp_region_held_drew (S := (fun Wx : World => Wx.cell? ⟨w.heap.size, 0, none⟩ = some (.int .i64 x.id) ∧ Wx.cell? ⟨w.heap.size, 1, none⟩ = some (.string x.nm) ∧ Wx.cell? ⟨w.heap.size, 2, none⟩ = some (.string x.cl) ∧ Wx.cell? ⟨w.heap.size, 3, none⟩ = some (.int .i64 x.bo) ∧ Wx.cell? ⟨w.heap.size, 4, none⟩ = some (.bool x.wo) ∧ Wx.cell? ⟨w.heap.size, 5, none⟩ = some (.int .i64 x.ca))) (by kernel_rfl) ⟨p0, p1, p2, p3, p4, p5⟩ (fun hHeld => ?_)
          have hne : ¬ (cap = k) := by omega
          have HTk := Lib.hid (fun W' (hW : Below wq.heap.size wq W') => ((HRq.out.take k).later hW).news)
          have HDr := Lib.hid (fun W' (hW : Below wq.heap.size wq W') => ((Row.drop HRq.out k).later hW).news)
          refine wpAnyH_take (i := 1) (oi := _) (v := ?_) rfl (by kernel_rfl) (by kernel_rfl) (by kernel_rfl) (fun _ _ _ h => h) (Or.inl ⟨by rfl, ?_⟩) (by assumption) ?_; rotate_left; focus (intro W hSw; (try dsimp only at hSw); go_simp; (first | done | with_reducible rfl))
          (try simp only [List.getElem_toArray, List.getElem_cons_succ, List.getElem_cons_zero, Act.put, List.setIfInBounds_toArray, List.set_cons_zero, List.set_cons_succ])
          refine wpAnyH_take (i := 2) (oi := _) (v := ?_) rfl (by kernel_rfl) (by kernel_rfl) (by kernel_rfl) (fun _ _ _ h => h) (Or.inl ⟨by rfl, ?_⟩) (by assumption) ?_; rotate_left; focus (intro W hSw; (try dsimp only at hSw); go_simp; (first | done | with_reducible rfl))
          (try simp only [List.getElem_toArray, List.getElem_cons_succ, List.getElem_cons_zero, Act.put, List.setIfInBounds_toArray, List.set_cons_zero, List.set_cons_succ])
          refine wpAnyH_take (i := 3) (oi := _) (v := ?_) rfl (by kernel_rfl) (by kernel_rfl) (by kernel_rfl) (fun _ _ _ h => h) (Or.inl ⟨by rfl, ?_⟩) (by assumption) ?_; rotate_left; focus (intro W hSw; (try dsimp only at hSw); go_simp; (first | done | with_reducible rfl))
          (try simp only [List.getElem_toArray, List.getElem_cons_succ, List.getElem_cons_zero, Act.put, List.setIfInBounds_toArray, List.set_cons_zero, List.set_cons_succ])
          refine wpAnyH_take (i := 5) (oi := _) (v := ?_) rfl (by kernel_rfl) (by kernel_rfl) (by kernel_rfl) (fun _ _ _ h => h) (Or.inl ⟨by rfl, ?_⟩) (by assumption) ?_; rotate_left; focus (intro W hSw; (try dsimp only at hSw); go_simp; (first | done | with_reducible rfl))
          (try simp only [List.getElem_toArray, List.getElem_cons_succ, List.getElem_cons_zero, Act.put, List.setIfInBounds_toArray, List.set_cons_zero, List.set_cons_succ])
          refine wpAnyH_take (i := 8) (oi := _) (v := ?_) rfl (by kernel_rfl) (by kernel_rfl) (by kernel_rfl) (fun _ _ _ h => h) (Or.inl ⟨by rfl, ?_⟩) (by assumption) ?_; rotate_left; focus (intro W hSw; (try dsimp only at hSw); go_simp; (first | done | with_reducible rfl))
          (try simp only [List.getElem_toArray, List.getElem_cons_succ, List.getElem_cons_zero, Act.put, List.setIfInBounds_toArray, List.set_cons_zero, List.set_cons_succ])
          refine wpAnyH_take (i := 9) (oi := _) (v := ?_) rfl (by kernel_rfl) (by kernel_rfl) (by kernel_rfl) (fun _ _ _ h => h) (Or.inl ⟨by rfl, ?_⟩) (by assumption) ?_; rotate_left; focus (intro W hSw; (try dsimp only at hSw); go_simp; (first | done | with_reducible rfl))
          (try simp only [List.getElem_toArray, List.getElem_cons_succ, List.getElem_cons_zero, Act.put, List.setIfInBounds_toArray, List.set_cons_zero, List.set_cons_succ])
          refine wpAnyH_take (i := 10) (oi := _) (v := ?_) rfl (by kernel_rfl) (by kernel_rfl) (by kernel_rfl) (fun _ _ _ h => h) (Or.inl ⟨by rfl, ?_⟩) (by assumption) ?_; rotate_left; focus (intro W hSw; (try dsimp only at hSw); go_simp; (first | done | with_reducible rfl))
          (try simp only [List.getElem_toArray, List.getElem_cons_succ, List.getElem_cons_zero, Act.put, List.setIfInBounds_toArray, List.set_cons_zero, List.set_cons_succ])
          refine wpAnyH_ready (rs := [0, 6]) (by kernel_rfl) (by simp) ?_
          refine AllReadyH.cons (o := _) rfl (fun K hK => ?_) (AllReadyH.cons (o := _) rfl (fun K hK => ?_) (AllReadyH.nil))
          · go_simp
            have HG0 := Lib.hid (A3.G3.start wq 25 6)
            (try simp only [Act.put, List.setIfInBounds_toArray, List.set_cons_zero, List.set_cons_succ])
            refine hK.out _ _ (cell6 (HKq.out.later (HG0.out.b))) (fun _ => ?_)
            clear hK K hHeld
            refine wpAnyH_ready (rs := [4, 6]) (by kernel_rfl) (by simp) ?_
            refine AllReadyH.cons (o := _) rfl (fun K hK => ?_) (AllReadyH.cons (o := _) rfl (fun K hK => ?_) (AllReadyH.nil))
            · skip
              rw [if_pos (by rfl)]
              refine HG0.out.wp (.tmp 28) (.tmp 31) 33 rfl Tryd.underlying33 t0 hi0 (.agg #[.int .i64 no.id, .string no.nm, .string no.cl, .int .i64 no.bo, .bool no.wo, .int .i64 no.ca]) hz0 64 hz1 hz2 rfl (by decide) (by rfl) (⟨b, off, none⟩) (k) (_) (RuK.cells (rs.take k)) (by (try simp only [Act.eval, Act.put]); rfl) (hTl) (HTk.out _ HG0.out.b) (RuK.cells_one _) (by unfold maxLen; omega) (by omega) ?_
              intro v1 w1 hg hgr
              have HG1 := Lib.hid hg
              have HR1 := Lib.hid hgr
              clear hg hgr
              (try simp only [Act.put, List.setIfInBounds_toArray, List.set_cons_zero, List.set_cons_succ])
              refine hK.out _ _ (cell6 (HKq.out.later (HG1.out.b))) (fun _ => ?_)
              clear hK K
              refine wpAnyH_ready (rs := [6]) (by kernel_rfl) (by simp) ?_
              refine AllReadyH.cons (o := _) rfl (fun K hK => ?_) (AllReadyH.nil)
              go_simp
              have HX := Lib.hid (Blk.new w1 25 (RuK.cells [x]).toArray)
              have HGa := Lib.hid (HG1.out.alloc (.cells (RuK.cells [x]).toArray 25))
              (try simp only [Act.put, List.setIfInBounds_toArray, List.set_cons_zero, List.set_cons_succ])
              refine hK.out _ _ (cell6 (HKq.out.later (HGa.out.b))) (fun _ => ?_)
              clear hK K
              refine wpAnyH_ready (rs := [7]) (by kernel_rfl) (by simp) ?_
              refine AllReadyH.cons (o := _) rfl (fun K hK => ?_) (AllReadyH.nil)
              rw [if_pos (by rfl)]
              refine HGa.out.wp (.tmp 32) (.tmp 34) 33 rfl Tryd.underlying33 t0 hi0 (.agg #[.int .i64 no.id, .string no.nm, .string no.cl, .int .i64 no.bo, .bool no.wo, .int .i64 no.ca]) hz0 64 hz1 hz2 rfl (by decide) (by rfl) (⟨_, 0, none⟩) (1) (1) (RuK.cells [x]) (by (try simp only [Act.eval, Act.put]); rfl) (rfl) (A3.blk_news HX.out) (RuK.cells_one [x]) (by unfold maxLen; omega) (by omega) ?_
              intro v2 w2 hg hgr
              have HG2 := Lib.hid hg
              have HR2 := Lib.hid hgr
              clear hg hgr
              (try simp only [Act.put, List.setIfInBounds_toArray, List.set_cons_zero, List.set_cons_succ])
              refine hK.out _ _ (cell6 (HKq.out.later (HG2.out.b))) (fun _ => ?_)
              clear hK K
              refine wpAnyH_ready (rs := [11]) (by kernel_rfl) (by simp) ?_
              refine AllReadyH.cons (o := _) rfl (fun K hK => ?_) (AllReadyH.nil)
              rw [if_pos (by rfl)]
              refine HG2.out.wp (.tmp 35) (.tmp 38) 33 rfl Tryd.underlying33 t0 hi0 (.agg #[.int .i64 no.id, .string no.nm, .string no.cl, .int .i64 no.bo, .bool no.wo, .int .i64 no.ca]) hz0 64 hz1 hz2 rfl (by decide) (by rfl) (⟨b, off + k * 6, none⟩) (n - k) (_) (RuK.cells (rs.drop k)) (by (try simp only [Act.eval, Act.put]); rfl) (hDl) (HDr.out _ HG2.out.b) (RuK.cells_one _) (by unfold maxLen; omega) (by omega) ?_
              intro v3 w3 hg hgr
              have HG3 := Lib.hid hg
              have HR3 := Lib.hid hgr
              clear hg hgr
              (try simp only [Act.put, List.setIfInBounds_toArray, List.set_cons_zero, List.set_cons_succ])
              refine hK.out _ _ (cell6 (HKq.out.later (HG3.out.b))) (fun _ => ?_)
              clear hK K
              refine wpAnyH_take (i := 12) (oi := _) (v := ?_) rfl (by kernel_rfl) (by kernel_rfl) (by kernel_rfl) (fun _ _ _ h => h) (Or.inl ⟨by rfl, ?_⟩) (by assumption) ?_; rotate_left; focus (intro W hSw; (try dsimp only at hSw); go_simp; (first | done | with_reducible rfl))
              (try simp only [List.getElem_toArray, List.getElem_cons_succ, List.getElem_cons_zero, Act.put, List.setIfInBounds_toArray, List.set_cons_zero, List.set_cons_succ])
              refine wpAnyH_done (by kernel_rfl) ?_ _
              refine NoPanic.normal ?_
              (try simp only [List.getElem_toArray, List.getElem_cons_succ, List.getElem_cons_zero, Act.put, List.setIfInBounds_toArray, List.set_cons_zero, List.set_cons_succ])
              go_wp2_with fail
              have HB3 := Lib.hid (show Below w.heap.size w w3 from HBq.out.trans (HG3.out.b.mono HBq.out.size))
              have HO3 := Lib.hid (show Own w3 w.heap.size v3 (rs.take k ++ [x] ++ rs.drop k) from own_some HG3.out HBq.out.size HN.out hkn (by omega))
              refine (tail_any rs HF.out x HX0.out (by rw [HN.out]; exact hl) k HP.out w3 v3 HO3.out).mono ?_
              rintro e w5 ⟨rfl, hb⟩
              have HB5 := Lib.hid (HB3.out.trans (hb.mono HB3.out.size))
              have HO5 := Lib.hid (HO3.out.below hb)
              clear hb
              obtain ⟨g2, hg2⟩ : ∃ g, goodB (insR rs x) = g := ⟨_, rfl⟩
              have HG2x := Lib.hid hg2
              rw [hg2]
              clear hg2
              cases g2 with
              | false =>
                have h1 : ok = false := by rw [← HO.out]; unfold adB; rw [HG2x.out, Bool.and_false]
                have h2 : zs = [] := by rw [← HZ.out]; unfold adL; rw [HO.out, h1]; rfl
                subst h1 h2
                go_wp2
                go_ret2
                exact ⟨_, rfl, own_none w5 w.heap.size HB5.out.size, HB5.out.alloc HB5.out.size _⟩
              | true =>
                have h1 : ok = true := by rw [← HO.out]; unfold adB; rw [HG.out, HG2x.out]; rfl
                have h2 : insR rs x = zs := by rw [← HZ.out]; unfold adL; rw [HO.out, h1]; rfl
                have HO6 := Lib.hid (show Own w5 w.heap.size v3 zs from by rw [← h2]; unfold insR; rw [HP.out]; exact HO5.out)
                subst h1
                clear h2
                go_wp2
                go_ret2
                exact ⟨_, rfl, HO6.out, HB5.out⟩
            · go_simp
              have HX := Lib.hid (show Blk ((wq.drew.alloc (.cells #[] 25)).alloc (.cells (RuK.cells [x]).toArray 25)) (wq.heap.size + 1) 25 (RuK.cells [x]).toArray from Blk.at_ (by simp))
              have HGa := Lib.hid (HG0.out.alloc (.cells (RuK.cells [x]).toArray 25))
              (try simp only [Act.put, List.setIfInBounds_toArray, List.set_cons_zero, List.set_cons_succ])
              refine hK.out _ _ (cell6 (HKq.out.later (HGa.out.b))) (fun _ => ?_)
              clear hK K
              refine wpAnyH_ready (rs := [4]) (by kernel_rfl) (by simp) ?_
              refine AllReadyH.cons (o := _) rfl (fun K hK => ?_) (AllReadyH.nil)
              rw [if_pos (by rfl)]
              refine HGa.out.wp (.tmp 28) (.tmp 31) 33 rfl Tryd.underlying33 t0 hi0 (.agg #[.int .i64 no.id, .string no.nm, .string no.cl, .int .i64 no.bo, .bool no.wo, .int .i64 no.ca]) hz0 64 hz1 hz2 rfl (by decide) (by rfl) (⟨b, off, none⟩) (k) (_) (RuK.cells (rs.take k)) (by (try simp only [Act.eval, Act.put]); rfl) (hTl) (HTk.out _ HGa.out.b) (RuK.cells_one _) (by unfold maxLen; omega) (by omega) ?_
              intro v1 w1 hg hgr
              have HG1 := Lib.hid hg
              have HR1 := Lib.hid hgr
              clear hg hgr
              have HX1 := Lib.hid (A3.blk_grown HX.out HR1.out (fun e => by simp [Value.ownBlock] at e))
              (try simp only [Act.put, List.setIfInBounds_toArray, List.set_cons_zero, List.set_cons_succ])
              refine hK.out _ _ (cell6 (HKq.out.later (HG1.out.b))) (fun _ => ?_)
              clear hK K
              refine wpAnyH_ready (rs := [7]) (by kernel_rfl) (by simp) ?_
              refine AllReadyH.cons (o := _) rfl (fun K hK => ?_) (AllReadyH.nil)
              rw [if_pos (by rfl)]
              refine HG1.out.wp (.tmp 32) (.tmp 34) 33 rfl Tryd.underlying33 t0 hi0 (.agg #[.int .i64 no.id, .string no.nm, .string no.cl, .int .i64 no.bo, .bool no.wo, .int .i64 no.ca]) hz0 64 hz1 hz2 rfl (by decide) (by rfl) (⟨_, 0, none⟩) (1) (1) (RuK.cells [x]) (by (try simp only [Act.eval, Act.put]); rfl) (rfl) (A3.blk_news HX1.out) (RuK.cells_one [x]) (by unfold maxLen; omega) (by omega) ?_
              intro v2 w2 hg hgr
              have HG2 := Lib.hid hg
              have HR2 := Lib.hid hgr
              clear hg hgr
              (try simp only [Act.put, List.setIfInBounds_toArray, List.set_cons_zero, List.set_cons_succ])
              refine hK.out _ _ (cell6 (HKq.out.later (HG2.out.b))) (fun _ => ?_)
              clear hK K
              refine wpAnyH_ready (rs := [11]) (by kernel_rfl) (by simp) ?_
              refine AllReadyH.cons (o := _) rfl (fun K hK => ?_) (AllReadyH.nil)
              rw [if_pos (by rfl)]
              refine HG2.out.wp (.tmp 35) (.tmp 38) 33 rfl Tryd.underlying33 t0 hi0 (.agg #[.int .i64 no.id, .string no.nm, .string no.cl, .int .i64 no.bo, .bool no.wo, .int .i64 no.ca]) hz0 64 hz1 hz2 rfl (by decide) (by rfl) (⟨b, off + k * 6, none⟩) (n - k) (_) (RuK.cells (rs.drop k)) (by (try simp only [Act.eval, Act.put]); rfl) (hDl) (HDr.out _ HG2.out.b) (RuK.cells_one _) (by unfold maxLen; omega) (by omega) ?_
              intro v3 w3 hg hgr
              have HG3 := Lib.hid hg
              have HR3 := Lib.hid hgr
              clear hg hgr
              (try simp only [Act.put, List.setIfInBounds_toArray, List.set_cons_zero, List.set_cons_succ])
              refine hK.out _ _ (cell6 (HKq.out.later (HG3.out.b))) (fun _ => ?_)
              clear hK K
              refine wpAnyH_take (i := 12) (oi := _) (v := ?_) rfl (by kernel_rfl) (by kernel_rfl) (by kernel_rfl) (fun _ _ _ h => h) (Or.inl ⟨by rfl, ?_⟩) (by assumption) ?_; rotate_left; focus (intro W hSw; (try dsimp only at hSw); go_simp; (first | done | with_reducible rfl))
              (try simp only [List.getElem_toArray, List.getElem_cons_succ, List.getElem_cons_zero, Act.put, List.setIfInBounds_toArray, List.set_cons_zero, List.set_cons_succ])
              refine wpAnyH_done (by kernel_rfl) ?_ _
              refine NoPanic.normal ?_
              (try simp only [List.getElem_toArray, List.getElem_cons_succ, List.getElem_cons_zero, Act.put, List.setIfInBounds_toArray, List.set_cons_zero, List.set_cons_succ])
              go_wp2_with fail
              have HB3 := Lib.hid (show Below w.heap.size w w3 from HBq.out.trans (HG3.out.b.mono HBq.out.size))
              have HO3 := Lib.hid (show Own w3 w.heap.size v3 (rs.take k ++ [x] ++ rs.drop k) from own_some HG3.out HBq.out.size HN.out hkn (by omega))
              refine (tail_any rs HF.out x HX0.out (by rw [HN.out]; exact hl) k HP.out w3 v3 HO3.out).mono ?_
              rintro e w5 ⟨rfl, hb⟩
              have HB5 := Lib.hid (HB3.out.trans (hb.mono HB3.out.size))
              have HO5 := Lib.hid (HO3.out.below hb)
              clear hb
              obtain ⟨g2, hg2⟩ : ∃ g, goodB (insR rs x) = g := ⟨_, rfl⟩
              have HG2x := Lib.hid hg2
              rw [hg2]
              clear hg2
              cases g2 with
              | false =>
                have h1 : ok = false := by rw [← HO.out]; unfold adB; rw [HG2x.out, Bool.and_false]
                have h2 : zs = [] := by rw [← HZ.out]; unfold adL; rw [HO.out, h1]; rfl
                subst h1 h2
                go_wp2
                go_ret2
                exact ⟨_, rfl, own_none w5 w.heap.size HB5.out.size, HB5.out.alloc HB5.out.size _⟩
              | true =>
                have h1 : ok = true := by rw [← HO.out]; unfold adB; rw [HG.out, HG2x.out]; rfl
                have h2 : insR rs x = zs := by rw [← HZ.out]; unfold adL; rw [HO.out, h1]; rfl
                have HO6 := Lib.hid (show Own w5 w.heap.size v3 zs from by rw [← h2]; unfold insR; rw [HP.out]; exact HO5.out)
                subst h1
                clear h2
                go_wp2
                go_ret2
                exact ⟨_, rfl, HO6.out, HB5.out⟩
          · go_simp
            have HX := Lib.hid (Blk.new wq.drew 25 (RuK.cells [x]).toArray)
            have HBx := Lib.hid ((Below.refl wq.heap.size wq).drew.alloc (Nat.le_refl _) (.cells (RuK.cells [x]).toArray 25))
            (try simp only [Act.put, List.setIfInBounds_toArray, List.set_cons_zero, List.set_cons_succ])
            refine hK.out _ _ (cell6 (HKq.out.later (HBx.out))) (fun _ => ?_)
            clear hK K hHeld
            refine wpAnyH_ready (rs := [0]) (by kernel_rfl) (by simp) ?_
            refine AllReadyH.cons (o := _) rfl (fun K hK => ?_) (AllReadyH.nil)
            go_simp
            have HG0 := Lib.hid (show A3.G3 wq 25 6 ((wq.drew.alloc (.cells (RuK.cells [x]).toArray 25)).alloc (.cells #[] 25)) (.slice (some ⟨wq.heap.size + 1, 0, none⟩) 0 0) 0 [] from A3.G3.after HBx.out (by simp))
            have HXo := Lib.hid (HX.out.alloc (.cells #[] 25))
            (try simp only [Act.put, List.setIfInBounds_toArray, List.set_cons_zero, List.set_cons_succ])
            refine hK.out _ _ (cell6 (HKq.out.later (HG0.out.b))) (fun _ => ?_)
            clear hK K
            refine wpAnyH_ready (rs := [4]) (by kernel_rfl) (by simp) ?_
            refine AllReadyH.cons (o := _) rfl (fun K hK => ?_) (AllReadyH.nil)
            rw [if_pos (by rfl)]
            refine HG0.out.wp (.tmp 28) (.tmp 31) 33 rfl Tryd.underlying33 t0 hi0 (.agg #[.int .i64 no.id, .string no.nm, .string no.cl, .int .i64 no.bo, .bool no.wo, .int .i64 no.ca]) hz0 64 hz1 hz2 rfl (by decide) (by rfl) (⟨b, off, none⟩) (k) (_) (RuK.cells (rs.take k)) (by (try simp only [Act.eval, Act.put]); rfl) (hTl) (HTk.out _ HG0.out.b) (RuK.cells_one _) (by unfold maxLen; omega) (by omega) ?_
            intro v1 w1 hg hgr
            have HG1 := Lib.hid hg
            have HR1 := Lib.hid hgr
            clear hg hgr
            have HX1 := Lib.hid (A3.blk_grown HXo.out HR1.out (fun e => by simp [Value.ownBlock] at e))
            (try simp only [Act.put, List.setIfInBounds_toArray, List.set_cons_zero, List.set_cons_succ])
            refine hK.out _ _ (cell6 (HKq.out.later (HG1.out.b))) (fun _ => ?_)
            clear hK K
            refine wpAnyH_ready (rs := [7]) (by kernel_rfl) (by simp) ?_
            refine AllReadyH.cons (o := _) rfl (fun K hK => ?_) (AllReadyH.nil)
            rw [if_pos (by rfl)]
            refine HG1.out.wp (.tmp 32) (.tmp 34) 33 rfl Tryd.underlying33 t0 hi0 (.agg #[.int .i64 no.id, .string no.nm, .string no.cl, .int .i64 no.bo, .bool no.wo, .int .i64 no.ca]) hz0 64 hz1 hz2 rfl (by decide) (by rfl) (⟨_, 0, none⟩) (1) (1) (RuK.cells [x]) (by (try simp only [Act.eval, Act.put]); rfl) (rfl) (A3.blk_news HX1.out) (RuK.cells_one [x]) (by unfold maxLen; omega) (by omega) ?_
            intro v2 w2 hg hgr
            have HG2 := Lib.hid hg
            have HR2 := Lib.hid hgr
            clear hg hgr
            (try simp only [Act.put, List.setIfInBounds_toArray, List.set_cons_zero, List.set_cons_succ])
            refine hK.out _ _ (cell6 (HKq.out.later (HG2.out.b))) (fun _ => ?_)
            clear hK K
            refine wpAnyH_ready (rs := [11]) (by kernel_rfl) (by simp) ?_
            refine AllReadyH.cons (o := _) rfl (fun K hK => ?_) (AllReadyH.nil)
            rw [if_pos (by rfl)]
            refine HG2.out.wp (.tmp 35) (.tmp 38) 33 rfl Tryd.underlying33 t0 hi0 (.agg #[.int .i64 no.id, .string no.nm, .string no.cl, .int .i64 no.bo, .bool no.wo, .int .i64 no.ca]) hz0 64 hz1 hz2 rfl (by decide) (by rfl) (⟨b, off + k * 6, none⟩) (n - k) (_) (RuK.cells (rs.drop k)) (by (try simp only [Act.eval, Act.put]); rfl) (hDl) (HDr.out _ HG2.out.b) (RuK.cells_one _) (by unfold maxLen; omega) (by omega) ?_
            intro v3 w3 hg hgr
            have HG3 := Lib.hid hg
            have HR3 := Lib.hid hgr
            clear hg hgr
            (try simp only [Act.put, List.setIfInBounds_toArray, List.set_cons_zero, List.set_cons_succ])
            refine hK.out _ _ (cell6 (HKq.out.later (HG3.out.b))) (fun _ => ?_)
            clear hK K
            refine wpAnyH_take (i := 12) (oi := _) (v := ?_) rfl (by kernel_rfl) (by kernel_rfl) (by kernel_rfl) (fun _ _ _ h => h) (Or.inl ⟨by rfl, ?_⟩) (by assumption) ?_; rotate_left; focus (intro W hSw; (try dsimp only at hSw); go_simp; (first | done | with_reducible rfl))
            (try simp only [List.getElem_toArray, List.getElem_cons_succ, List.getElem_cons_zero, Act.put, List.setIfInBounds_toArray, List.set_cons_zero, List.set_cons_succ])
            refine wpAnyH_done (by kernel_rfl) ?_ _
            refine NoPanic.normal ?_
            (try simp only [List.getElem_toArray, List.getElem_cons_succ, List.getElem_cons_zero, Act.put, List.setIfInBounds_toArray, List.set_cons_zero, List.set_cons_succ])
            go_wp2_with fail
            have HB3 := Lib.hid (show Below w.heap.size w w3 from HBq.out.trans (HG3.out.b.mono HBq.out.size))
            have HO3 := Lib.hid (show Own w3 w.heap.size v3 (rs.take k ++ [x] ++ rs.drop k) from own_some HG3.out HBq.out.size HN.out hkn (by omega))
            refine (tail_any rs HF.out x HX0.out (by rw [HN.out]; exact hl) k HP.out w3 v3 HO3.out).mono ?_
            rintro e w5 ⟨rfl, hb⟩
            have HB5 := Lib.hid (HB3.out.trans (hb.mono HB3.out.size))
            have HO5 := Lib.hid (HO3.out.below hb)
            clear hb
            obtain ⟨g2, hg2⟩ : ∃ g, goodB (insR rs x) = g := ⟨_, rfl⟩
            have HG2x := Lib.hid hg2
            rw [hg2]
            clear hg2
            cases g2 with
            | false =>
              have h1 : ok = false := by rw [← HO.out]; unfold adB; rw [HG2x.out, Bool.and_false]
              have h2 : zs = [] := by rw [← HZ.out]; unfold adL; rw [HO.out, h1]; rfl
              subst h1 h2
              go_wp2
              go_ret2
              exact ⟨_, rfl, own_none w5 w.heap.size HB5.out.size, HB5.out.alloc HB5.out.size _⟩
            | true =>
              have h1 : ok = true := by rw [← HO.out]; unfold adB; rw [HG.out, HG2x.out]; rfl
              have h2 : insR rs x = zs := by rw [← HZ.out]; unfold adL; rw [HO.out, h1]; rfl
              have HO6 := Lib.hid (show Own w5 w.heap.size v3 zs from by rw [← h2]; unfold insR; rw [HP.out]; exact HO5.out)
              subst h1
              clear h2
              go_wp2
              go_ret2
              exact ⟨_, rfl, HO6.out, HB5.out⟩
        · have hge : n ≤ k := by omega
          cases a with
          | none =>
            have hn0 : n = 0 := by
              rcases H.out with h | ⟨b, off, e, _⟩
              · rw [← HN.out]; exact h
              · cases e
            have hk0 : k = 0 := by omega
            go_upto_region 4 with (fail)
            go_region
            go_upto_region 6 with (fail)
            have HBq := Lib.hid (show Below w.heap.size w ((w1.drewN q).drew) from Bk.below_drewN HB1.out (q + 1))
            have HKq := Lib.hid (show Blk ((w1.drewN q).drew) w.heap.size 25 #[.int .i64 x.id, .string x.nm, .string x.cl, .int .i64 x.bo, .bool x.wo, .int .i64 x.ca] from HK1.out.drewN (q + 1))
            have HRq := Lib.hid (show RuK.Row ((w1.drewN q).drew) none rs from H1.out.later (Bk.below_drewN (Below.refl _ _) (q + 1)))
            clear p0 p1 p2 p3 p4 p5 
            generalize (w1.drewN q).drew = wq at *
            obtain ⟨⟨p0, p1, p2, p3, p4, p5⟩, -⟩ := blk_cells HKq.out
            have hkc : k ≤ cap := by omega
            have hTl : (RuK.cells (rs.take k)).length = k * 6 := by rw [cells_len, List.length_take, HN.out, Nat.min_eq_left hkn]
            have hDl : (RuK.cells (rs.drop k)).length = (n - k) * 6 := by rw [cells_len, List.length_drop, HN.out]
            refine wp_region_noPanic ?_
            refine wp_region_held_drew (S := (fun Wx : World => Wx.cell? ⟨w.heap.size, 0, none⟩ = some (.int .i64 x.id) ∧ Wx.cell? ⟨w.heap.size, 1, none⟩ = some (.string x.nm) ∧ Wx.cell? ⟨w.heap.size, 2, none⟩ = some (.string x.cl) ∧ Wx.cell? ⟨w.heap.size, 3, none⟩ = some (.int .i64 x.bo) ∧ Wx.cell? ⟨w.heap.size, 4, none⟩ = some (.bool x.wo) ∧ Wx.cell? ⟨w.heap.size, 5, none⟩ = some (.int .i64 x.ca))) (by kernel_rfl) ⟨p0, p1, p2, p3, p4, p5⟩ (fun hHeld => ?_)
            refine wpAnyH_take (i := 1) (oi := _) (v := ?_) rfl (by kernel_rfl) (by kernel_rfl) (by kernel_rfl) (fun _ _ _ h => h) (Or.inl ⟨by rfl, ?_⟩) (by assumption) ?_; rotate_left; focus (intro W hSw; (try dsimp only at hSw); go_simp; (first | done | with_reducible rfl))
            (try simp only [List.getElem_toArray, List.getElem_cons_succ, List.getElem_cons_zero, Act.put, List.setIfInBounds_toArray, List.set_cons_zero, List.set_cons_succ])
            refine wpAnyH_take (i := 2) (oi := _) (v := ?_) rfl (by kernel_rfl) (by kernel_rfl) (by kernel_rfl) (fun _ _ _ h => h) (Or.inl ⟨by rfl, ?_⟩) (by assumption) ?_; rotate_left; focus (intro W hSw; (try dsimp only at hSw); go_simp; (first | done | with_reducible rfl))
            (try simp only [List.getElem_toArray, List.getElem_cons_succ, List.getElem_cons_zero, Act.put, List.setIfInBounds_toArray, List.set_cons_zero, List.set_cons_succ])
            refine wpAnyH_take (i := 3) (oi := _) (v := ?_) rfl (by kernel_rfl) (by kernel_rfl) (by kernel_rfl) (fun _ _ _ h => h) (Or.inl ⟨by rfl, ?_⟩) (by assumption) ?_; rotate_left; focus (intro W hSw; (try dsimp only at hSw); go_simp; (first | done | with_reducible rfl))
            (try simp only [List.getElem_toArray, List.getElem_cons_succ, List.getElem_cons_zero, Act.put, List.setIfInBounds_toArray, List.set_cons_zero, List.set_cons_succ])
            refine wpAnyH_take (i := 5) (oi := _) (v := ?_) rfl (by kernel_rfl) (by kernel_rfl) (by kernel_rfl) (fun _ _ _ h => h) (Or.inl ⟨by rfl, ?_⟩) (by assumption) ?_; rotate_left; focus (intro W hSw; (try dsimp only at hSw); go_simp; (first | done | with_reducible rfl))
            (try simp only [List.getElem_toArray, List.getElem_cons_succ, List.getElem_cons_zero, Act.put, List.setIfInBounds_toArray, List.set_cons_zero, List.set_cons_succ])
            refine wpAnyH_take (i := 8) (oi := _) (v := ?_) rfl (by kernel_rfl) (by kernel_rfl) (by kernel_rfl) (fun _ _ _ h => h) (Or.inl ⟨by rfl, ?_⟩) (by assumption) ?_; rotate_left; focus (intro W hSw; (try dsimp only at hSw); go_simp; (first | done | with_reducible rfl))
            (try simp only [List.getElem_toArray, List.getElem_cons_succ, List.getElem_cons_zero, Act.put, List.setIfInBounds_toArray, List.set_cons_zero, List.set_cons_succ])
            refine wpAnyH_take (i := 9) (oi := _) (v := ?_) rfl (by kernel_rfl) (by kernel_rfl) (by kernel_rfl) (fun _ _ _ h => h) (Or.inl ⟨by rfl, ?_⟩) (by assumption) ?_; rotate_left; focus (intro W hSw; (try dsimp only at hSw); go_simp; (first | done | with_reducible rfl))
            (try simp only [List.getElem_toArray, List.getElem_cons_succ, List.getElem_cons_zero, Act.put, List.setIfInBounds_toArray, List.set_cons_zero, List.set_cons_succ])
            refine wpAnyH_take (i := 10) (oi := _) (v := ?_) rfl (by kernel_rfl) (by kernel_rfl) (by kernel_rfl) (fun _ _ _ h => h) (Or.inl ⟨by rfl, ?_⟩) (by assumption) ?_; rotate_left; focus (intro W hSw; (try dsimp only at hSw); go_simp; (first | done | with_reducible rfl))
            (try simp only [List.getElem_toArray, List.getElem_cons_succ, List.getElem_cons_zero, Act.put, List.setIfInBounds_toArray, List.set_cons_zero, List.set_cons_succ])
            refine wpAnyH_ready (rs := [0, 6]) (by kernel_rfl) (by simp) ?_
            refine AllReadyH.cons (o := _) rfl (fun K hK => ?_) (AllReadyH.cons (o := _) rfl (fun K hK => ?_) (AllReadyH.nil))
            · go_simp
              have HG0 := Lib.hid (A3.G3.start wq 25 6)
              (try simp only [Act.put, List.setIfInBounds_toArray, List.set_cons_zero, List.set_cons_succ])
              refine hK.out _ _ (cell6 (HKq.out.later (HG0.out.b))) (fun _ => ?_)
              clear hK K hHeld
              refine wpAnyH_ready (rs := [4, 6]) (by kernel_rfl) (by simp) ?_
              refine AllReadyH.cons (o := _) rfl (fun K hK => ?_) (AllReadyH.cons (o := _) rfl (fun K hK => ?_) (AllReadyH.nil))
              · skip
                rw [if_pos (by rfl)]
                refine HG0.out.wp_none (.tmp 28) (.tmp 31) 33 rfl Tryd.underlying33 t0 hi0 hz1 (by rfl) _ (by rfl) ?_
                (try simp only [Act.put, List.setIfInBounds_toArray, List.set_cons_zero, List.set_cons_succ])
                refine hK.out _ _ (cell6 (HKq.out.later (HG0.out.b))) (fun _ => ?_)
                clear hK K
                refine wpAnyH_ready (rs := [6]) (by kernel_rfl) (by simp) ?_
                refine AllReadyH.cons (o := _) rfl (fun K hK => ?_) (AllReadyH.nil)
                go_simp
                have HX := Lib.hid (show Blk ((wq.drew.alloc (.cells #[] 25)).alloc (.cells (RuK.cells [x]).toArray 25)) (wq.heap.size + 1) 25 (RuK.cells [x]).toArray from Blk.at_ (by simp))
                have HGa := Lib.hid (HG0.out.alloc (.cells (RuK.cells [x]).toArray 25))
                (try simp only [Act.put, List.setIfInBounds_toArray, List.set_cons_zero, List.set_cons_succ])
                refine hK.out _ _ (cell6 (HKq.out.later (HGa.out.b))) (fun _ => ?_)
                clear hK K
                refine wpAnyH_ready (rs := [7]) (by kernel_rfl) (by simp) ?_
                refine AllReadyH.cons (o := _) rfl (fun K hK => ?_) (AllReadyH.nil)
                rw [if_pos (by rfl)]
                refine HGa.out.wp (.tmp 32) (.tmp 34) 33 rfl Tryd.underlying33 t0 hi0 (.agg #[.int .i64 no.id, .string no.nm, .string no.cl, .int .i64 no.bo, .bool no.wo, .int .i64 no.ca]) hz0 64 hz1 hz2 rfl (by decide) (by rfl) (⟨_, 0, none⟩) (1) (1) (RuK.cells [x]) (by (try simp only [Act.eval, Act.put]); rfl) (rfl) (A3.blk_news HX.out) (RuK.cells_one [x]) (by unfold maxLen; omega) (by omega) ?_
                intro v2 w2 hg hgr
                have HG2 := Lib.hid hg
                have HR2 := Lib.hid hgr
                clear hg hgr
                (try simp only [Act.put, List.setIfInBounds_toArray, List.set_cons_zero, List.set_cons_succ])
                refine hK.out _ _ (cell6 (HKq.out.later (HG2.out.b))) (fun _ => ?_)
                clear hK K
                refine wpAnyH_ready (rs := [11]) (by kernel_rfl) (by simp) ?_
                refine AllReadyH.cons (o := _) rfl (fun K hK => ?_) (AllReadyH.nil)
                rw [if_pos (by rfl)]
                refine HG2.out.wp_none (.tmp 35) (.tmp 38) 33 rfl Tryd.underlying33 t0 hi0 hz1 (by rfl) _ (by rfl) ?_
                (try simp only [Act.put, List.setIfInBounds_toArray, List.set_cons_zero, List.set_cons_succ])
                refine hK.out _ _ (cell6 (HKq.out.later (HG2.out.b))) (fun _ => ?_)
                clear hK K
                refine wpAnyH_take (i := 12) (oi := _) (v := ?_) rfl (by kernel_rfl) (by kernel_rfl) (by kernel_rfl) (fun _ _ _ h => h) (Or.inl ⟨by rfl, ?_⟩) (by assumption) ?_; rotate_left; focus (intro W hSw; (try dsimp only at hSw); go_simp; (first | done | with_reducible rfl))
                (try simp only [List.getElem_toArray, List.getElem_cons_succ, List.getElem_cons_zero, Act.put, List.setIfInBounds_toArray, List.set_cons_zero, List.set_cons_succ])
                refine wpAnyH_done (by kernel_rfl) ?_ _
                refine NoPanic.normal ?_
                (try simp only [List.getElem_toArray, List.getElem_cons_succ, List.getElem_cons_zero, Act.put, List.setIfInBounds_toArray, List.set_cons_zero, List.set_cons_succ])
                go_wp2_with fail
                have HB3 := Lib.hid (show Below w.heap.size w w2 from HBq.out.trans (HG2.out.b.mono HBq.out.size))
                have HO3 := Lib.hid (show Own w2 w.heap.size v2 (rs.take k ++ [x] ++ rs.drop k) from own_nil HG2.out HBq.out.size HN.out hkn hn0)
                refine (tail_any rs HF.out x HX0.out (by rw [HN.out]; exact hl) k HP.out w2 v2 HO3.out).mono ?_
                rintro e w5 ⟨rfl, hb⟩
                have HB5 := Lib.hid (HB3.out.trans (hb.mono HB3.out.size))
                have HO5 := Lib.hid (HO3.out.below hb)
                clear hb
                obtain ⟨g2, hg2⟩ : ∃ g, goodB (insR rs x) = g := ⟨_, rfl⟩
                have HG2x := Lib.hid hg2
                rw [hg2]
                clear hg2
                cases g2 with
                | false =>
                  have h1 : ok = false := by rw [← HO.out]; unfold adB; rw [HG2x.out, Bool.and_false]
                  have h2 : zs = [] := by rw [← HZ.out]; unfold adL; rw [HO.out, h1]; rfl
                  subst h1 h2
                  go_wp2
                  go_ret2
                  exact ⟨_, rfl, own_none w5 w.heap.size HB5.out.size, HB5.out.alloc HB5.out.size _⟩
                | true =>
                  have h1 : ok = true := by rw [← HO.out]; unfold adB; rw [HG.out, HG2x.out]; rfl
                  have h2 : insR rs x = zs := by rw [← HZ.out]; unfold adL; rw [HO.out, h1]; rfl
                  have HO6 := Lib.hid (show Own w5 w.heap.size v2 zs from by rw [← h2]; unfold insR; rw [HP.out]; exact HO5.out)
                  subst h1
                  clear h2
                  go_wp2
                  go_ret2
                  exact ⟨_, rfl, HO6.out, HB5.out⟩
              · go_simp
                have HX := Lib.hid (show Blk ((wq.drew.alloc (.cells #[] 25)).alloc (.cells (RuK.cells [x]).toArray 25)) (wq.heap.size + 1) 25 (RuK.cells [x]).toArray from Blk.at_ (by simp))
                have HGa := Lib.hid (HG0.out.alloc (.cells (RuK.cells [x]).toArray 25))
                (try simp only [Act.put, List.setIfInBounds_toArray, List.set_cons_zero, List.set_cons_succ])
                refine hK.out _ _ (cell6 (HKq.out.later (HGa.out.b))) (fun _ => ?_)
                clear hK K
                refine wpAnyH_ready (rs := [4]) (by kernel_rfl) (by simp) ?_
                refine AllReadyH.cons (o := _) rfl (fun K hK => ?_) (AllReadyH.nil)
                rw [if_pos (by rfl)]
                refine HGa.out.wp_none (.tmp 28) (.tmp 31) 33 rfl Tryd.underlying33 t0 hi0 hz1 (by rfl) _ (by rfl) ?_
                have HX1 := HX
                (try simp only [Act.put, List.setIfInBounds_toArray, List.set_cons_zero, List.set_cons_succ])
                refine hK.out _ _ (cell6 (HKq.out.later (HGa.out.b))) (fun _ => ?_)
                clear hK K
                refine wpAnyH_ready (rs := [7]) (by kernel_rfl) (by simp) ?_
                refine AllReadyH.cons (o := _) rfl (fun K hK => ?_) (AllReadyH.nil)
                rw [if_pos (by rfl)]
                refine HGa.out.wp (.tmp 32) (.tmp 34) 33 rfl Tryd.underlying33 t0 hi0 (.agg #[.int .i64 no.id, .string no.nm, .string no.cl, .int .i64 no.bo, .bool no.wo, .int .i64 no.ca]) hz0 64 hz1 hz2 rfl (by decide) (by rfl) (⟨_, 0, none⟩) (1) (1) (RuK.cells [x]) (by (try simp only [Act.eval, Act.put]); rfl) (rfl) (A3.blk_news HX1.out) (RuK.cells_one [x]) (by unfold maxLen; omega) (by omega) ?_
                intro v2 w2 hg hgr
                have HG2 := Lib.hid hg
                have HR2 := Lib.hid hgr
                clear hg hgr
                (try simp only [Act.put, List.setIfInBounds_toArray, List.set_cons_zero, List.set_cons_succ])
                refine hK.out _ _ (cell6 (HKq.out.later (HG2.out.b))) (fun _ => ?_)
                clear hK K
                refine wpAnyH_ready (rs := [11]) (by kernel_rfl) (by simp) ?_
                refine AllReadyH.cons (o := _) rfl (fun K hK => ?_) (AllReadyH.nil)
                rw [if_pos (by rfl)]
                refine HG2.out.wp_none (.tmp 35) (.tmp 38) 33 rfl Tryd.underlying33 t0 hi0 hz1 (by rfl) _ (by rfl) ?_
                (try simp only [Act.put, List.setIfInBounds_toArray, List.set_cons_zero, List.set_cons_succ])
                refine hK.out _ _ (cell6 (HKq.out.later (HG2.out.b))) (fun _ => ?_)
                clear hK K
                refine wpAnyH_take (i := 12) (oi := _) (v := ?_) rfl (by kernel_rfl) (by kernel_rfl) (by kernel_rfl) (fun _ _ _ h => h) (Or.inl ⟨by rfl, ?_⟩) (by assumption) ?_; rotate_left; focus (intro W hSw; (try dsimp only at hSw); go_simp; (first | done | with_reducible rfl))
                (try simp only [List.getElem_toArray, List.getElem_cons_succ, List.getElem_cons_zero, Act.put, List.setIfInBounds_toArray, List.set_cons_zero, List.set_cons_succ])
                refine wpAnyH_done (by kernel_rfl) ?_ _
                refine NoPanic.normal ?_
                (try simp only [List.getElem_toArray, List.getElem_cons_succ, List.getElem_cons_zero, Act.put, List.setIfInBounds_toArray, List.set_cons_zero, List.set_cons_succ])
                go_wp2_with fail
                have HB3 := Lib.hid (show Below w.heap.size w w2 from HBq.out.trans (HG2.out.b.mono HBq.out.size))
                have HO3 := Lib.hid (show Own w2 w.heap.size v2 (rs.take k ++ [x] ++ rs.drop k) from own_nil HG2.out HBq.out.size HN.out hkn hn0)
                refine (tail_any rs HF.out x HX0.out (by rw [HN.out]; exact hl) k HP.out w2 v2 HO3.out).mono ?_
                rintro e w5 ⟨rfl, hb⟩
                have HB5 := Lib.hid (HB3.out.trans (hb.mono HB3.out.size))
                have HO5 := Lib.hid (HO3.out.below hb)
                clear hb
                obtain ⟨g2, hg2⟩ : ∃ g, goodB (insR rs x) = g := ⟨_, rfl⟩
                have HG2x := Lib.hid hg2
                rw [hg2]
                clear hg2
                cases g2 with
                | false =>
                  have h1 : ok = false := by rw [← HO.out]; unfold adB; rw [HG2x.out, Bool.and_false]
                  have h2 : zs = [] := by rw [← HZ.out]; unfold adL; rw [HO.out, h1]; rfl
                  subst h1 h2
                  go_wp2
                  go_ret2
                  exact ⟨_, rfl, own_none w5 w.heap.size HB5.out.size, HB5.out.alloc HB5.out.size _⟩
                | true =>
                  have h1 : ok = true := by rw [← HO.out]; unfold adB; rw [HG.out, HG2x.out]; rfl
                  have h2 : insR rs x = zs := by rw [← HZ.out]; unfold adL; rw [HO.out, h1]; rfl
                  have HO6 := Lib.hid (show Own w5 w.heap.size v2 zs from by rw [← h2]; unfold insR; rw [HP.out]; exact HO5.out)
                  subst h1
                  clear h2
                  go_wp2
                  go_ret2
                  exact ⟨_, rfl, HO6.out, HB5.out⟩
            · go_simp
              have HX := Lib.hid (Blk.new wq.drew 25 (RuK.cells [x]).toArray)
              have HBx := Lib.hid ((Below.refl wq.heap.size wq).drew.alloc (Nat.le_refl _) (.cells (RuK.cells [x]).toArray 25))
              (try simp only [Act.put, List.setIfInBounds_toArray, List.set_cons_zero, List.set_cons_succ])
              refine hK.out _ _ (cell6 (HKq.out.later (HBx.out))) (fun _ => ?_)
              clear hK K hHeld
              refine wpAnyH_ready (rs := [0]) (by kernel_rfl) (by simp) ?_
              refine AllReadyH.cons (o := _) rfl (fun K hK => ?_) (AllReadyH.nil)
              go_simp
              have HG0 := Lib.hid (show A3.G3 wq 25 6 ((wq.drew.alloc (.cells (RuK.cells [x]).toArray 25)).alloc (.cells #[] 25)) (.slice (some ⟨wq.heap.size + 1, 0, none⟩) 0 0) 0 [] from A3.G3.after HBx.out (by simp))
              have HXo := Lib.hid (HX.out.alloc (.cells #[] 25))
              (try simp only [Act.put, List.setIfInBounds_toArray, List.set_cons_zero, List.set_cons_succ])
              refine hK.out _ _ (cell6 (HKq.out.later (HG0.out.b))) (fun _ => ?_)
              clear hK K
              refine wpAnyH_ready (rs := [4]) (by kernel_rfl) (by simp) ?_
              refine AllReadyH.cons (o := _) rfl (fun K hK => ?_) (AllReadyH.nil)
              rw [if_pos (by rfl)]
              refine HG0.out.wp_none (.tmp 28) (.tmp 31) 33 rfl Tryd.underlying33 t0 hi0 hz1 (by rfl) _ (by rfl) ?_
              have HX1 := HXo
              (try simp only [Act.put, List.setIfInBounds_toArray, List.set_cons_zero, List.set_cons_succ])
              refine hK.out _ _ (cell6 (HKq.out.later (HG0.out.b))) (fun _ => ?_)
              clear hK K
              refine wpAnyH_ready (rs := [7]) (by kernel_rfl) (by simp) ?_
              refine AllReadyH.cons (o := _) rfl (fun K hK => ?_) (AllReadyH.nil)
              rw [if_pos (by rfl)]
              refine HG0.out.wp (.tmp 32) (.tmp 34) 33 rfl Tryd.underlying33 t0 hi0 (.agg #[.int .i64 no.id, .string no.nm, .string no.cl, .int .i64 no.bo, .bool no.wo, .int .i64 no.ca]) hz0 64 hz1 hz2 rfl (by decide) (by rfl) (⟨_, 0, none⟩) (1) (1) (RuK.cells [x]) (by (try simp only [Act.eval, Act.put]); rfl) (rfl) (A3.blk_news HX1.out) (RuK.cells_one [x]) (by unfold maxLen; omega) (by omega) ?_
              intro v2 w2 hg hgr
              have HG2 := Lib.hid hg
              have HR2 := Lib.hid hgr
              clear hg hgr
              (try simp only [Act.put, List.setIfInBounds_toArray, List.set_cons_zero, List.set_cons_succ])
              refine hK.out _ _ (cell6 (HKq.out.later (HG2.out.b))) (fun _ => ?_)
              clear hK K
              refine wpAnyH_ready (rs := [11]) (by kernel_rfl) (by simp) ?_
              refine AllReadyH.cons (o := _) rfl (fun K hK => ?_) (AllReadyH.nil)
              rw [if_pos (by rfl)]
              refine HG2.out.wp_none (.tmp 35) (.tmp 38) 33 rfl Tryd.underlying33 t0 hi0 hz1 (by rfl) _ (by rfl) ?_
              (try simp only [Act.put, List.setIfInBounds_toArray, List.set_cons_zero, List.set_cons_succ])
              refine hK.out _ _ (cell6 (HKq.out.later (HG2.out.b))) (fun _ => ?_)
              clear hK K
              refine wpAnyH_take (i := 12) (oi := _) (v := ?_) rfl (by kernel_rfl) (by kernel_rfl) (by kernel_rfl) (fun _ _ _ h => h) (Or.inl ⟨by rfl, ?_⟩) (by assumption) ?_; rotate_left; focus (intro W hSw; (try dsimp only at hSw); go_simp; (first | done | with_reducible rfl))
              (try simp only [List.getElem_toArray, List.getElem_cons_succ, List.getElem_cons_zero, Act.put, List.setIfInBounds_toArray, List.set_cons_zero, List.set_cons_succ])
              refine wpAnyH_done (by kernel_rfl) ?_ _
              refine NoPanic.normal ?_
              (try simp only [List.getElem_toArray, List.getElem_cons_succ, List.getElem_cons_zero, Act.put, List.setIfInBounds_toArray, List.set_cons_zero, List.set_cons_succ])
              go_wp2_with fail
              have HB3 := Lib.hid (show Below w.heap.size w w2 from HBq.out.trans (HG2.out.b.mono HBq.out.size))
              have HO3 := Lib.hid (show Own w2 w.heap.size v2 (rs.take k ++ [x] ++ rs.drop k) from own_nil HG2.out HBq.out.size HN.out hkn hn0)
              refine (tail_any rs HF.out x HX0.out (by rw [HN.out]; exact hl) k HP.out w2 v2 HO3.out).mono ?_
              rintro e w5 ⟨rfl, hb⟩
              have HB5 := Lib.hid (HB3.out.trans (hb.mono HB3.out.size))
              have HO5 := Lib.hid (HO3.out.below hb)
              clear hb
              obtain ⟨g2, hg2⟩ : ∃ g, goodB (insR rs x) = g := ⟨_, rfl⟩
              have HG2x := Lib.hid hg2
              rw [hg2]
              clear hg2
              cases g2 with
              | false =>
                have h1 : ok = false := by rw [← HO.out]; unfold adB; rw [HG2x.out, Bool.and_false]
                have h2 : zs = [] := by rw [← HZ.out]; unfold adL; rw [HO.out, h1]; rfl
                subst h1 h2
                go_wp2
                go_ret2
                exact ⟨_, rfl, own_none w5 w.heap.size HB5.out.size, HB5.out.alloc HB5.out.size _⟩
              | true =>
                have h1 : ok = true := by rw [← HO.out]; unfold adB; rw [HG.out, HG2x.out]; rfl
                have h2 : insR rs x = zs := by rw [← HZ.out]; unfold adL; rw [HO.out, h1]; rfl
                have HO6 := Lib.hid (show Own w5 w.heap.size v2 zs from by rw [← h2]; unfold insR; rw [HP.out]; exact HO5.out)
                subst h1
                clear h2
                go_wp2
                go_ret2
                exact ⟨_, rfl, HO6.out, HB5.out⟩
          | some ad =>
            go_upto_region 4 with (fail)
            go_region
            go_upto_region 6 with (fail)
            have HBq := Lib.hid (show Below w.heap.size w ((w1.drewN q).drew) from Bk.below_drewN HB1.out (q + 1))
            have HKq := Lib.hid (show Blk ((w1.drewN q).drew) w.heap.size 25 #[.int .i64 x.id, .string x.nm, .string x.cl, .int .i64 x.bo, .bool x.wo, .int .i64 x.ca] from HK1.out.drewN (q + 1))
            have HRq := Lib.hid (show RuK.Row ((w1.drewN q).drew) (some ad) rs from H1.out.later (Bk.below_drewN (Below.refl _ _) (q + 1)))
            clear p0 p1 p2 p3 p4 p5 
            generalize (w1.drewN q).drew = wq at *
            obtain ⟨⟨p0, p1, p2, p3, p4, p5⟩, -⟩ := blk_cells HKq.out
            have hkc : k ≤ cap := by omega
            have hTl : (RuK.cells (rs.take k)).length = k * 6 := by rw [cells_len, List.length_take, HN.out, Nat.min_eq_left hkn]
            have hDl : (RuK.cells (rs.drop k)).length = (n - k) * 6 := by rw [cells_len, List.length_drop, HN.out]
            have HTk := Lib.hid (fun W' (hW : Below wq.heap.size wq W') => ((HRq.out.take k).later hW).news)
            have HDr := Lib.hid (show ∀ (ad' : Addr) (W' : World), Below wq.heap.size wq W' → ∀ j u, (RuK.cells (rs.drop k))[j]? = some u → W'.cell? (ad'.add j) = some u from fun ad' W' _ j u h => by
              rw [List.drop_eq_nil_of_le (by rw [HN.out]; exact hge)] at h
              simp [RuK.cells] at h)
            by_cases hck : cap = k
            · have hDl : (RuK.cells (rs.drop k)).length = 0 * 6 := by rw [hDl]; omega
              refine wp_region_noPanic ?_
              refine wp_region_held_drew (S := (fun Wx : World => Wx.cell? ⟨w.heap.size, 0, none⟩ = some (.int .i64 x.id) ∧ Wx.cell? ⟨w.heap.size, 1, none⟩ = some (.string x.nm) ∧ Wx.cell? ⟨w.heap.size, 2, none⟩ = some (.string x.cl) ∧ Wx.cell? ⟨w.heap.size, 3, none⟩ = some (.int .i64 x.bo) ∧ Wx.cell? ⟨w.heap.size, 4, none⟩ = some (.bool x.wo) ∧ Wx.cell? ⟨w.heap.size, 5, none⟩ = some (.int .i64 x.ca))) (by kernel_rfl) ⟨p0, p1, p2, p3, p4, p5⟩ (fun hHeld => ?_)
              refine wpAnyH_take (i := 1) (oi := _) (v := ?_) rfl (by kernel_rfl) (by kernel_rfl) (by kernel_rfl) (fun _ _ _ h => h) (Or.inl ⟨by rfl, ?_⟩) (by assumption) ?_; rotate_left; focus (intro W hSw; (try dsimp only at hSw); go_simp; (first | done | with_reducible rfl))
              (try simp only [List.getElem_toArray, List.getElem_cons_succ, List.getElem_cons_zero, Act.put, List.setIfInBounds_toArray, List.set_cons_zero, List.set_cons_succ])
              refine wpAnyH_take (i := 2) (oi := _) (v := ?_) rfl (by kernel_rfl) (by kernel_rfl) (by kernel_rfl) (fun _ _ _ h => h) (Or.inl ⟨by rfl, ?_⟩) (by assumption) ?_; rotate_left; focus (intro W hSw; (try dsimp only at hSw); go_simp; (first | done | with_reducible rfl))
              (try simp only [List.getElem_toArray, List.getElem_cons_succ, List.getElem_cons_zero, Act.put, List.setIfInBounds_toArray, List.set_cons_zero, List.set_cons_succ])
              refine wpAnyH_take (i := 3) (oi := _) (v := ?_) rfl (by kernel_rfl) (by kernel_rfl) (by kernel_rfl) (fun _ _ _ h => h) (Or.inl ⟨by rfl, ?_⟩) (by assumption) ?_; rotate_left; focus (intro W hSw; (try dsimp only at hSw); go_simp; (first | done | with_reducible rfl))
              (try simp only [List.getElem_toArray, List.getElem_cons_succ, List.getElem_cons_zero, Act.put, List.setIfInBounds_toArray, List.set_cons_zero, List.set_cons_succ])
              refine wpAnyH_take (i := 5) (oi := _) (v := ?_) rfl (by kernel_rfl) (by kernel_rfl) (by kernel_rfl) (fun _ _ _ h => h) (Or.inl ⟨by rfl, ?_⟩) (by assumption) ?_; rotate_left; focus (intro W hSw; (try dsimp only at hSw); go_simp; (first | done | with_reducible rfl))
              (try simp only [List.getElem_toArray, List.getElem_cons_succ, List.getElem_cons_zero, Act.put, List.setIfInBounds_toArray, List.set_cons_zero, List.set_cons_succ])
              refine wpAnyH_take (i := 8) (oi := _) (v := ?_) rfl (by kernel_rfl) (by kernel_rfl) (by kernel_rfl) (fun _ _ _ h => h) (Or.inl ⟨by rfl, ?_⟩) (by assumption) ?_; rotate_left; focus (intro W hSw; (try dsimp only at hSw); go_simp; (first | done | with_reducible rfl))
              (try simp only [List.getElem_toArray, List.getElem_cons_succ, List.getElem_cons_zero, Act.put, List.setIfInBounds_toArray, List.set_cons_zero, List.set_cons_succ])
              refine wpAnyH_take (i := 9) (oi := _) (v := ?_) rfl (by kernel_rfl) (by kernel_rfl) (by kernel_rfl) (fun _ _ _ h => h) (Or.inl ⟨by rfl, ?_⟩) (by assumption) ?_; rotate_left; focus (intro W hSw; (try dsimp only at hSw); go_simp; (first | done | with_reducible rfl))
              (try simp only [List.getElem_toArray, List.getElem_cons_succ, List.getElem_cons_zero, Act.put, List.setIfInBounds_toArray, List.set_cons_zero, List.set_cons_succ])
              refine wpAnyH_take (i := 10) (oi := _) (v := ?_) rfl (by kernel_rfl) (by kernel_rfl) (by kernel_rfl) (fun _ _ _ h => h) (Or.inl ⟨by rfl, ?_⟩) (by assumption) ?_; rotate_left; focus (intro W hSw; (try dsimp only at hSw); go_simp; (first | done | with_reducible rfl))
              (try simp only [List.getElem_toArray, List.getElem_cons_succ, List.getElem_cons_zero, Act.put, List.setIfInBounds_toArray, List.set_cons_zero, List.set_cons_succ])
              refine wpAnyH_ready (rs := [0, 6]) (by kernel_rfl) (by simp) ?_
              refine AllReadyH.cons (o := _) rfl (fun K hK => ?_) (AllReadyH.cons (o := _) rfl (fun K hK => ?_) (AllReadyH.nil))
              · go_simp
                have HG0 := Lib.hid (A3.G3.start wq 25 6)
                (try simp only [Act.put, List.setIfInBounds_toArray, List.set_cons_zero, List.set_cons_succ])
                refine hK.out _ _ (cell6 (HKq.out.later (HG0.out.b))) (fun _ => ?_)
                clear hK K hHeld
                refine wpAnyH_ready (rs := [4, 6]) (by kernel_rfl) (by simp) ?_
                refine AllReadyH.cons (o := _) rfl (fun K hK => ?_) (AllReadyH.cons (o := _) rfl (fun K hK => ?_) (AllReadyH.nil))
                · skip
                  rw [if_pos (by rfl)]
                  refine HG0.out.wp (.tmp 28) (.tmp 31) 33 rfl Tryd.underlying33 t0 hi0 (.agg #[.int .i64 no.id, .string no.nm, .string no.cl, .int .i64 no.bo, .bool no.wo, .int .i64 no.ca]) hz0 64 hz1 hz2 rfl (by decide) (by rfl) (ad) (k) (_) (RuK.cells (rs.take k)) (by (try simp only [Act.eval, Act.put]); rfl) (hTl) (HTk.out _ HG0.out.b) (RuK.cells_one _) (by unfold maxLen; omega) (by omega) ?_
                  intro v1 w1 hg hgr
                  have HG1 := Lib.hid hg
                  have HR1 := Lib.hid hgr
                  clear hg hgr
                  (try simp only [Act.put, List.setIfInBounds_toArray, List.set_cons_zero, List.set_cons_succ])
                  refine hK.out _ _ (cell6 (HKq.out.later (HG1.out.b))) (fun _ => ?_)
                  clear hK K
                  refine wpAnyH_ready (rs := [6]) (by kernel_rfl) (by simp) ?_
                  refine AllReadyH.cons (o := _) rfl (fun K hK => ?_) (AllReadyH.nil)
                  go_simp
                  have HX := Lib.hid (Blk.new w1 25 (RuK.cells [x]).toArray)
                  have HGa := Lib.hid (HG1.out.alloc (.cells (RuK.cells [x]).toArray 25))
                  (try simp only [Act.put, List.setIfInBounds_toArray, List.set_cons_zero, List.set_cons_succ])
                  refine hK.out _ _ (cell6 (HKq.out.later (HGa.out.b))) (fun _ => ?_)
                  clear hK K
                  refine wpAnyH_ready (rs := [7]) (by kernel_rfl) (by simp) ?_
                  refine AllReadyH.cons (o := _) rfl (fun K hK => ?_) (AllReadyH.nil)
                  rw [if_pos (by rfl)]
                  refine HGa.out.wp (.tmp 32) (.tmp 34) 33 rfl Tryd.underlying33 t0 hi0 (.agg #[.int .i64 no.id, .string no.nm, .string no.cl, .int .i64 no.bo, .bool no.wo, .int .i64 no.ca]) hz0 64 hz1 hz2 rfl (by decide) (by rfl) (⟨_, 0, none⟩) (1) (1) (RuK.cells [x]) (by (try simp only [Act.eval, Act.put]); rfl) (rfl) (A3.blk_news HX.out) (RuK.cells_one [x]) (by unfold maxLen; omega) (by omega) ?_
                  intro v2 w2 hg hgr
                  have HG2 := Lib.hid hg
                  have HR2 := Lib.hid hgr
                  clear hg hgr
                  (try simp only [Act.put, List.setIfInBounds_toArray, List.set_cons_zero, List.set_cons_succ])
                  refine hK.out _ _ (cell6 (HKq.out.later (HG2.out.b))) (fun _ => ?_)
                  clear hK K
                  refine wpAnyH_ready (rs := [11]) (by kernel_rfl) (by simp) ?_
                  refine AllReadyH.cons (o := _) rfl (fun K hK => ?_) (AllReadyH.nil)
                  rw [if_pos (by rfl)]
                  refine HG2.out.wp (.tmp 35) (.tmp 38) 33 rfl Tryd.underlying33 t0 hi0 (.agg #[.int .i64 no.id, .string no.nm, .string no.cl, .int .i64 no.bo, .bool no.wo, .int .i64 no.ca]) hz0 64 hz1 hz2 rfl (by decide) (by rfl) (_) (0) (_) (RuK.cells (rs.drop k)) (by (try simp only [Act.eval, Act.put]); rfl) (hDl) (HDr.out _ _ HG2.out.b) (RuK.cells_one _) (by unfold maxLen; omega) (by omega) ?_
                  intro v3 w3 hg hgr
                  have HG3 := Lib.hid hg
                  have HR3 := Lib.hid hgr
                  clear hg hgr
                  (try simp only [Act.put, List.setIfInBounds_toArray, List.set_cons_zero, List.set_cons_succ])
                  refine hK.out _ _ (cell6 (HKq.out.later (HG3.out.b))) (fun _ => ?_)
                  clear hK K
                  refine wpAnyH_take (i := 12) (oi := _) (v := ?_) rfl (by kernel_rfl) (by kernel_rfl) (by kernel_rfl) (fun _ _ _ h => h) (Or.inl ⟨by rfl, ?_⟩) (by assumption) ?_; rotate_left; focus (intro W hSw; (try dsimp only at hSw); go_simp; (first | done | with_reducible rfl))
                  (try simp only [List.getElem_toArray, List.getElem_cons_succ, List.getElem_cons_zero, Act.put, List.setIfInBounds_toArray, List.set_cons_zero, List.set_cons_succ])
                  refine wpAnyH_done (by kernel_rfl) ?_ _
                  refine NoPanic.normal ?_
                  (try simp only [List.getElem_toArray, List.getElem_cons_succ, List.getElem_cons_zero, Act.put, List.setIfInBounds_toArray, List.set_cons_zero, List.set_cons_succ])
                  go_wp2_with fail
                  have HB3 := Lib.hid (show Below w.heap.size w w3 from HBq.out.trans (HG3.out.b.mono HBq.out.size))
                  have HO3 := Lib.hid (show Own w3 w.heap.size v3 (rs.take k ++ [x] ++ rs.drop k) from own_some HG3.out HBq.out.size HN.out hkn (by omega))
                  refine (tail_any rs HF.out x HX0.out (by rw [HN.out]; exact hl) k HP.out w3 v3 HO3.out).mono ?_
                  rintro e w5 ⟨rfl, hb⟩
                  have HB5 := Lib.hid (HB3.out.trans (hb.mono HB3.out.size))
                  have HO5 := Lib.hid (HO3.out.below hb)
                  clear hb
                  obtain ⟨g2, hg2⟩ : ∃ g, goodB (insR rs x) = g := ⟨_, rfl⟩
                  have HG2x := Lib.hid hg2
                  rw [hg2]
                  clear hg2
                  cases g2 with
                  | false =>
                    have h1 : ok = false := by rw [← HO.out]; unfold adB; rw [HG2x.out, Bool.and_false]
                    have h2 : zs = [] := by rw [← HZ.out]; unfold adL; rw [HO.out, h1]; rfl
                    subst h1 h2
                    go_wp2
                    go_ret2
                    exact ⟨_, rfl, own_none w5 w.heap.size HB5.out.size, HB5.out.alloc HB5.out.size _⟩
                  | true =>
                    have h1 : ok = true := by rw [← HO.out]; unfold adB; rw [HG.out, HG2x.out]; rfl
                    have h2 : insR rs x = zs := by rw [← HZ.out]; unfold adL; rw [HO.out, h1]; rfl
                    have HO6 := Lib.hid (show Own w5 w.heap.size v3 zs from by rw [← h2]; unfold insR; rw [HP.out]; exact HO5.out)
                    subst h1
                    clear h2
                    go_wp2
                    go_ret2
                    exact ⟨_, rfl, HO6.out, HB5.out⟩
                · go_simp
                  have HX := Lib.hid (show Blk ((wq.drew.alloc (.cells #[] 25)).alloc (.cells (RuK.cells [x]).toArray 25)) (wq.heap.size + 1) 25 (RuK.cells [x]).toArray from Blk.at_ (by simp))
                  have HGa := Lib.hid (HG0.out.alloc (.cells (RuK.cells [x]).toArray 25))
                  (try simp only [Act.put, List.setIfInBounds_toArray, List.set_cons_zero, List.set_cons_succ])
                  refine hK.out _ _ (cell6 (HKq.out.later (HGa.out.b))) (fun _ => ?_)
                  clear hK K
                  refine wpAnyH_ready (rs := [4]) (by kernel_rfl) (by simp) ?_
                  refine AllReadyH.cons (o := _) rfl (fun K hK => ?_) (AllReadyH.nil)
                  rw [if_pos (by rfl)]
                  refine HGa.out.wp (.tmp 28) (.tmp 31) 33 rfl Tryd.underlying33 t0 hi0 (.agg #[.int .i64 no.id, .string no.nm, .string no.cl, .int .i64 no.bo, .bool no.wo, .int .i64 no.ca]) hz0 64 hz1 hz2 rfl (by decide) (by rfl) (ad) (k) (_) (RuK.cells (rs.take k)) (by (try simp only [Act.eval, Act.put]); rfl) (hTl) (HTk.out _ HGa.out.b) (RuK.cells_one _) (by unfold maxLen; omega) (by omega) ?_
                  intro v1 w1 hg hgr
                  have HG1 := Lib.hid hg
                  have HR1 := Lib.hid hgr
                  clear hg hgr
                  have HX1 := Lib.hid (A3.blk_grown HX.out HR1.out (fun e => by simp [Value.ownBlock] at e))
                  (try simp only [Act.put, List.setIfInBounds_toArray, List.set_cons_zero, List.set_cons_succ])
                  refine hK.out _ _ (cell6 (HKq.out.later (HG1.out.b))) (fun _ => ?_)
                  clear hK K
                  refine wpAnyH_ready (rs := [7]) (by kernel_rfl) (by simp) ?_
                  refine AllReadyH.cons (o := _) rfl (fun K hK => ?_) (AllReadyH.nil)
                  rw [if_pos (by rfl)]
                  refine HG1.out.wp (.tmp 32) (.tmp 34) 33 rfl Tryd.underlying33 t0 hi0 (.agg #[.int .i64 no.id, .string no.nm, .string no.cl, .int .i64 no.bo, .bool no.wo, .int .i64 no.ca]) hz0 64 hz1 hz2 rfl (by decide) (by rfl) (⟨_, 0, none⟩) (1) (1) (RuK.cells [x]) (by (try simp only [Act.eval, Act.put]); rfl) (rfl) (A3.blk_news HX1.out) (RuK.cells_one [x]) (by unfold maxLen; omega) (by omega) ?_
                  intro v2 w2 hg hgr
                  have HG2 := Lib.hid hg
                  have HR2 := Lib.hid hgr
                  clear hg hgr
                  (try simp only [Act.put, List.setIfInBounds_toArray, List.set_cons_zero, List.set_cons_succ])
                  refine hK.out _ _ (cell6 (HKq.out.later (HG2.out.b))) (fun _ => ?_)
                  clear hK K
                  refine wpAnyH_ready (rs := [11]) (by kernel_rfl) (by simp) ?_
                  refine AllReadyH.cons (o := _) rfl (fun K hK => ?_) (AllReadyH.nil)
                  rw [if_pos (by rfl)]
                  refine HG2.out.wp (.tmp 35) (.tmp 38) 33 rfl Tryd.underlying33 t0 hi0 (.agg #[.int .i64 no.id, .string no.nm, .string no.cl, .int .i64 no.bo, .bool no.wo, .int .i64 no.ca]) hz0 64 hz1 hz2 rfl (by decide) (by rfl) (_) (0) (_) (RuK.cells (rs.drop k)) (by (try simp only [Act.eval, Act.put]); rfl) (hDl) (HDr.out _ _ HG2.out.b) (RuK.cells_one _) (by unfold maxLen; omega) (by omega) ?_
                  intro v3 w3 hg hgr
                  have HG3 := Lib.hid hg
                  have HR3 := Lib.hid hgr
                  clear hg hgr
                  (try simp only [Act.put, List.setIfInBounds_toArray, List.set_cons_zero, List.set_cons_succ])
                  refine hK.out _ _ (cell6 (HKq.out.later (HG3.out.b))) (fun _ => ?_)
                  clear hK K
                  refine wpAnyH_take (i := 12) (oi := _) (v := ?_) rfl (by kernel_rfl) (by kernel_rfl) (by kernel_rfl) (fun _ _ _ h => h) (Or.inl ⟨by rfl, ?_⟩) (by assumption) ?_; rotate_left; focus (intro W hSw; (try dsimp only at hSw); go_simp; (first | done | with_reducible rfl))
                  (try simp only [List.getElem_toArray, List.getElem_cons_succ, List.getElem_cons_zero, Act.put, List.setIfInBounds_toArray, List.set_cons_zero, List.set_cons_succ])
                  refine wpAnyH_done (by kernel_rfl) ?_ _
                  refine NoPanic.normal ?_
                  (try simp only [List.getElem_toArray, List.getElem_cons_succ, List.getElem_cons_zero, Act.put, List.setIfInBounds_toArray, List.set_cons_zero, List.set_cons_succ])
                  go_wp2_with fail
                  have HB3 := Lib.hid (show Below w.heap.size w w3 from HBq.out.trans (HG3.out.b.mono HBq.out.size))
                  have HO3 := Lib.hid (show Own w3 w.heap.size v3 (rs.take k ++ [x] ++ rs.drop k) from own_some HG3.out HBq.out.size HN.out hkn (by omega))
                  refine (tail_any rs HF.out x HX0.out (by rw [HN.out]; exact hl) k HP.out w3 v3 HO3.out).mono ?_
                  rintro e w5 ⟨rfl, hb⟩
                  have HB5 := Lib.hid (HB3.out.trans (hb.mono HB3.out.size))
                  have HO5 := Lib.hid (HO3.out.below hb)
                  clear hb
                  obtain ⟨g2, hg2⟩ : ∃ g, goodB (insR rs x) = g := ⟨_, rfl⟩
                  have HG2x := Lib.hid hg2
                  rw [hg2]
                  clear hg2
                  cases g2 with
                  | false =>
                    have h1 : ok = false := by rw [← HO.out]; unfold adB; rw [HG2x.out, Bool.and_false]
                    have h2 : zs = [] := by rw [← HZ.out]; unfold adL; rw [HO.out, h1]; rfl
                    subst h1 h2
                    go_wp2
                    go_ret2
                    exact ⟨_, rfl, own_none w5 w.heap.size HB5.out.size, HB5.out.alloc HB5.out.size _⟩
                  | true =>
                    have h1 : ok = true := by rw [← HO.out]; unfold adB; rw [HG.out, HG2x.out]; rfl
                    have h2 : insR rs x = zs := by rw [← HZ.out]; unfold adL; rw [HO.out, h1]; rfl
                    have HO6 := Lib.hid (show Own w5 w.heap.size v3 zs from by rw [← h2]; unfold insR; rw [HP.out]; exact HO5.out)
                    subst h1
                    clear h2
                    go_wp2
                    go_ret2
                    exact ⟨_, rfl, HO6.out, HB5.out⟩
              · go_simp
                have HX := Lib.hid (Blk.new wq.drew 25 (RuK.cells [x]).toArray)
                have HBx := Lib.hid ((Below.refl wq.heap.size wq).drew.alloc (Nat.le_refl _) (.cells (RuK.cells [x]).toArray 25))
                (try simp only [Act.put, List.setIfInBounds_toArray, List.set_cons_zero, List.set_cons_succ])
                refine hK.out _ _ (cell6 (HKq.out.later (HBx.out))) (fun _ => ?_)
                clear hK K hHeld
                refine wpAnyH_ready (rs := [0]) (by kernel_rfl) (by simp) ?_
                refine AllReadyH.cons (o := _) rfl (fun K hK => ?_) (AllReadyH.nil)
                go_simp
                have HG0 := Lib.hid (show A3.G3 wq 25 6 ((wq.drew.alloc (.cells (RuK.cells [x]).toArray 25)).alloc (.cells #[] 25)) (.slice (some ⟨wq.heap.size + 1, 0, none⟩) 0 0) 0 [] from A3.G3.after HBx.out (by simp))
                have HXo := Lib.hid (HX.out.alloc (.cells #[] 25))
                (try simp only [Act.put, List.setIfInBounds_toArray, List.set_cons_zero, List.set_cons_succ])
                refine hK.out _ _ (cell6 (HKq.out.later (HG0.out.b))) (fun _ => ?_)
                clear hK K
                refine wpAnyH_ready (rs := [4]) (by kernel_rfl) (by simp) ?_
                refine AllReadyH.cons (o := _) rfl (fun K hK => ?_) (AllReadyH.nil)
                rw [if_pos (by rfl)]
                refine HG0.out.wp (.tmp 28) (.tmp 31) 33 rfl Tryd.underlying33 t0 hi0 (.agg #[.int .i64 no.id, .string no.nm, .string no.cl, .int .i64 no.bo, .bool no.wo, .int .i64 no.ca]) hz0 64 hz1 hz2 rfl (by decide) (by rfl) (ad) (k) (_) (RuK.cells (rs.take k)) (by (try simp only [Act.eval, Act.put]); rfl) (hTl) (HTk.out _ HG0.out.b) (RuK.cells_one _) (by unfold maxLen; omega) (by omega) ?_
                intro v1 w1 hg hgr
                have HG1 := Lib.hid hg
                have HR1 := Lib.hid hgr
                clear hg hgr
                have HX1 := Lib.hid (A3.blk_grown HXo.out HR1.out (fun e => by simp [Value.ownBlock] at e))
                (try simp only [Act.put, List.setIfInBounds_toArray, List.set_cons_zero, List.set_cons_succ])
                refine hK.out _ _ (cell6 (HKq.out.later (HG1.out.b))) (fun _ => ?_)
                clear hK K
                refine wpAnyH_ready (rs := [7]) (by kernel_rfl) (by simp) ?_
                refine AllReadyH.cons (o := _) rfl (fun K hK => ?_) (AllReadyH.nil)
                rw [if_pos (by rfl)]
                refine HG1.out.wp (.tmp 32) (.tmp 34) 33 rfl Tryd.underlying33 t0 hi0 (.agg #[.int .i64 no.id, .string no.nm, .string no.cl, .int .i64 no.bo, .bool no.wo, .int .i64 no.ca]) hz0 64 hz1 hz2 rfl (by decide) (by rfl) (⟨_, 0, none⟩) (1) (1) (RuK.cells [x]) (by (try simp only [Act.eval, Act.put]); rfl) (rfl) (A3.blk_news HX1.out) (RuK.cells_one [x]) (by unfold maxLen; omega) (by omega) ?_
                intro v2 w2 hg hgr
                have HG2 := Lib.hid hg
                have HR2 := Lib.hid hgr
                clear hg hgr
                (try simp only [Act.put, List.setIfInBounds_toArray, List.set_cons_zero, List.set_cons_succ])
                refine hK.out _ _ (cell6 (HKq.out.later (HG2.out.b))) (fun _ => ?_)
                clear hK K
                refine wpAnyH_ready (rs := [11]) (by kernel_rfl) (by simp) ?_
                refine AllReadyH.cons (o := _) rfl (fun K hK => ?_) (AllReadyH.nil)
                rw [if_pos (by rfl)]
                refine HG2.out.wp (.tmp 35) (.tmp 38) 33 rfl Tryd.underlying33 t0 hi0 (.agg #[.int .i64 no.id, .string no.nm, .string no.cl, .int .i64 no.bo, .bool no.wo, .int .i64 no.ca]) hz0 64 hz1 hz2 rfl (by decide) (by rfl) (_) (0) (_) (RuK.cells (rs.drop k)) (by (try simp only [Act.eval, Act.put]); rfl) (hDl) (HDr.out _ _ HG2.out.b) (RuK.cells_one _) (by unfold maxLen; omega) (by omega) ?_
                intro v3 w3 hg hgr
                have HG3 := Lib.hid hg
                have HR3 := Lib.hid hgr
                clear hg hgr
                (try simp only [Act.put, List.setIfInBounds_toArray, List.set_cons_zero, List.set_cons_succ])
                refine hK.out _ _ (cell6 (HKq.out.later (HG3.out.b))) (fun _ => ?_)
                clear hK K
                refine wpAnyH_take (i := 12) (oi := _) (v := ?_) rfl (by kernel_rfl) (by kernel_rfl) (by kernel_rfl) (fun _ _ _ h => h) (Or.inl ⟨by rfl, ?_⟩) (by assumption) ?_; rotate_left; focus (intro W hSw; (try dsimp only at hSw); go_simp; (first | done | with_reducible rfl))
                (try simp only [List.getElem_toArray, List.getElem_cons_succ, List.getElem_cons_zero, Act.put, List.setIfInBounds_toArray, List.set_cons_zero, List.set_cons_succ])
                refine wpAnyH_done (by kernel_rfl) ?_ _
                refine NoPanic.normal ?_
                (try simp only [List.getElem_toArray, List.getElem_cons_succ, List.getElem_cons_zero, Act.put, List.setIfInBounds_toArray, List.set_cons_zero, List.set_cons_succ])
                go_wp2_with fail
                have HB3 := Lib.hid (show Below w.heap.size w w3 from HBq.out.trans (HG3.out.b.mono HBq.out.size))
                have HO3 := Lib.hid (show Own w3 w.heap.size v3 (rs.take k ++ [x] ++ rs.drop k) from own_some HG3.out HBq.out.size HN.out hkn (by omega))
                refine (tail_any rs HF.out x HX0.out (by rw [HN.out]; exact hl) k HP.out w3 v3 HO3.out).mono ?_
                rintro e w5 ⟨rfl, hb⟩
                have HB5 := Lib.hid (HB3.out.trans (hb.mono HB3.out.size))
                have HO5 := Lib.hid (HO3.out.below hb)
                clear hb
                obtain ⟨g2, hg2⟩ : ∃ g, goodB (insR rs x) = g := ⟨_, rfl⟩
                have HG2x := Lib.hid hg2
                rw [hg2]
                clear hg2
                cases g2 with
                | false =>
                  have h1 : ok = false := by rw [← HO.out]; unfold adB; rw [HG2x.out, Bool.and_false]
                  have h2 : zs = [] := by rw [← HZ.out]; unfold adL; rw [HO.out, h1]; rfl
                  subst h1 h2
                  go_wp2
                  go_ret2
                  exact ⟨_, rfl, own_none w5 w.heap.size HB5.out.size, HB5.out.alloc HB5.out.size _⟩
                | true =>
                  have h1 : ok = true := by rw [← HO.out]; unfold adB; rw [HG.out, HG2x.out]; rfl
                  have h2 : insR rs x = zs := by rw [← HZ.out]; unfold adL; rw [HO.out, h1]; rfl
                  have HO6 := Lib.hid (show Own w5 w.heap.size v3 zs from by rw [← h2]; unfold insR; rw [HP.out]; exact HO5.out)
                  subst h1
                  clear h2
                  go_wp2
                  go_ret2
                  exact ⟨_, rfl, HO6.out, HB5.out⟩
            · have hDl : (RuK.cells (rs.drop k)).length = 0 * 6 := by rw [hDl]; omega
              refine wp_region_noPanic ?_
              refine wp_region_held_drew (S := (fun Wx : World => Wx.cell? ⟨w.heap.size, 0, none⟩ = some (.int .i64 x.id) ∧ Wx.cell? ⟨w.heap.size, 1, none⟩ = some (.string x.nm) ∧ Wx.cell? ⟨w.heap.size, 2, none⟩ = some (.string x.cl) ∧ Wx.cell? ⟨w.heap.size, 3, none⟩ = some (.int .i64 x.bo) ∧ Wx.cell? ⟨w.heap.size, 4, none⟩ = some (.bool x.wo) ∧ Wx.cell? ⟨w.heap.size, 5, none⟩ = some (.int .i64 x.ca))) (by kernel_rfl) ⟨p0, p1, p2, p3, p4, p5⟩ (fun hHeld => ?_)
              refine wpAnyH_take (i := 1) (oi := _) (v := ?_) rfl (by kernel_rfl) (by kernel_rfl) (by kernel_rfl) (fun _ _ _ h => h) (Or.inl ⟨by rfl, ?_⟩) (by assumption) ?_; rotate_left; focus (intro W hSw; (try dsimp only at hSw); go_simp; (first | done | with_reducible rfl))
              (try simp only [List.getElem_toArray, List.getElem_cons_succ, List.getElem_cons_zero, Act.put, List.setIfInBounds_toArray, List.set_cons_zero, List.set_cons_succ])
              refine wpAnyH_take (i := 2) (oi := _) (v := ?_) rfl (by kernel_rfl) (by kernel_rfl) (by kernel_rfl) (fun _ _ _ h => h) (Or.inl ⟨by rfl, ?_⟩) (by assumption) ?_; rotate_left; focus (intro W hSw; (try dsimp only at hSw); go_simp; (first | done | with_reducible rfl))
              (try simp only [List.getElem_toArray, List.getElem_cons_succ, List.getElem_cons_zero, Act.put, List.setIfInBounds_toArray, List.set_cons_zero, List.set_cons_succ])
              refine wpAnyH_take (i := 3) (oi := _) (v := ?_) rfl (by kernel_rfl) (by kernel_rfl) (by kernel_rfl) (fun _ _ _ h => h) (Or.inl ⟨by rfl, ?_⟩) (by assumption) ?_; rotate_left; focus (intro W hSw; (try dsimp only at hSw); go_simp; (first | done | with_reducible rfl))
              (try simp only [List.getElem_toArray, List.getElem_cons_succ, List.getElem_cons_zero, Act.put, List.setIfInBounds_toArray, List.set_cons_zero, List.set_cons_succ])
              refine wpAnyH_take (i := 5) (oi := _) (v := ?_) rfl (by kernel_rfl) (by kernel_rfl) (by kernel_rfl) (fun _ _ _ h => h) (Or.inl ⟨by rfl, ?_⟩) (by assumption) ?_; rotate_left; focus (intro W hSw; (try dsimp only at hSw); go_simp; (first | done | with_reducible rfl))
              (try simp only [List.getElem_toArray, List.getElem_cons_succ, List.getElem_cons_zero, Act.put, List.setIfInBounds_toArray, List.set_cons_zero, List.set_cons_succ])
              refine wpAnyH_take (i := 8) (oi := _) (v := ?_) rfl (by kernel_rfl) (by kernel_rfl) (by kernel_rfl) (fun _ _ _ h => h) (Or.inl ⟨by rfl, ?_⟩) (by assumption) ?_; rotate_left; focus (intro W hSw; (try dsimp only at hSw); go_simp; (first | done | with_reducible rfl))
              (try simp only [List.getElem_toArray, List.getElem_cons_succ, List.getElem_cons_zero, Act.put, List.setIfInBounds_toArray, List.set_cons_zero, List.set_cons_succ])
              refine wpAnyH_take (i := 9) (oi := _) (v := ?_) rfl (by kernel_rfl) (by kernel_rfl) (by kernel_rfl) (fun _ _ _ h => h) (Or.inl ⟨by rfl, ?_⟩) (by assumption) ?_; rotate_left; focus (intro W hSw; (try dsimp only at hSw); go_simp; (first | done | with_reducible rfl))
              (try simp only [List.getElem_toArray, List.getElem_cons_succ, List.getElem_cons_zero, Act.put, List.setIfInBounds_toArray, List.set_cons_zero, List.set_cons_succ])
              refine wpAnyH_take (i := 10) (oi := _) (v := ?_) rfl (by kernel_rfl) (by kernel_rfl) (by kernel_rfl) (fun _ _ _ h => h) (Or.inl ⟨by rfl, ?_⟩) (by assumption) ?_; rotate_left; focus (intro W hSw; (try dsimp only at hSw); go_simp; (first | done | with_reducible rfl))
              (try simp only [List.getElem_toArray, List.getElem_cons_succ, List.getElem_cons_zero, Act.put, List.setIfInBounds_toArray, List.set_cons_zero, List.set_cons_succ])
              refine wpAnyH_ready (rs := [0, 6]) (by kernel_rfl) (by simp) ?_
              refine AllReadyH.cons (o := _) rfl (fun K hK => ?_) (AllReadyH.cons (o := _) rfl (fun K hK => ?_) (AllReadyH.nil))
              · go_simp
                have HG0 := Lib.hid (A3.G3.start wq 25 6)
                (try simp only [Act.put, List.setIfInBounds_toArray, List.set_cons_zero, List.set_cons_succ])
                refine hK.out _ _ (cell6 (HKq.out.later (HG0.out.b))) (fun _ => ?_)
                clear hK K hHeld
                refine wpAnyH_ready (rs := [4, 6]) (by kernel_rfl) (by simp) ?_
                refine AllReadyH.cons (o := _) rfl (fun K hK => ?_) (AllReadyH.cons (o := _) rfl (fun K hK => ?_) (AllReadyH.nil))
                · skip
                  rw [if_pos (by rfl)]
                  refine HG0.out.wp (.tmp 28) (.tmp 31) 33 rfl Tryd.underlying33 t0 hi0 (.agg #[.int .i64 no.id, .string no.nm, .string no.cl, .int .i64 no.bo, .bool no.wo, .int .i64 no.ca]) hz0 64 hz1 hz2 rfl (by decide) (by rfl) (ad) (k) (_) (RuK.cells (rs.take k)) (by (try simp only [Act.eval, Act.put]); rfl) (hTl) (HTk.out _ HG0.out.b) (RuK.cells_one _) (by unfold maxLen; omega) (by omega) ?_
                  intro v1 w1 hg hgr
                  have HG1 := Lib.hid hg
                  have HR1 := Lib.hid hgr
                  clear hg hgr
                  (try simp only [Act.put, List.setIfInBounds_toArray, List.set_cons_zero, List.set_cons_succ])
                  refine hK.out _ _ (cell6 (HKq.out.later (HG1.out.b))) (fun _ => ?_)
                  clear hK K
                  refine wpAnyH_ready (rs := [6]) (by kernel_rfl) (by simp) ?_
                  refine AllReadyH.cons (o := _) rfl (fun K hK => ?_) (AllReadyH.nil)
                  go_simp
                  have HX := Lib.hid (Blk.new w1 25 (RuK.cells [x]).toArray)
                  have HGa := Lib.hid (HG1.out.alloc (.cells (RuK.cells [x]).toArray 25))
                  (try simp only [Act.put, List.setIfInBounds_toArray, List.set_cons_zero, List.set_cons_succ])
                  refine hK.out _ _ (cell6 (HKq.out.later (HGa.out.b))) (fun _ => ?_)
                  clear hK K
                  refine wpAnyH_ready (rs := [7]) (by kernel_rfl) (by simp) ?_
                  refine AllReadyH.cons (o := _) rfl (fun K hK => ?_) (AllReadyH.nil)
                  rw [if_pos (by rfl)]
                  refine HGa.out.wp (.tmp 32) (.tmp 34) 33 rfl Tryd.underlying33 t0 hi0 (.agg #[.int .i64 no.id, .string no.nm, .string no.cl, .int .i64 no.bo, .bool no.wo, .int .i64 no.ca]) hz0 64 hz1 hz2 rfl (by decide) (by rfl) (⟨_, 0, none⟩) (1) (1) (RuK.cells [x]) (by (try simp only [Act.eval, Act.put]); rfl) (rfl) (A3.blk_news HX.out) (RuK.cells_one [x]) (by unfold maxLen; omega) (by omega) ?_
                  intro v2 w2 hg hgr
                  have HG2 := Lib.hid hg
                  have HR2 := Lib.hid hgr
                  clear hg hgr
                  (try simp only [Act.put, List.setIfInBounds_toArray, List.set_cons_zero, List.set_cons_succ])
                  refine hK.out _ _ (cell6 (HKq.out.later (HG2.out.b))) (fun _ => ?_)
                  clear hK K
                  refine wpAnyH_ready (rs := [11]) (by kernel_rfl) (by simp) ?_
                  refine AllReadyH.cons (o := _) rfl (fun K hK => ?_) (AllReadyH.nil)
                  rw [if_pos (by rfl)]
                  refine HG2.out.wp (.tmp 35) (.tmp 38) 33 rfl Tryd.underlying33 t0 hi0 (.agg #[.int .i64 no.id, .string no.nm, .string no.cl, .int .i64 no.bo, .bool no.wo, .int .i64 no.ca]) hz0 64 hz1 hz2 rfl (by decide) (by rfl) (_) (0) (_) (RuK.cells (rs.drop k)) (by (try simp only [Act.eval, Act.put]); rfl) (hDl) (HDr.out _ _ HG2.out.b) (RuK.cells_one _) (by unfold maxLen; omega) (by omega) ?_
                  intro v3 w3 hg hgr
                  have HG3 := Lib.hid hg
                  have HR3 := Lib.hid hgr
                  clear hg hgr
                  (try simp only [Act.put, List.setIfInBounds_toArray, List.set_cons_zero, List.set_cons_succ])
                  refine hK.out _ _ (cell6 (HKq.out.later (HG3.out.b))) (fun _ => ?_)
                  clear hK K
                  refine wpAnyH_take (i := 12) (oi := _) (v := ?_) rfl (by kernel_rfl) (by kernel_rfl) (by kernel_rfl) (fun _ _ _ h => h) (Or.inl ⟨by rfl, ?_⟩) (by assumption) ?_; rotate_left; focus (intro W hSw; (try dsimp only at hSw); go_simp; (first | done | with_reducible rfl))
                  (try simp only [List.getElem_toArray, List.getElem_cons_succ, List.getElem_cons_zero, Act.put, List.setIfInBounds_toArray, List.set_cons_zero, List.set_cons_succ])
                  refine wpAnyH_done (by kernel_rfl) ?_ _
                  refine NoPanic.normal ?_
                  (try simp only [List.getElem_toArray, List.getElem_cons_succ, List.getElem_cons_zero, Act.put, List.setIfInBounds_toArray, List.set_cons_zero, List.set_cons_succ])
                  go_wp2_with fail
                  have HB3 := Lib.hid (show Below w.heap.size w w3 from HBq.out.trans (HG3.out.b.mono HBq.out.size))
                  have HO3 := Lib.hid (show Own w3 w.heap.size v3 (rs.take k ++ [x] ++ rs.drop k) from own_some HG3.out HBq.out.size HN.out hkn (by omega))
                  refine (tail_any rs HF.out x HX0.out (by rw [HN.out]; exact hl) k HP.out w3 v3 HO3.out).mono ?_
                  rintro e w5 ⟨rfl, hb⟩
                  have HB5 := Lib.hid (HB3.out.trans (hb.mono HB3.out.size))
                  have HO5 := Lib.hid (HO3.out.below hb)
                  clear hb
                  obtain ⟨g2, hg2⟩ : ∃ g, goodB (insR rs x) = g := ⟨_, rfl⟩
                  have HG2x := Lib.hid hg2
                  rw [hg2]
                  clear hg2
                  cases g2 with
                  | false =>
                    have h1 : ok = false := by rw [← HO.out]; unfold adB; rw [HG2x.out, Bool.and_false]
                    have h2 : zs = [] := by rw [← HZ.out]; unfold adL; rw [HO.out, h1]; rfl
                    subst h1 h2
                    go_wp2
                    go_ret2
                    exact ⟨_, rfl, own_none w5 w.heap.size HB5.out.size, HB5.out.alloc HB5.out.size _⟩
                  | true =>
                    have h1 : ok = true := by rw [← HO.out]; unfold adB; rw [HG.out, HG2x.out]; rfl
                    have h2 : insR rs x = zs := by rw [← HZ.out]; unfold adL; rw [HO.out, h1]; rfl
                    have HO6 := Lib.hid (show Own w5 w.heap.size v3 zs from by rw [← h2]; unfold insR; rw [HP.out]; exact HO5.out)
                    subst h1
                    clear h2
                    go_wp2
                    go_ret2
                    exact ⟨_, rfl, HO6.out, HB5.out⟩
                · go_simp
                  have HX := Lib.hid (show Blk ((wq.drew.alloc (.cells #[] 25)).alloc (.cells (RuK.cells [x]).toArray 25)) (wq.heap.size + 1) 25 (RuK.cells [x]).toArray from Blk.at_ (by simp))
                  have HGa := Lib.hid (HG0.out.alloc (.cells (RuK.cells [x]).toArray 25))
                  (try simp only [Act.put, List.setIfInBounds_toArray, List.set_cons_zero, List.set_cons_succ])
                  refine hK.out _ _ (cell6 (HKq.out.later (HGa.out.b))) (fun _ => ?_)
                  clear hK K
                  refine wpAnyH_ready (rs := [4]) (by kernel_rfl) (by simp) ?_
                  refine AllReadyH.cons (o := _) rfl (fun K hK => ?_) (AllReadyH.nil)
                  rw [if_pos (by rfl)]
                  refine HGa.out.wp (.tmp 28) (.tmp 31) 33 rfl Tryd.underlying33 t0 hi0 (.agg #[.int .i64 no.id, .string no.nm, .string no.cl, .int .i64 no.bo, .bool no.wo, .int .i64 no.ca]) hz0 64 hz1 hz2 rfl (by decide) (by rfl) (ad) (k) (_) (RuK.cells (rs.take k)) (by (try simp only [Act.eval, Act.put]); rfl) (hTl) (HTk.out _ HGa.out.b) (RuK.cells_one _) (by unfold maxLen; omega) (by omega) ?_
                  intro v1 w1 hg hgr
                  have HG1 := Lib.hid hg
                  have HR1 := Lib.hid hgr
                  clear hg hgr
                  have HX1 := Lib.hid (A3.blk_grown HX.out HR1.out (fun e => by simp [Value.ownBlock] at e))
                  (try simp only [Act.put, List.setIfInBounds_toArray, List.set_cons_zero, List.set_cons_succ])
                  refine hK.out _ _ (cell6 (HKq.out.later (HG1.out.b))) (fun _ => ?_)
                  clear hK K
                  refine wpAnyH_ready (rs := [7]) (by kernel_rfl) (by simp) ?_
                  refine AllReadyH.cons (o := _) rfl (fun K hK => ?_) (AllReadyH.nil)
                  rw [if_pos (by rfl)]
                  refine HG1.out.wp (.tmp 32) (.tmp 34) 33 rfl Tryd.underlying33 t0 hi0 (.agg #[.int .i64 no.id, .string no.nm, .string no.cl, .int .i64 no.bo, .bool no.wo, .int .i64 no.ca]) hz0 64 hz1 hz2 rfl (by decide) (by rfl) (⟨_, 0, none⟩) (1) (1) (RuK.cells [x]) (by (try simp only [Act.eval, Act.put]); rfl) (rfl) (A3.blk_news HX1.out) (RuK.cells_one [x]) (by unfold maxLen; omega) (by omega) ?_
                  intro v2 w2 hg hgr
                  have HG2 := Lib.hid hg
                  have HR2 := Lib.hid hgr
                  clear hg hgr
                  (try simp only [Act.put, List.setIfInBounds_toArray, List.set_cons_zero, List.set_cons_succ])
                  refine hK.out _ _ (cell6 (HKq.out.later (HG2.out.b))) (fun _ => ?_)
                  clear hK K
                  refine wpAnyH_ready (rs := [11]) (by kernel_rfl) (by simp) ?_
                  refine AllReadyH.cons (o := _) rfl (fun K hK => ?_) (AllReadyH.nil)
                  rw [if_pos (by rfl)]
                  refine HG2.out.wp (.tmp 35) (.tmp 38) 33 rfl Tryd.underlying33 t0 hi0 (.agg #[.int .i64 no.id, .string no.nm, .string no.cl, .int .i64 no.bo, .bool no.wo, .int .i64 no.ca]) hz0 64 hz1 hz2 rfl (by decide) (by rfl) (_) (0) (_) (RuK.cells (rs.drop k)) (by (try simp only [Act.eval, Act.put]); rfl) (hDl) (HDr.out _ _ HG2.out.b) (RuK.cells_one _) (by unfold maxLen; omega) (by omega) ?_
                  intro v3 w3 hg hgr
                  have HG3 := Lib.hid hg
                  have HR3 := Lib.hid hgr
                  clear hg hgr
                  (try simp only [Act.put, List.setIfInBounds_toArray, List.set_cons_zero, List.set_cons_succ])
                  refine hK.out _ _ (cell6 (HKq.out.later (HG3.out.b))) (fun _ => ?_)
                  clear hK K
                  refine wpAnyH_take (i := 12) (oi := _) (v := ?_) rfl (by kernel_rfl) (by kernel_rfl) (by kernel_rfl) (fun _ _ _ h => h) (Or.inl ⟨by rfl, ?_⟩) (by assumption) ?_; rotate_left; focus (intro W hSw; (try dsimp only at hSw); go_simp; (first | done | with_reducible rfl))
                  (try simp only [List.getElem_toArray, List.getElem_cons_succ, List.getElem_cons_zero, Act.put, List.setIfInBounds_toArray, List.set_cons_zero, List.set_cons_succ])
                  refine wpAnyH_done (by kernel_rfl) ?_ _
                  refine NoPanic.normal ?_
                  (try simp only [List.getElem_toArray, List.getElem_cons_succ, List.getElem_cons_zero, Act.put, List.setIfInBounds_toArray, List.set_cons_zero, List.set_cons_succ])
                  go_wp2_with fail
                  have HB3 := Lib.hid (show Below w.heap.size w w3 from HBq.out.trans (HG3.out.b.mono HBq.out.size))
                  have HO3 := Lib.hid (show Own w3 w.heap.size v3 (rs.take k ++ [x] ++ rs.drop k) from own_some HG3.out HBq.out.size HN.out hkn (by omega))
                  refine (tail_any rs HF.out x HX0.out (by rw [HN.out]; exact hl) k HP.out w3 v3 HO3.out).mono ?_
                  rintro e w5 ⟨rfl, hb⟩
                  have HB5 := Lib.hid (HB3.out.trans (hb.mono HB3.out.size))
                  have HO5 := Lib.hid (HO3.out.below hb)
                  clear hb
                  obtain ⟨g2, hg2⟩ : ∃ g, goodB (insR rs x) = g := ⟨_, rfl⟩
                  have HG2x := Lib.hid hg2
                  rw [hg2]
                  clear hg2
                  cases g2 with
                  | false =>
                    have h1 : ok = false := by rw [← HO.out]; unfold adB; rw [HG2x.out, Bool.and_false]
                    have h2 : zs = [] := by rw [← HZ.out]; unfold adL; rw [HO.out, h1]; rfl
                    subst h1 h2
                    go_wp2
                    go_ret2
                    exact ⟨_, rfl, own_none w5 w.heap.size HB5.out.size, HB5.out.alloc HB5.out.size _⟩
                  | true =>
                    have h1 : ok = true := by rw [← HO.out]; unfold adB; rw [HG.out, HG2x.out]; rfl
                    have h2 : insR rs x = zs := by rw [← HZ.out]; unfold adL; rw [HO.out, h1]; rfl
                    have HO6 := Lib.hid (show Own w5 w.heap.size v3 zs from by rw [← h2]; unfold insR; rw [HP.out]; exact HO5.out)
                    subst h1
                    clear h2
                    go_wp2
                    go_ret2
                    exact ⟨_, rfl, HO6.out, HB5.out⟩
              · go_simp
                have HX := Lib.hid (Blk.new wq.drew 25 (RuK.cells [x]).toArray)
                have HBx := Lib.hid ((Below.refl wq.heap.size wq).drew.alloc (Nat.le_refl _) (.cells (RuK.cells [x]).toArray 25))
                (try simp only [Act.put, List.setIfInBounds_toArray, List.set_cons_zero, List.set_cons_succ])
                refine hK.out _ _ (cell6 (HKq.out.later (HBx.out))) (fun _ => ?_)
                clear hK K hHeld
                refine wpAnyH_ready (rs := [0]) (by kernel_rfl) (by simp) ?_
                refine AllReadyH.cons (o := _) rfl (fun K hK => ?_) (AllReadyH.nil)
                go_simp
                have HG0 := Lib.hid (show A3.G3 wq 25 6 ((wq.drew.alloc (.cells (RuK.cells [x]).toArray 25)).alloc (.cells #[] 25)) (.slice (some ⟨wq.heap.size + 1, 0, none⟩) 0 0) 0 [] from A3.G3.after HBx.out (by simp))
                have HXo := Lib.hid (HX.out.alloc (.cells #[] 25))
                (try simp only [Act.put, List.setIfInBounds_toArray, List.set_cons_zero, List.set_cons_succ])
                refine hK.out _ _ (cell6 (HKq.out.later (HG0.out.b))) (fun _ => ?_)
                clear hK K
                refine wpAnyH_ready (rs := [4]) (by kernel_rfl) (by simp) ?_
                refine AllReadyH.cons (o := _) rfl (fun K hK => ?_) (AllReadyH.nil)
                rw [if_pos (by rfl)]
                refine HG0.out.wp (.tmp 28) (.tmp 31) 33 rfl Tryd.underlying33 t0 hi0 (.agg #[.int .i64 no.id, .string no.nm, .string no.cl, .int .i64 no.bo, .bool no.wo, .int .i64 no.ca]) hz0 64 hz1 hz2 rfl (by decide) (by rfl) (ad) (k) (_) (RuK.cells (rs.take k)) (by (try simp only [Act.eval, Act.put]); rfl) (hTl) (HTk.out _ HG0.out.b) (RuK.cells_one _) (by unfold maxLen; omega) (by omega) ?_
                intro v1 w1 hg hgr
                have HG1 := Lib.hid hg
                have HR1 := Lib.hid hgr
                clear hg hgr
                have HX1 := Lib.hid (A3.blk_grown HXo.out HR1.out (fun e => by simp [Value.ownBlock] at e))
                (try simp only [Act.put, List.setIfInBounds_toArray, List.set_cons_zero, List.set_cons_succ])
                refine hK.out _ _ (cell6 (HKq.out.later (HG1.out.b))) (fun _ => ?_)
                clear hK K
                refine wpAnyH_ready (rs := [7]) (by kernel_rfl) (by simp) ?_
                refine AllReadyH.cons (o := _) rfl (fun K hK => ?_) (AllReadyH.nil)
                rw [if_pos (by rfl)]
                refine HG1.out.wp (.tmp 32) (.tmp 34) 33 rfl Tryd.underlying33 t0 hi0 (.agg #[.int .i64 no.id, .string no.nm, .string no.cl, .int .i64 no.bo, .bool no.wo, .int .i64 no.ca]) hz0 64 hz1 hz2 rfl (by decide) (by rfl) (⟨_, 0, none⟩) (1) (1) (RuK.cells [x]) (by (try simp only [Act.eval, Act.put]); rfl) (rfl) (A3.blk_news HX1.out) (RuK.cells_one [x]) (by unfold maxLen; omega) (by omega) ?_
                intro v2 w2 hg hgr
                have HG2 := Lib.hid hg
                have HR2 := Lib.hid hgr
                clear hg hgr
                (try simp only [Act.put, List.setIfInBounds_toArray, List.set_cons_zero, List.set_cons_succ])
                refine hK.out _ _ (cell6 (HKq.out.later (HG2.out.b))) (fun _ => ?_)
                clear hK K
                refine wpAnyH_ready (rs := [11]) (by kernel_rfl) (by simp) ?_
                refine AllReadyH.cons (o := _) rfl (fun K hK => ?_) (AllReadyH.nil)
                rw [if_pos (by rfl)]
                refine HG2.out.wp (.tmp 35) (.tmp 38) 33 rfl Tryd.underlying33 t0 hi0 (.agg #[.int .i64 no.id, .string no.nm, .string no.cl, .int .i64 no.bo, .bool no.wo, .int .i64 no.ca]) hz0 64 hz1 hz2 rfl (by decide) (by rfl) (_) (0) (_) (RuK.cells (rs.drop k)) (by (try simp only [Act.eval, Act.put]); rfl) (hDl) (HDr.out _ _ HG2.out.b) (RuK.cells_one _) (by unfold maxLen; omega) (by omega) ?_
                intro v3 w3 hg hgr
                have HG3 := Lib.hid hg
                have HR3 := Lib.hid hgr
                clear hg hgr
                (try simp only [Act.put, List.setIfInBounds_toArray, List.set_cons_zero, List.set_cons_succ])
                refine hK.out _ _ (cell6 (HKq.out.later (HG3.out.b))) (fun _ => ?_)
                clear hK K
                refine wpAnyH_take (i := 12) (oi := _) (v := ?_) rfl (by kernel_rfl) (by kernel_rfl) (by kernel_rfl) (fun _ _ _ h => h) (Or.inl ⟨by rfl, ?_⟩) (by assumption) ?_; rotate_left; focus (intro W hSw; (try dsimp only at hSw); go_simp; (first | done | with_reducible rfl))
                (try simp only [List.getElem_toArray, List.getElem_cons_succ, List.getElem_cons_zero, Act.put, List.setIfInBounds_toArray, List.set_cons_zero, List.set_cons_succ])
                refine wpAnyH_done (by kernel_rfl) ?_ _
                refine NoPanic.normal ?_
                (try simp only [List.getElem_toArray, List.getElem_cons_succ, List.getElem_cons_zero, Act.put, List.setIfInBounds_toArray, List.set_cons_zero, List.set_cons_succ])
                go_wp2_with fail
                have HB3 := Lib.hid (show Below w.heap.size w w3 from HBq.out.trans (HG3.out.b.mono HBq.out.size))
                have HO3 := Lib.hid (show Own w3 w.heap.size v3 (rs.take k ++ [x] ++ rs.drop k) from own_some HG3.out HBq.out.size HN.out hkn (by omega))
                refine (tail_any rs HF.out x HX0.out (by rw [HN.out]; exact hl) k HP.out w3 v3 HO3.out).mono ?_
                rintro e w5 ⟨rfl, hb⟩
                have HB5 := Lib.hid (HB3.out.trans (hb.mono HB3.out.size))
                have HO5 := Lib.hid (HO3.out.below hb)
                clear hb
                obtain ⟨g2, hg2⟩ : ∃ g, goodB (insR rs x) = g := ⟨_, rfl⟩
                have HG2x := Lib.hid hg2
                rw [hg2]
                clear hg2
                cases g2 with
                | false =>
                  have h1 : ok = false := by rw [← HO.out]; unfold adB; rw [HG2x.out, Bool.and_false]
                  have h2 : zs = [] := by rw [← HZ.out]; unfold adL; rw [HO.out, h1]; rfl
                  subst h1 h2
                  go_wp2
                  go_ret2
                  exact ⟨_, rfl, own_none w5 w.heap.size HB5.out.size, HB5.out.alloc HB5.out.size _⟩
                | true =>
                  have h1 : ok = true := by rw [← HO.out]; unfold adB; rw [HG.out, HG2x.out]; rfl
                  have h2 : insR rs x = zs := by rw [← HZ.out]; unfold adL; rw [HO.out, h1]; rfl
                  have HO6 := Lib.hid (show Own w5 w.heap.size v3 zs from by rw [← h2]; unfold insR; rw [HP.out]; exact HO5.out)
                  subst h1
                  clear h2
                  go_wp2
                  go_ret2
                  exact ⟨_, rfl, HO6.out, HB5.out⟩


theorem ad_len (rs : List Ru) (x : Ru) : (adL rs x).length ≤ 10 := by
  unfold adL
  split
  · rename_i h
    unfold adB at h
    rw [Bool.and_eq_true] at h
    exact (of_decide_eq_true h.2 : GoodP (insR rs x)).1
  · exact Nat.zero_le _
theorem both (rs : List Ru) (hf : ∀ i, i < rs.length → Is (at_ rs i)) (hl : rs.length ≤ 1048576) (x : Ru) (hx : Is x) : ∃ (zs : List Ru) (ok : Bool), zs.length ≤ 1048576 ∧
    (∀ a cap w, rs.length ≤ cap → Row w a rs → Calls Tryd.prog 15 #[.slice a rs.length cap, .agg #[.int .i64 x.id, .string x.nm, .string x.cl, .int .i64 x.bo, .bool x.wo, .int .i64 x.ca]] w fun e w' => ∃ v, e = .returned (.tuple #[v, .bool ok]) ∧ Own w' w.heap.size v zs ∧ Below w.heap.size w w') ∧
    (∀ a cap w, rs.length ≤ cap → Row w a rs → Calls Tryd.prog 14 #[.slice a rs.length cap, .agg #[.int .i64 x.id, .string x.nm, .string x.cl, .int .i64 x.bo, .bool x.wo, .int .i64 x.ca]] w fun e w' => ∃ v, e = .returned (.tuple #[v, .bool ok]) ∧ Own w' w.heap.size v zs ∧ Below w.heap.size w w') :=
  ⟨adL rs x, adB rs x, by have := ad_len rs x; omega, fun a cap w hc hr => spec_any rs hf hl x hx a cap w hc hr, fun a cap w hc hr => impl_any rs hf hl x hx a cap w hc hr⟩

end Go.Proofs.YtjngnjokbnklfaaDoor.AdS
