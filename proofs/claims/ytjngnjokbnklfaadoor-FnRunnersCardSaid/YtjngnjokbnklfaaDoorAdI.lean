/- AddRunner: the program's text. -/
import Derived.Test.YtjngnjokbnklfaaDoorAdA
namespace Go.Proofs.YtjngnjokbnklfaaDoor.AdI
open Go.RowKit Lb Bk InA Wd RuK RuI RuU RuA RuG RuC RuP RuW AdA
set_option linter.unusedSimpArgs false
set_option linter.unusedVariables false

theorem _root_.Go.Proofs.YtjngnjokbnklfaaDoor.RuK.Own.own_ge {w : World} {base b : Nat} {v : Value} {rs : List Ru} (h : Own w base v rs) (e : v.ownBlock = some b) : base ≤ b := (World.ownsRow.lt h b e).1
theorem _root_.Go.Proofs.YtjngnjokbnklfaaDoor.RuK.Own.own_lt {w : World} {base b : Nat} {v : Value} {rs : List Ru} (h : Own w base v rs) (e : v.ownBlock = some b) : b < w.heap.size := (World.ownsRow.lt h b e).2
theorem _root_.Go.Proofs.YtjngnjokbnklfaaDoor.Bk.Blk.grown {w w' : World} {g : Nat} {t : TypeId} {cs : Array Value} {r : Option Nat} (h : Blk w g t cs) (hg : w.grownBy w' r) (hr : r ≠ some g) : Blk w' g t cs := (hg.block g h.lt (fun e => hr e.symm)).trans h

theorem tail_any (rs : List Ru) (hf : ∀ i, i < rs.length → Is (at_ rs i)) (x : Ru) (hx : Is x) (hl : rs.length ≤ 1048576) (k : Nat) (hk : pl rs x.id = k) (w : World) (v : Value) {base : Nat} (ho : Own w base v (rs.take k ++ [x] ++ rs.drop k)) :
    Calls Tryd.prog 18 #[v] w fun e w' => e = .returned (.bool (goodB (insR rs x))) ∧ Below w.heap.size w w' := by
  have e : rs.take k ++ [x] ++ rs.drop k = insR rs x := by unfold insR; rw [hk]
  rw [e] at ho
  obtain ⟨a', c', rfl, hr', -⟩ := ho.slice
  exact RuA.impl_any a' c' (insR rs x) w ho.le hr' (ins_all hf hx) (by rw [ins_len]; unfold maxLen; omega)

set_option maxRecDepth 20000 in
set_option maxHeartbeats 4000000 in
theorem impl_any (rs : List Ru) (hf : ∀ i, i < rs.length → Is (at_ rs i)) (hl : rs.length ≤ 1048576) (x : Ru) (hx : Is x) (a : Option Addr) (cap : Nat) (w : World) (hc : rs.length ≤ cap) (hr : Row w a rs) :
    Calls Tryd.prog 14 #[.slice a rs.length cap, .agg #[.int .i64 x.id, .string x.nm, .string x.cl, .int .i64 x.bo, .bool x.wo, .int .i64 x.ca]] w (LPost w (adL rs x) (adB rs x)) := by
  have H := Lib.hid hr
  have HF := Lib.hid hf
  have HX := Lib.hid hx
  have HB := Lib.hid ((Below.refl w.heap.size w).alloc (Nat.le_refl _) (.cells #[.int .i64 x.id, .string x.nm, .string x.cl, .int .i64 x.bo, .bool x.wo, .int .i64 x.ca] 25))
  have HK := Lib.hid (Blk.new w 25 #[.int .i64 x.id, .string x.nm, .string x.cl, .int .i64 x.bo, .bool x.wo, .int .i64 x.ca])
  have hml : rs.length ≤ maxLen := by unfold maxLen; omega
  obtain ⟨g, hg⟩ : ∃ g, goodB rs = g := ⟨_, rfl⟩
  have c1 := Lib.hid (fun w hr => hg ▸ RuA.impl_any a cap rs w hc hr hf hml)
  have HG := Lib.hid hg
  obtain ⟨ok, hok⟩ : ∃ ok, adB rs x = ok := ⟨_, rfl⟩
  obtain ⟨zs, hzs⟩ : ∃ zs, adL rs x = zs := ⟨_, rfl⟩
  have HO := Lib.hid hok
  have HZ := Lib.hid hzs
  rw [hok, hzs]
  obtain ⟨n, hn⟩ : ∃ n, rs.length = n := ⟨_, rfl⟩
  have HN := Lib.hid hn
  rw [hn] at hl hml c1 ⊢
  clear hr hg hf hx hok hzs hn
  go_enter Tryd.func14, Tryd.ntmps14
  go_wp2_with fail
  refine (c1.out _ (H.out.later ((Below.refl w.heap.size w).alloc (Nat.le_refl _) _))).mono ?_
  rintro e w1 ⟨rfl, hb⟩
  have HB1 := Lib.hid (HB.out.trans (hb.mono HB.out.size))
  have HK1 := Lib.hid (HK.out.later hb)
  clear hb HB HK
  obtain ⟨⟨p0, p1, p2, p3, p4, p5⟩, -⟩ := blk_cells HK1.out
  have hsz := HB1.out.size
  cases g with
  | false =>
    have h1 : ok = false := by rw [← HO.out]; unfold adB; rw [HG.out]; rfl
    have h2 : zs = [] := by rw [← HZ.out]; unfold adL; rw [HO.out, h1]; rfl
    subst h1 h2
    go_wp2
    go_ret2
    exact ⟨_, rfl, own_none w1 w.heap.size hsz, HB1.out.alloc hsz _⟩
  | true =>
    obtain ⟨k, hk⟩ : ∃ k, pl rs x.id = k := ⟨_, rfl⟩
    have c2 := Lib.hid (fun w hr => hk ▸ place_any rs (by rw [HN.out]; exact hl) (good_asc HG.out) x.id (pl rs x.id) (plc_pl (good_asc HG.out) x.id) a cap w hr)
    have HP := Lib.hid hk
    have hkn : k ≤ n := by rw [← hk, ← HN.out]; exact pl_le rs x.id
    rw [HN.out] at c2
    obtain ⟨f, hfq⟩ : ∃ f, fndB rs x.id k = f := ⟨_, rfl⟩
    rw [hfq] at c2
    clear hk hfq
    go_wp2_with fail
    refine (c2.out _ (H.out.later HB1.out)).mono ?_
    rintro e w2 ⟨rfl, hb⟩
    have HB2 := Lib.hid (HB1.out.trans (hb.mono hsz))
    have HK2 := Lib.hid (HK1.out.later hb)
    clear hb p0 p1 p2 p3 p4 p5 HK1
    obtain ⟨⟨p0, p1, p2, p3, p4, p5⟩, -⟩ := blk_cells HK2.out
    have hsz2 := HB2.out.size
    have c4 := Lib.hid (clone_all a cap rs (by rw [HN.out]; exact hl))
    rw [HN.out] at c4
    go_upto_region 4 with (fail)
    have hzn := HK2.out.lt
    refine wp_region_noPanic ?_
    refine wp_region_held_drew (S := (fun Wx : World => Wx.cell? ⟨w.heap.size, 0, none⟩ = some (.int .i64 x.id) ∧ Wx.cell? ⟨w.heap.size, 1, none⟩ = some (.string x.nm) ∧ Wx.cell? ⟨w.heap.size, 2, none⟩ = some (.string x.cl) ∧ Wx.cell? ⟨w.heap.size, 3, none⟩ = some (.int .i64 x.bo) ∧ Wx.cell? ⟨w.heap.size, 4, none⟩ = some (.bool x.wo) ∧ Wx.cell? ⟨w.heap.size, 5, none⟩ = some (.int .i64 x.ca))) (by kernel_rfl) ⟨p0, p1, p2, p3, p4, p5⟩ (fun hHeld => ?_)
    refine wpAnyH_take (i := 0) (oi := _) (v := ?_) rfl (by kernel_rfl) (by kernel_rfl) (by kernel_rfl) (fun _ _ _ h => h) (Or.inl ⟨by rfl, ?_⟩) (by assumption) ?_; rotate_left; focus (intro W hSw; (try dsimp only at hSw); go_simp; (first | done | with_reducible rfl))
    (try simp only [List.getElem_toArray, List.getElem_cons_succ, List.getElem_cons_zero, Act.put, List.setIfInBounds_toArray, List.set_cons_zero, List.set_cons_succ])
    refine wpAnyH_take (i := 2) (oi := _) (v := ?_) rfl (by kernel_rfl) (by kernel_rfl) (by kernel_rfl) (fun _ _ _ h => h) (Or.inl ⟨by rfl, ?_⟩) (by assumption) ?_; rotate_left; focus (intro W hSw; (try dsimp only at hSw); go_simp; (first | done | with_reducible rfl))
    (try simp only [List.getElem_toArray, List.getElem_cons_succ, List.getElem_cons_zero, Act.put, List.setIfInBounds_toArray, List.set_cons_zero, List.set_cons_succ])
    refine wpAnyH_take (i := 3) (oi := _) (v := ?_) rfl (by kernel_rfl) (by kernel_rfl) (by kernel_rfl) (fun _ _ _ h => h) (Or.inl ⟨by rfl, ?_⟩) (by assumption) ?_; rotate_left; focus (intro W hSw; (try dsimp only at hSw); go_simp; (first | done | with_reducible rfl))
    (try simp only [List.getElem_toArray, List.getElem_cons_succ, List.getElem_cons_zero, Act.put, List.setIfInBounds_toArray, List.set_cons_zero, List.set_cons_succ])
    refine wpAnyH_ready (rs := [1, 4]) (by kernel_rfl) (by simp) ?_
    refine AllReadyH.cons (o := _) rfl (fun K hK => ?_) (AllReadyH.cons (o := _) rfl (fun K hK => ?_) (AllReadyH.nil))
    · go_simp
      go_at_call 44
      refine (c4.out w2.drew (Row.drew (H.out.later HB2.out))).mono ?_
      rintro e w3 ⟨v, rfl, ho, hb⟩
      have HB3 := Lib.hid (show Below w.heap.size w w3 from HB2.out.drew.trans (hb.mono HB2.out.size))
      have HK3 := Lib.hid (show Blk w3 w.heap.size 25 #[.int .i64 x.id, .string x.nm, .string x.cl, .int .i64 x.bo, .bool x.wo, .int .i64 x.ca] from HK2.out.drew.later hb)
      have HOc := Lib.hid (show Own w3 w2.heap.size v rs from ho)
      have HO3 := Lib.hid (show Own w3 w.heap.size v rs from ho.rebase HB2.out.size)
      clear ho hb
      go_wp2_with fail
      refine hK.out _ _ (blk_cells HK3.out).1 (fun _ => ?_)
      clear hK K hHeld
      refine wpAnyH_ready (rs := [4]) (by kernel_rfl) (by simp) ?_
      refine AllReadyH.cons (o := _) rfl (fun K hK => ?_) AllReadyH.nil
      go_simp
      have HK3' := Lib.hid (HK3.out.alloc (.cells #[.int .i64 x.id, .string x.nm, .string x.cl, .int .i64 x.bo, .bool x.wo, .int .i64 x.ca] 25))
      have HB3' := Lib.hid (HB3.out.alloc HB3.out.size (.cells #[.int .i64 x.id, .string x.nm, .string x.cl, .int .i64 x.bo, .bool x.wo, .int .i64 x.ca] 25))
      have HO3' := Lib.hid (HO3.out.below ((Below.refl _ _).alloc (Nat.le_refl _) (.cells #[.int .i64 x.id, .string x.nm, .string x.cl, .int .i64 x.bo, .bool x.wo, .int .i64 x.ca] 25)))
      have HN3 := Lib.hid (Blk.new w3 25 #[.int .i64 x.id, .string x.nm, .string x.cl, .int .i64 x.bo, .bool x.wo, .int .i64 x.ca])
      refine hK.out _ _ (blk_cells HK3'.out).1 (fun _ => ?_)
      clear hK K
      refine wpAnyH_ready (rs := [5]) (by kernel_rfl) (by simp) ?_
      refine AllReadyH.cons (o := _) rfl (fun K hK => ?_) AllReadyH.nil
      go_simp
      go_at_call 43
      refine (ins_own w.heap.size v rs k (by rw [HN.out]; exact hkn) (by rw [HN.out]; exact hl) x w3.heap.size _ _ HO3'.out HB3'.out.size HN3.out (fun e => Nat.lt_irrefl _ (HO3.out.own_lt e))).mono ?_
      rintro e w4 ⟨v', rfl, ho, hgr⟩
      have HB4 := Lib.hid (HB3'.out.grown hgr HB3'.out.size (fun q e => HO3.out.own_ge e))
      have HO4 := Lib.hid ho
      have HK4 := Lib.hid (HK3'.out.grown hgr (fun e => absurd hzn (Nat.not_lt.2 (HOc.out.own_ge e))))
      clear ho hgr
      go_wp2_with fail
      refine hK.out _ _ (blk_cells HK4.out).1 (fun _ => ?_)
      clear hK K
      refine wpAnyH_take (i := 6) (oi := _) (v := ?_) rfl (by kernel_rfl) (by kernel_rfl) (by kernel_rfl) (fun _ _ _ h => h) (Or.inl ⟨by rfl, ?_⟩) (by assumption) ?_; rotate_left; focus (intro W hSw; (try dsimp only at hSw); go_simp; (first | done | with_reducible rfl))
      (try simp only [List.getElem_toArray, List.getElem_cons_succ, List.getElem_cons_zero, Act.put, List.setIfInBounds_toArray, List.set_cons_zero, List.set_cons_succ])
      refine wpAnyH_done (by kernel_rfl) ?_ _
      refine NoPanic.normal ?_
      (try simp only [List.getElem_toArray, List.getElem_cons_succ, List.getElem_cons_zero, Act.put, List.setIfInBounds_toArray, List.set_cons_zero, List.set_cons_succ])
      go_wp2_with fail
      refine (tail_any rs HF.out x HX.out (by rw [HN.out]; exact hl) k HP.out w4 v' HO4.out).mono ?_
      rintro e w5 ⟨rfl, hb⟩
      have HB5 := Lib.hid (HB4.out.trans (hb.mono HB4.out.size))
      have HO5 := Lib.hid (HO4.out.below hb)
      clear hb
      obtain ⟨g2, hg2⟩ : ∃ g, goodB (insR rs x) = g := ⟨_, rfl⟩
      have HG2 := Lib.hid hg2
      rw [hg2]
      clear hg2
      cases g2 with
      | false =>
        have h1 : ok = false := by rw [← HO.out]; unfold adB; rw [HG2.out, Bool.and_false]
        have h2 : zs = [] := by rw [← HZ.out]; unfold adL; rw [HO.out, h1]; rfl
        subst h1 h2
        go_wp2
        go_ret2
        exact ⟨_, rfl, own_none w5 w.heap.size HB5.out.size, HB5.out.alloc HB5.out.size _⟩
      | true =>
        have h1 : ok = true := by rw [← HO.out]; unfold adB; rw [HG.out, HG2.out]; rfl
        have h2 : insR rs x = zs := by rw [← HZ.out]; unfold adL; rw [HO.out, h1]; rfl
        have HO6 := Lib.hid (show Own w5 w.heap.size v' zs from by rw [← h2]; unfold insR; rw [HP.out]; exact HO5.out)
        subst h1
        clear h2
        go_wp2
        go_ret2
        exact ⟨_, rfl, HO6.out, HB5.out⟩
    · go_simp
      have HK3 := Lib.hid (HK2.out.drew.alloc (.cells #[.int .i64 x.id, .string x.nm, .string x.cl, .int .i64 x.bo, .bool x.wo, .int .i64 x.ca] 25))
      have HB3 := Lib.hid (HB2.out.drew.alloc HB2.out.size (.cells #[.int .i64 x.id, .string x.nm, .string x.cl, .int .i64 x.bo, .bool x.wo, .int .i64 x.ca] 25))
      have HN3 := Lib.hid (Blk.new w2.drew 25 #[.int .i64 x.id, .string x.nm, .string x.cl, .int .i64 x.bo, .bool x.wo, .int .i64 x.ca])
      refine hK.out _ _ (blk_cells HK3.out).1 (fun _ => ?_)
      clear hK K hHeld
      refine wpAnyH_ready (rs := [1]) (by kernel_rfl) (by simp) ?_
      refine AllReadyH.cons (o := _) rfl (fun K hK => ?_) AllReadyH.nil
      go_simp
      go_at_call 44
      refine (c4.out _ ((Row.drew (H.out.later HB2.out)).later ((Below.refl _ _).alloc (Nat.le_refl _) (.cells #[.int .i64 x.id, .string x.nm, .string x.cl, .int .i64 x.bo, .bool x.wo, .int .i64 x.ca] 25)))).mono ?_
      rintro e w3 ⟨v, rfl, ho, hb⟩
      have HB3' := Lib.hid (show Below w.heap.size w w3 from HB3.out.trans (hb.mono HB3.out.size))
      have HK3' := Lib.hid (show Blk w3 w.heap.size 25 #[.int .i64 x.id, .string x.nm, .string x.cl, .int .i64 x.bo, .bool x.wo, .int .i64 x.ca] from HK3.out.later hb)
      have HN3' := Lib.hid (show Blk w3 w2.heap.size 25 #[.int .i64 x.id, .string x.nm, .string x.cl, .int .i64 x.bo, .bool x.wo, .int .i64 x.ca] from HN3.out.later hb)
      have HO3 := Lib.hid ho
      have HO3' := Lib.hid (show Own w3 w.heap.size v rs from ho.rebase HB3.out.size)
      clear ho hb
      go_wp2_with fail
      refine hK.out _ _ (blk_cells HK3'.out).1 (fun _ => ?_)
      clear hK K
      refine wpAnyH_ready (rs := [5]) (by kernel_rfl) (by simp) ?_
      refine AllReadyH.cons (o := _) rfl (fun K hK => ?_) AllReadyH.nil
      go_simp
      go_at_call 43
      refine (ins_own w.heap.size v rs k (by rw [HN.out]; exact hkn) (by rw [HN.out]; exact hl) x w2.heap.size _ _ HO3'.out HB3'.out.size HN3'.out (fun e => absurd HN3.out.lt (Nat.not_lt.2 (HO3.out.own_ge e)))).mono ?_
      rintro e w4 ⟨v', rfl, ho, hgr⟩
      have HB4 := Lib.hid (HB3'.out.grown hgr HB3'.out.size (fun q e => HO3'.out.own_ge e))
      have HO4 := Lib.hid ho
      have HK4 := Lib.hid (HK3'.out.grown hgr (fun e => absurd HK3.out.lt (Nat.not_lt.2 (HO3.out.own_ge e))))
      clear ho hgr
      go_wp2_with fail
      refine hK.out _ _ (blk_cells HK4.out).1 (fun _ => ?_)
      clear hK K
      refine wpAnyH_take (i := 6) (oi := _) (v := ?_) rfl (by kernel_rfl) (by kernel_rfl) (by kernel_rfl) (fun _ _ _ h => h) (Or.inl ⟨by rfl, ?_⟩) (by assumption) ?_; rotate_left; focus (intro W hSw; (try dsimp only at hSw); go_simp; (first | done | with_reducible rfl))
      (try simp only [List.getElem_toArray, List.getElem_cons_succ, List.getElem_cons_zero, Act.put, List.setIfInBounds_toArray, List.set_cons_zero, List.set_cons_succ])
      refine wpAnyH_done (by kernel_rfl) ?_ _
      refine NoPanic.normal ?_
      (try simp only [List.getElem_toArray, List.getElem_cons_succ, List.getElem_cons_zero, Act.put, List.setIfInBounds_toArray, List.set_cons_zero, List.set_cons_succ])
      go_wp2_with fail
      refine (tail_any rs HF.out x HX.out (by rw [HN.out]; exact hl) k HP.out w4 v' HO4.out).mono ?_
      rintro e w5 ⟨rfl, hb⟩
      have HB5 := Lib.hid (HB4.out.trans (hb.mono HB4.out.size))
      have HO5 := Lib.hid (HO4.out.below hb)
      clear hb
      obtain ⟨g2, hg2⟩ : ∃ g, goodB (insR rs x) = g := ⟨_, rfl⟩
      have HG2 := Lib.hid hg2
      rw [hg2]
      clear hg2
      cases g2 with
      | false =>
        have h1 : ok = false := by rw [← HO.out]; unfold adB; rw [HG2.out, Bool.and_false]
        have h2 : zs = [] := by rw [← HZ.out]; unfold adL; rw [HO.out, h1]; rfl
        subst h1 h2
        go_wp2
        go_ret2
        exact ⟨_, rfl, own_none w5 w.heap.size HB5.out.size, HB5.out.alloc HB5.out.size _⟩
      | true =>
        have h1 : ok = true := by rw [← HO.out]; unfold adB; rw [HG.out, HG2.out]; rfl
        have h2 : insR rs x = zs := by rw [← HZ.out]; unfold adL; rw [HO.out, h1]; rfl
        have HO6 := Lib.hid (show Own w5 w.heap.size v' zs from by rw [← h2]; unfold insR; rw [HP.out]; exact HO5.out)
        subst h1
        clear h2
        go_wp2
        go_ret2
        exact ⟨_, rfl, HO6.out, HB5.out⟩

end Go.Proofs.YtjngnjokbnklfaaDoor.AdI
