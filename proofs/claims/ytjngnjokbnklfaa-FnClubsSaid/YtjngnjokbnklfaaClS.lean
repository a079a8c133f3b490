/- The clubs of a list: the model's text. -/
import Derived.Test.YtjngnjokbnklfaaClM
import Derived.Test.YtjngnjokbnklfaaStrA
import Derived.Test.YtjngnjokbnklfaaA3
import Derived.Test.YtjngnjokbnklfaaRuH
import Derived.Deep.RegionHeld3
import Derived.Deep.LoopGhost
namespace Go.Proofs.Ytjngnjokbnklfaa.ClS
open Go.RowKit Lb Bk InA Wd RuK RuI RuU RuA RuG RuC ClM
set_option linter.unusedSimpArgs false
set_option linter.unusedVariables false

theorem info : (Try.prog.info? 9).map (fun i => (i.zero, i.size, i.bytes)) = some (some (Value.string ⟨#[]⟩), 1, 16) := by kernel_rfl
theorem str_one (cs : List ByteArray) : ∀ u ∈ cs.map Value.string, u.oneCell' = true := by
  intro u hu
  obtain ⟨c, _, rfl⟩ := List.mem_map.1 hu
  rfl
theorem str_cell {w : World} {base g m cp : Nat} {cs : List ByteArray} (h : StrK.Own w base (.slice (some ⟨g, 0, none⟩) m cp) cs) {k : Nat} (hk : k < cs.length) (d : ByteArray) : w.cell? ⟨g, k, none⟩ = some (.string (cs.getD k d)) := by
  have h' := h
  unfold StrK.Own at h'
  have e : m = cs.length := by
    rcases h'.2 with ⟨e, _⟩ | ⟨_, _, _, e, _⟩
    · cases e
    · exact (Value.slice.inj e).2.1
  subst e
  rw [World.ownsRow.cellAt h' k (by omega)]
  simp [hk]
theorem news_take {w W' : World} {base g m cp : Nat} {cs : List ByteArray} (h : StrK.Own w base (.slice (some ⟨g, 0, none⟩) m cp) cs) (hb : Below w.heap.size w W') (k : Nat) : ∀ j u, ((cs.take k).map Value.string)[j]? = some u → W'.cell? ((⟨g, 0, none⟩ : Addr).add j) = some u := by
  intro j u hj
  have hjl : j < cs.length := by
    have := (List.getElem?_eq_some_iff.1 hj).1
    rw [List.length_map, List.length_take] at this
    omega
  have hjk : j < k := by
    have := (List.getElem?_eq_some_iff.1 hj).1
    rw [List.length_map, List.length_take] at this
    omega
  have hc := str_cell h hjl ⟨#[]⟩
  rw [show (⟨g, 0, none⟩ : Addr).add j = ⟨g, j, none⟩ from by unfold Addr.add; split <;> simp_all, hb.cell (World.block_lt_of_cell? w _ hc), hc]
  simp [hjl, hjk] at hj ⊢
  exact hj
theorem news_drop {w W' : World} {base g m cp : Nat} {cs : List ByteArray} (h : StrK.Own w base (.slice (some ⟨g, 0, none⟩) m cp) cs) (hb : Below w.heap.size w W') (k : Nat) : ∀ j u, ((cs.drop k).map Value.string)[j]? = some u → W'.cell? ((⟨g, k, none⟩ : Addr).add j) = some u := by
  intro j u hj
  have hjl : k + j < cs.length := by
    have := (List.getElem?_eq_some_iff.1 hj).1
    rw [List.length_map, List.length_drop] at this
    omega
  have hc := str_cell h hjl ⟨#[]⟩
  rw [show (⟨g, k, none⟩ : Addr).add j = ⟨g, k + j, none⟩ from by unfold Addr.add; split <;> simp_all, hb.cell (World.block_lt_of_cell? w _ hc), hc]
  simp [hjl] at hj ⊢
  exact hj
theorem own_fin {W wF : World} {v : Value} {cs : List ByteArray} {c : ByteArray} {base m k d : Nat} (h : A3.G3 W 9 1 wF v (0 + k + 1 + d) (([] ++ (cs.take k).map Value.string ++ [c].map Value.string) ++ (cs.drop k).map Value.string)) (hb : base ≤ W.heap.size) (hm : cs.length = m) (hk : k ≤ m) (hp : plc cs c = k) (hf : hasB cs c = false) (hd : d = m - k) :
    ∃ g cp, v = .slice (some ⟨g, 0, none⟩) (insC cs c).length cp ∧ StrK.Own wF base (.slice (some ⟨g, 0, none⟩) (insC cs c).length cp) (insC cs c) := by
  have e : insC cs c = cs.take k ++ [c] ++ cs.drop k := by unfold insC; rw [hf, hp]; rfl
  have hl : (insC cs c).length = 0 + k + 1 + d := by rw [e]; simp only [List.length_append, List.length_take, List.length_drop, List.length_cons, List.length_nil]; omega
  have h1 := h.own
  rw [List.nil_append, ← List.map_append, ← List.map_append, ← e, ← hl] at h1
  rcases h1.2 with ⟨_, h0⟩ | ⟨g, cap, cur, hv, hg, r⟩
  · omega
  · refine ⟨g, cap, hv, ?_⟩
    subst hv
    exact ⟨h1.1, .inr ⟨g, cap, cur, rfl, Nat.le_trans hb hg, r⟩⟩

set_option maxRecDepth 20000 in
set_option maxHeartbeats 8000000 in
theorem clubs_any (rs : List Ru) (hl : rs.length ≤ 1048576) (a : Option Addr) (cap : Nat) (w : World) (hr : Row w a rs) :
    Calls Try.prog 96 #[.slice a rs.length cap] w fun e w' => ∃ v, e = .returned v ∧ StrK.Own w' w.heap.size v (clubL rs) ∧ Below w.heap.size w w' := by
  obtain ⟨t0, hi0, hz0, hz1, hz2⟩ := info_parts info
  have H := Lib.hid hr
  obtain ⟨n, hn⟩ : ∃ n, rs.length = n := ⟨_, rfl⟩
  have HN := Lib.hid hn
  rw [hn] at hl ⊢
  have HO0 := Lib.hid (show StrK.Own (w.alloc (.cells #[] 9)) w.heap.size (.slice (some ⟨w.heap.size, 0, none⟩) 0 0) [] from World.ownsRow_made w #[] 0 (Nat.le_refl _) (Nat.zero_le _) rfl)
  have HB0 := Lib.hid ((Below.refl w.heap.size w).alloc (Nat.le_refl _) (.cells #[] 9))
  clear hr hn
  go_enter Try.func96, Try.ntmps96
  go_wp2_with fail
  go_loopg [4, 3, 5] n (fun gk s v _ wr => ∃ (i : Nat) (cs : List ByteArray) (g cp : Nat), i ≤ n ∧ gk = n - i ∧ s = .int .i64 i ∧ v = .slice (some ⟨g, 0, none⟩) cs.length cp ∧ cs = clubL (rs.take i) ∧ StrK.Own wr w.heap.size (.slice (some ⟨g, 0, none⟩) cs.length cp) cs ∧ Below w.heap.size w wr)
  case atStart => exact ⟨0, [], w.heap.size, 0, Nat.zero_le _, rfl, rfl, rfl, rfl, HO0.out, HB0.out⟩
  case round =>
    clear HO0 HB0
    obtain ⟨i, cs, g, cp, hi, hgk, rfl, rfl, hcs, hO, hB⟩ := hrel
    have HC := Lib.hid hcs
    have HB := Lib.hid hB
    obtain ⟨m, hm⟩ : ∃ m, cs.length = m := ⟨_, rfl⟩
    rw [hm] at hO ⊢
    have HO := Lib.hid hO
    have HM := Lib.hid hm
    have hmi : m ≤ i := by rw [← hm, hcs]; exact club_len i rs
    clear hcs hB hO hm
    by_cases hin : i < n
    · have HRr := Lib.hid (H.out.later HB.out)
      obtain ⟨b, off, rfl, -, -, cc, -⟩ := HRr.out.cells (i := i) (by rw [HN.out]; exact hin)
      obtain ⟨c, hc⟩ : ∃ c, (at_ rs i).cl = c := ⟨_, rfl⟩
      rw [hc] at cc
      obtain ⟨k, hk⟩ : ∃ k, plc cs c = k := ⟨_, rfl⟩
      have HP := Lib.hid hk
      have hkm : k ≤ m := by rw [← hk, ← HM.out]; exact plc_le cs c
      have HNx := Lib.hid (show insC cs c = clubL (rs.take (i + 1)) from by rw [club_take (by rw [HN.out]; exact hin), ← HC.out, hc])
      clear hk hc
      go_upto_region 5 with (fail)
      go_wp2
      go_loopg [5] k (fun gj s wx => ∃ j q : Nat, j ≤ k ∧ gj = k - j ∧ s = .int .i64 j ∧ wx = wr.drewN q)
      case atStart => exact ⟨0, 0, Nat.zero_le _, rfl, rfl, rfl⟩
      case round =>
        obtain ⟨j, q, hj, hgj, rfl, rfl⟩ := hrel
        by_cases hlt : j < k
        · have o0 := str_cell HO.out (k := j) (by rw [HM.out]; omega) c
          obtain ⟨x, hx⟩ : ∃ x, cs.getD j c = x := ⟨_, rfl⟩
          have d1 : Op.bytesLess x.toList c.toList = true := by
            have := plc_lt (cs := cs) (c := c) (j := j) (by rw [HP.out]; exact hlt)
            rw [hx] at this
            exact this
          rw [hx] at o0
          have hjm : j < m := by omega
          clear hx
          go_upto_region 6 with (fail)
          go_region
          go_wp2
          go_roundg (k - (j + 1))
          case measure => omega
          case rel => exact ⟨j + 1, _, by omega, rfl, by go_num, rfl⟩
        · obtain rfl : k = j := by omega
          clear hlt hj hgj
          by_cases hkl : k < m
          · have o0 := str_cell HO.out (k := k) (by rw [HM.out]; omega) c
            obtain ⟨x, hx⟩ : ∃ x, cs.getD k c = x := ⟨_, rfl⟩
            have d1 : Op.bytesLess x.toList c.toList = false := by
              have := plc_at (cs := cs) (c := c) (by rw [HP.out, HM.out]; exact hkl)
              rw [HP.out, hx] at this
              exact this
            have hd3 : ((k : Int) == (m : Int)) = false := by simp; omega
            have hkne : ¬ (k = m) := by omega
            rw [hx] at o0
            by_cases hxc : x = c
            · have HF := Lib.hid (show hasB cs c = true from decide_eq_true ⟨by rw [HP.out, HM.out]; exact hkl, by rw [HP.out, hx]; exact hxc⟩)
              have HNy := Lib.hid (show cs = clubL (rs.take (i + 1)) from by rw [← HNx.out]; unfold insC; rw [HF.out]; rfl)
              have d2 : (x.toList == c.toList) = true := by rw [hxc]; simp
              have HBq := Lib.hid (Bk.below_drewN HB.out (q + 2))
              have HOq := Lib.hid (show StrK.Own (wr.drewN (q + 2)) w.heap.size (.slice (some ⟨g, 0, none⟩) m cp) cs from StrK.Own.below HO.out (Bk.below_drewN (Below.refl _ _) (q + 2)))
              clear hx hxc
              go_upto_region 6 with (fail)
              go_region
              go_upto_region 8 with (fail)
              go_region
              go_wp2
              go_roundg (n - (i + 1))
              case measure => omega
              case rel => exact ⟨i + 1, cs, g, cp, by omega, rfl, by go_num, by rw [HM.out], HNy.out, by rw [HM.out]; exact HOq.out, HBq.out⟩
            · have HF := Lib.hid (show hasB cs c = false from decide_eq_false (fun h => hxc (by rw [← hx, ← HP.out]; exact h.2)))
              have d2 : (x.toList == c.toList) = false := by
                rw [beq_eq_false_iff_ne]
                exact fun h => hxc (eq_of_toList h)
              clear hx hxc
              go_upto_region 6 with (fail)
              go_region
              go_upto_region 8 with (fail)
              go_region
              go_upto_region 9 with (fail)
              have HBq := Lib.hid (show Below w.heap.size w (wr.drewN (q + 2)) from Bk.below_drewN HB.out (q + 2))
              have HOq := Lib.hid (show StrK.Own (wr.drewN (q + 2)) w.heap.size (.slice (some ⟨g, 0, none⟩) m cp) cs from StrK.Own.below HO.out (Bk.below_drewN (Below.refl _ _) (q + 2)))
              have HRq := Lib.hid (show RuK.Row (wr.drewN (q + 2)) (some ⟨b, off, none⟩) rs from HRr.out.later (Bk.below_drewN (Below.refl _ _) (q + 2)))
              have cq : (wr.drewN (q + 2)).cell? ⟨b, off + i * 6 + 2, none⟩ = some (.string c) := cc
              clear cc
              generalize wr.drewN (q + 2) = wq at *
              have cc := cq
              clear cq
              have hF : hasB cs c = false := HF.out
              have hTl : ((cs.take k).map Value.string).length = k * 1 := by rw [List.length_map, List.length_take, HM.out, Nat.min_eq_left hkm, Nat.mul_one]
              have hDl : ((cs.drop k).map Value.string).length = (m - k) * 1 := by rw [List.length_map, List.length_drop, HM.out, Nat.mul_one]
              have hne : ¬ (cp = k) := by have := StrK.Own.le HOq.out; rw [HM.out] at this; omega
              have hkc : k ≤ cp := by have := StrK.Own.le HOq.out; rw [HM.out] at this; omega
              have HTk := Lib.hid (fun W' (hW : Below wq.heap.size wq W') => news_take HOq.out hW k)
              have HDr := Lib.hid (fun W' (hW : Below wq.heap.size wq W') => news_drop HOq.out hW k)
              refine wp_region_noPanic ?_
              refine wp_region_held_drew (S := (fun Wx : World => Wx.cell? ⟨b, off + i * 6 + 2, none⟩ = some (.string c))) (by kernel_rfl) cc (fun hHeld => ?_)
              refine wpAnyH_take (i := 1) (oi := _) (v := ?_) rfl (by kernel_rfl) (by kernel_rfl) (by kernel_rfl) (fun _ _ _ h => h) (Or.inl ⟨by rfl, ?_⟩) (by assumption) ?_; rotate_left; focus (intro W hSw; (try dsimp only at hSw); go_simp; (first | done | with_reducible rfl))
              (try simp only [List.getElem_toArray, List.getElem_cons_succ, List.getElem_cons_zero, Act.put, List.setIfInBounds_toArray, List.set_cons_zero, List.set_cons_succ])
              refine wpAnyH_take (i := 2) (oi := _) (v := ?_) rfl (by kernel_rfl) (by kernel_rfl) (by kernel_rfl) (fun _ _ _ h => h) (Or.inl ⟨by rfl, ?_⟩) (by assumption) ?_; rotate_left; focus (intro W hSw; (try dsimp only at hSw); go_simp; (first | done | with_reducible rfl))
              (try simp only [List.getElem_toArray, List.getElem_cons_succ, List.getElem_cons_zero, Act.put, List.setIfInBounds_toArray, List.set_cons_zero, List.set_cons_succ])
              refine wpAnyH_take (i := 3) (oi := _) (v := ?_) rfl (by kernel_rfl) (by kernel_rfl) (by kernel_rfl) (fun _ _ _ h => h) (Or.inl ⟨by rfl, ?_⟩) (by assumption) ?_; rotate_left; focus (intro W hSw; (try dsimp only at hSw); go_simp; (first | done | with_reducible rfl))
              (try simp only [List.getElem_toArray, List.getElem_cons_succ, List.getElem_cons_zero, Act.put, List.setIfInBounds_toArray, List.set_cons_zero, List.set_cons_succ])
              refine wpAnyH_take (i := 5) (oi := _) (v := ?_) rfl (by kernel_rfl) (by kernel_rfl) (by kernel_rfl) (fun _ _ _ h => h) (Or.inl ⟨by rfl, ?_⟩) (by assumption) ?_; rotate_left; focus (intro W hSw; (try dsimp only at hSw); go_simp; (first | done | with_reducible rfl))
              (try simp only [List.getElem_toArray, List.getElem_cons_succ, List.getElem_cons_zero, Act.put, List.setIfInBounds_toArray, List.set_cons_zero, List.set_cons_succ])
              refine wpAnyH_take (i := 6) (oi := _) (v := ?_) rfl (by kernel_rfl) (by kernel_rfl) (by kernel_rfl) (fun _ _ _ h => h) (Or.inl ⟨by rfl, ?_⟩) (by assumption) ?_; rotate_left; focus (intro W hSw; (try dsimp only at hSw); go_simp; (first | done | with_reducible rfl))
              (try simp only [List.getElem_toArray, List.getElem_cons_succ, List.getElem_cons_zero, Act.put, List.setIfInBounds_toArray, List.set_cons_zero, List.set_cons_succ])
              refine wpAnyH_take (i := 7) (oi := _) (v := ?_) rfl (by kernel_rfl) (by kernel_rfl) (by kernel_rfl) (fun _ _ _ h => h) (Or.inl ⟨by rfl, ?_⟩) (by assumption) ?_; rotate_left; focus (intro W hSw; (try dsimp only at hSw); go_simp; (first | done | with_reducible rfl))
              (try simp only [List.getElem_toArray, List.getElem_cons_succ, List.getElem_cons_zero, Act.put, List.setIfInBounds_toArray, List.set_cons_zero, List.set_cons_succ])
              refine wpAnyH_take (i := 8) (oi := _) (v := ?_) rfl (by kernel_rfl) (by kernel_rfl) (by kernel_rfl) (fun _ _ _ h => h) (Or.inl ⟨by rfl, ?_⟩) (by assumption) ?_; rotate_left; focus (intro W hSw; (try dsimp only at hSw); go_simp; (first | done | with_reducible rfl))
              (try simp only [List.getElem_toArray, List.getElem_cons_succ, List.getElem_cons_zero, Act.put, List.setIfInBounds_toArray, List.set_cons_zero, List.set_cons_succ])
              refine wpAnyH_take (i := 9) (oi := _) (v := ?_) rfl (by kernel_rfl) (by kernel_rfl) (by kernel_rfl) (fun _ _ _ h => h) (Or.inl ⟨by rfl, ?_⟩) (by assumption) ?_; rotate_left; focus (intro W hSw; (try dsimp only at hSw); go_simp; (first | done | with_reducible rfl))
              (try simp only [List.getElem_toArray, List.getElem_cons_succ, List.getElem_cons_zero, Act.put, List.setIfInBounds_toArray, List.set_cons_zero, List.set_cons_succ])
              refine wpAnyH_take (i := 12) (oi := _) (v := ?_) rfl (by kernel_rfl) (by kernel_rfl) (by kernel_rfl) (fun _ _ _ h => h) (Or.inl ⟨by rfl, ?_⟩) (by assumption) ?_; rotate_left; focus (intro W hSw; (try dsimp only at hSw); go_simp; (first | done | with_reducible rfl))
              (try simp only [List.getElem_toArray, List.getElem_cons_succ, List.getElem_cons_zero, Act.put, List.setIfInBounds_toArray, List.set_cons_zero, List.set_cons_succ])
              refine wpAnyH_take (i := 13) (oi := _) (v := ?_) rfl (by kernel_rfl) (by kernel_rfl) (by kernel_rfl) (fun _ _ _ h => h) (Or.inl ⟨by rfl, ?_⟩) (by assumption) ?_; rotate_left; focus (intro W hSw; (try dsimp only at hSw); go_simp; (first | done | with_reducible rfl))
              (try simp only [List.getElem_toArray, List.getElem_cons_succ, List.getElem_cons_zero, Act.put, List.setIfInBounds_toArray, List.set_cons_zero, List.set_cons_succ])
              refine wpAnyH_take (i := 14) (oi := _) (v := ?_) rfl (by kernel_rfl) (by kernel_rfl) (by kernel_rfl) (fun _ _ _ h => h) (Or.inl ⟨by rfl, ?_⟩) (by assumption) ?_; rotate_left; focus (intro W hSw; (try dsimp only at hSw); go_simp; (first | done | with_reducible rfl))
              (try simp only [List.getElem_toArray, List.getElem_cons_succ, List.getElem_cons_zero, Act.put, List.setIfInBounds_toArray, List.set_cons_zero, List.set_cons_succ])
              refine wpAnyH_ready (rs := [0, 10]) (by kernel_rfl) (by simp) ?_
              refine AllReadyH.cons (o := _) rfl (fun K hK => ?_) (AllReadyH.cons (o := _) rfl (fun K hK => ?_) (AllReadyH.nil))
              · go_simp
                have HG0 := Lib.hid (A3.G3.start wq 9 1)
                (try simp only [Act.put, List.setIfInBounds_toArray, List.set_cons_zero, List.set_cons_succ])
                refine hK.out _ _ ((HG0.out.b).cell (World.block_lt_of_cell? wq _ cc) |>.trans cc) (fun _ => ?_)
                clear hK K hHeld
                refine wpAnyH_ready (rs := [4, 10]) (by kernel_rfl) (by simp) ?_
                refine AllReadyH.cons (o := _) rfl (fun K hK => ?_) (AllReadyH.cons (o := _) rfl (fun K hK => ?_) (AllReadyH.nil))
                · skip
                  rw [if_pos (by rfl)]
                  refine HG0.out.wp (.tmp 47) (.tmp 50) 50 rfl Try.underlying50 t0 hi0 (Value.string ⟨#[]⟩) hz0 16 hz1 hz2 rfl (by decide) (by rfl) (⟨g, 0, none⟩) (k) (_) ((cs.take k).map Value.string) (by (try simp only [Act.eval, Act.put]); rfl) (hTl) (HTk.out _ HG0.out.b) (str_one _) (by unfold maxLen; omega) (by omega) ?_
                  intro v1 w1 hg hgr
                  have HG1 := Lib.hid hg
                  have HR1 := Lib.hid hgr
                  clear hg hgr
                  (try simp only [Act.put, List.setIfInBounds_toArray, List.set_cons_zero, List.set_cons_succ])
                  refine hK.out _ _ ((HG1.out.b).cell (World.block_lt_of_cell? wq _ cc) |>.trans cc) (fun _ => ?_)
                  clear hK K
                  refine wpAnyH_ready (rs := [10]) (by kernel_rfl) (by simp) ?_
                  refine AllReadyH.cons (o := _) rfl (fun K hK => ?_) (AllReadyH.nil)
                  go_simp
                  have HX := Lib.hid (Blk.new w1 9 ([c].map Value.string).toArray)
                  have HGa := Lib.hid (HG1.out.alloc (.cells ([c].map Value.string).toArray 9))
                  (try simp only [Act.put, List.setIfInBounds_toArray, List.set_cons_zero, List.set_cons_succ])
                  refine hK.out _ _ ((HGa.out.b).cell (World.block_lt_of_cell? wq _ cc) |>.trans cc) (fun _ => ?_)
                  clear hK K
                  refine wpAnyH_ready (rs := [11]) (by kernel_rfl) (by simp) ?_
                  refine AllReadyH.cons (o := _) rfl (fun K hK => ?_) (AllReadyH.nil)
                  rw [if_pos (by rfl)]
                  refine HGa.out.wp (.tmp 51) (.tmp 57) 50 rfl Try.underlying50 t0 hi0 (Value.string ⟨#[]⟩) hz0 16 hz1 hz2 rfl (by decide) (by rfl) (⟨_, 0, none⟩) (1) (1) ([c].map Value.string) (by (try simp only [Act.eval, Act.put]); rfl) (rfl) (A3.blk_news HX.out) (str_one [c]) (by unfold maxLen; omega) (by omega) ?_
                  intro v2 w2 hg hgr
                  have HG2 := Lib.hid hg
                  have HR2 := Lib.hid hgr
                  clear hg hgr
                  (try simp only [Act.put, List.setIfInBounds_toArray, List.set_cons_zero, List.set_cons_succ])
                  refine hK.out _ _ ((HG2.out.b).cell (World.block_lt_of_cell? wq _ cc) |>.trans cc) (fun _ => ?_)
                  clear hK K
                  refine wpAnyH_ready (rs := [15]) (by kernel_rfl) (by simp) ?_
                  refine AllReadyH.cons (o := _) rfl (fun K hK => ?_) (AllReadyH.nil)
                  rw [if_pos (by rfl)]
                  refine HG2.out.wp (.tmp 58) (.tmp 61) 50 rfl Try.underlying50 t0 hi0 (Value.string ⟨#[]⟩) hz0 16 hz1 hz2 rfl (by decide) (by rfl) (⟨g, k, none⟩) (m - k) (_) ((cs.drop k).map Value.string) (by (try simp only [Act.eval, Act.put]); rfl) (hDl) (HDr.out _ HG2.out.b) (str_one _) (by unfold maxLen; omega) (by omega) ?_
                  intro v3 w3 hg hgr
                  have HG3 := Lib.hid hg
                  have HR3 := Lib.hid hgr
                  clear hg hgr
                  (try simp only [Act.put, List.setIfInBounds_toArray, List.set_cons_zero, List.set_cons_succ])
                  refine hK.out _ _ ((HG3.out.b).cell (World.block_lt_of_cell? wq _ cc) |>.trans cc) (fun _ => ?_)
                  clear hK K
                  refine wpAnyH_take (i := 16) (oi := _) (v := ?_) rfl (by kernel_rfl) (by kernel_rfl) (by kernel_rfl) (fun _ _ _ h => h) (Or.inl ⟨by rfl, ?_⟩) (by assumption) ?_; rotate_left; focus (intro W hSw; (try dsimp only at hSw); go_simp; (first | done | with_reducible rfl))
                  (try simp only [List.getElem_toArray, List.getElem_cons_succ, List.getElem_cons_zero, Act.put, List.setIfInBounds_toArray, List.set_cons_zero, List.set_cons_succ])
                  refine wpAnyH_done (by kernel_rfl) ?_ _
                  refine NoPanic.normal ?_
                  (try simp only [List.getElem_toArray, List.getElem_cons_succ, List.getElem_cons_zero, Act.put, List.setIfInBounds_toArray, List.set_cons_zero, List.set_cons_succ])
                  go_wp2_with fail
                  have HB3 := Lib.hid (show Below w.heap.size w w3 from HBq.out.trans (HG3.out.b.mono HBq.out.size))
                  have HO3 := Lib.hid (own_fin HG3.out HBq.out.size HM.out hkm HP.out hF (by omega))
                  obtain ⟨g3, cp3, e3, o3⟩ := HO3.out
                  have HI3 := Lib.hid o3
                  clear o3
                  subst e3
                  go_roundg (n - (i + 1))
                  case measure => omega
                  case rel => exact ⟨i + 1, insC cs c, g3, cp3, by omega, rfl, by go_num, rfl, HNx.out, HI3.out, HB3.out⟩
                · go_simp
                  have HX := Lib.hid (show Blk ((wq.drew.alloc (.cells #[] 9)).alloc (.cells ([c].map Value.string).toArray 9)) (wq.heap.size + 1) 9 ([c].map Value.string).toArray from Blk.at_ (by simp))
                  have HGa := Lib.hid (HG0.out.alloc (.cells ([c].map Value.string).toArray 9))
                  (try simp only [Act.put, List.setIfInBounds_toArray, List.set_cons_zero, List.set_cons_succ])
                  refine hK.out _ _ ((HGa.out.b).cell (World.block_lt_of_cell? wq _ cc) |>.trans cc) (fun _ => ?_)
                  clear hK K
                  refine wpAnyH_ready (rs := [4]) (by kernel_rfl) (by simp) ?_
                  refine AllReadyH.cons (o := _) rfl (fun K hK => ?_) (AllReadyH.nil)
                  rw [if_pos (by rfl)]
                  refine HGa.out.wp (.tmp 47) (.tmp 50) 50 rfl Try.underlying50 t0 hi0 (Value.string ⟨#[]⟩) hz0 16 hz1 hz2 rfl (by decide) (by rfl) (⟨g, 0, none⟩) (k) (_) ((cs.take k).map Value.string) (by (try simp only [Act.eval, Act.put]); rfl) (hTl) (HTk.out _ HGa.out.b) (str_one _) (by unfold maxLen; omega) (by omega) ?_
                  intro v1 w1 hg hgr
                  have HG1 := Lib.hid hg
                  have HR1 := Lib.hid hgr
                  clear hg hgr
                  have HX1 := Lib.hid (A3.blk_grown HX.out HR1.out (fun e => by simp [Value.ownBlock] at e))
                  (try simp only [Act.put, List.setIfInBounds_toArray, List.set_cons_zero, List.set_cons_succ])
                  refine hK.out _ _ ((HG1.out.b).cell (World.block_lt_of_cell? wq _ cc) |>.trans cc) (fun _ => ?_)
                  clear hK K
                  refine wpAnyH_ready (rs := [11]) (by kernel_rfl) (by simp) ?_
                  refine AllReadyH.cons (o := _) rfl (fun K hK => ?_) (AllReadyH.nil)
                  rw [if_pos (by rfl)]
                  refine HG1.out.wp (.tmp 51) (.tmp 57) 50 rfl Try.underlying50 t0 hi0 (Value.string ⟨#[]⟩) hz0 16 hz1 hz2 rfl (by decide) (by rfl) (⟨_, 0, none⟩) (1) (1) ([c].map Value.string) (by (try simp only [Act.eval, Act.put]); rfl) (rfl) (A3.blk_news HX1.out) (str_one [c]) (by unfold maxLen; omega) (by omega) ?_
                  intro v2 w2 hg hgr
                  have HG2 := Lib.hid hg
                  have HR2 := Lib.hid hgr
                  clear hg hgr
                  (try simp only [Act.put, List.setIfInBounds_toArray, List.set_cons_zero, List.set_cons_succ])
                  refine hK.out _ _ ((HG2.out.b).cell (World.block_lt_of_cell? wq _ cc) |>.trans cc) (fun _ => ?_)
                  clear hK K
                  refine wpAnyH_ready (rs := [15]) (by kernel_rfl) (by simp) ?_
                  refine AllReadyH.cons (o := _) rfl (fun K hK => ?_) (AllReadyH.nil)
                  rw [if_pos (by rfl)]
                  refine HG2.out.wp (.tmp 58) (.tmp 61) 50 rfl Try.underlying50 t0 hi0 (Value.string ⟨#[]⟩) hz0 16 hz1 hz2 rfl (by decide) (by rfl) (⟨g, k, none⟩) (m - k) (_) ((cs.drop k).map Value.string) (by (try simp only [Act.eval, Act.put]); rfl) (hDl) (HDr.out _ HG2.out.b) (str_one _) (by unfold maxLen; omega) (by omega) ?_
                  intro v3 w3 hg hgr
                  have HG3 := Lib.hid hg
                  have HR3 := Lib.hid hgr
                  clear hg hgr
                  (try simp only [Act.put, List.setIfInBounds_toArray, List.set_cons_zero, List.set_cons_succ])
                  refine hK.out _ _ ((HG3.out.b).cell (World.block_lt_of_cell? wq _ cc) |>.trans cc) (fun _ => ?_)
                  clear hK K
                  refine wpAnyH_take (i := 16) (oi := _) (v := ?_) rfl (by kernel_rfl) (by kernel_rfl) (by kernel_rfl) (fun _ _ _ h => h) (Or.inl ⟨by rfl, ?_⟩) (by assumption) ?_; rotate_left; focus (intro W hSw; (try dsimp only at hSw); go_simp; (first | done | with_reducible rfl))
                  (try simp only [List.getElem_toArray, List.getElem_cons_succ, List.getElem_cons_zero, Act.put, List.setIfInBounds_toArray, List.set_cons_zero, List.set_cons_succ])
                  refine wpAnyH_done (by kernel_rfl) ?_ _
                  refine NoPanic.normal ?_
                  (try simp only [List.getElem_toArray, List.getElem_cons_succ, List.getElem_cons_zero, Act.put, List.setIfInBounds_toArray, List.set_cons_zero, List.set_cons_succ])
                  go_wp2_with fail
                  have HB3 := Lib.hid (show Below w.heap.size w w3 from HBq.out.trans (HG3.out.b.mono HBq.out.size))
                  have HO3 := Lib.hid (own_fin HG3.out HBq.out.size HM.out hkm HP.out hF (by omega))
                  obtain ⟨g3, cp3, e3, o3⟩ := HO3.out
                  have HI3 := Lib.hid o3
                  clear o3
                  subst e3
                  go_roundg (n - (i + 1))
                  case measure => omega
                  case rel => exact ⟨i + 1, insC cs c, g3, cp3, by omega, rfl, by go_num, rfl, HNx.out, HI3.out, HB3.out⟩
              · go_simp
                have HX := Lib.hid (Blk.new wq.drew 9 ([c].map Value.string).toArray)
                have HBx := Lib.hid ((Below.refl wq.heap.size wq).drew.alloc (Nat.le_refl _) (.cells ([c].map Value.string).toArray 9))
                (try simp only [Act.put, List.setIfInBounds_toArray, List.set_cons_zero, List.set_cons_succ])
                refine hK.out _ _ ((HBx.out).cell (World.block_lt_of_cell? wq _ cc) |>.trans cc) (fun _ => ?_)
                clear hK K hHeld
                refine wpAnyH_ready (rs := [0]) (by kernel_rfl) (by simp) ?_
                refine AllReadyH.cons (o := _) rfl (fun K hK => ?_) (AllReadyH.nil)
                go_simp
                have HG0 := Lib.hid (show A3.G3 wq 9 1 ((wq.drew.alloc (.cells ([c].map Value.string).toArray 9)).alloc (.cells #[] 9)) (.slice (some ⟨wq.heap.size + 1, 0, none⟩) 0 0) 0 [] from A3.G3.after HBx.out (by simp))
                have HXo := Lib.hid (HX.out.alloc (.cells #[] 9))
                (try simp only [Act.put, List.setIfInBounds_toArray, List.set_cons_zero, List.set_cons_succ])
                refine hK.out _ _ ((HG0.out.b).cell (World.block_lt_of_cell? wq _ cc) |>.trans cc) (fun _ => ?_)
                clear hK K
                refine wpAnyH_ready (rs := [4]) (by kernel_rfl) (by simp) ?_
                refine AllReadyH.cons (o := _) rfl (fun K hK => ?_) (AllReadyH.nil)
                rw [if_pos (by rfl)]
                refine HG0.out.wp (.tmp 47) (.tmp 50) 50 rfl Try.underlying50 t0 hi0 (Value.string ⟨#[]⟩) hz0 16 hz1 hz2 rfl (by decide) (by rfl) (⟨g, 0, none⟩) (k) (_) ((cs.take k).map Value.string) (by (try simp only [Act.eval, Act.put]); rfl) (hTl) (HTk.out _ HG0.out.b) (str_one _) (by unfold maxLen; omega) (by omega) ?_
                intro v1 w1 hg hgr
                have HG1 := Lib.hid hg
                have HR1 := Lib.hid hgr
                clear hg hgr
                have HX1 := Lib.hid (A3.blk_grown HXo.out HR1.out (fun e => by simp [Value.ownBlock] at e))
                (try simp only [Act.put, List.setIfInBounds_toArray, List.set_cons_zero, List.set_cons_succ])
                refine hK.out _ _ ((HG1.out.b).cell (World.block_lt_of_cell? wq _ cc) |>.trans cc) (fun _ => ?_)
                clear hK K
                refine wpAnyH_ready (rs := [11]) (by kernel_rfl) (by simp) ?_
                refine AllReadyH.cons (o := _) rfl (fun K hK => ?_) (AllReadyH.nil)
                rw [if_pos (by rfl)]
                refine HG1.out.wp (.tmp 51) (.tmp 57) 50 rfl Try.underlying50 t0 hi0 (Value.string ⟨#[]⟩) hz0 16 hz1 hz2 rfl (by decide) (by rfl) (⟨_, 0, none⟩) (1) (1) ([c].map Value.string) (by (try simp only [Act.eval, Act.put]); rfl) (rfl) (A3.blk_news HX1.out) (str_one [c]) (by unfold maxLen; omega) (by omega) ?_
                intro v2 w2 hg hgr
                have HG2 := Lib.hid hg
                have HR2 := Lib.hid hgr
                clear hg hgr
                (try simp only [Act.put, List.setIfInBounds_toArray, List.set_cons_zero, List.set_cons_succ])
                refine hK.out _ _ ((HG2.out.b).cell (World.block_lt_of_cell? wq _ cc) |>.trans cc) (fun _ => ?_)
                clear hK K
                refine wpAnyH_ready (rs := [15]) (by kernel_rfl) (by simp) ?_
                refine AllReadyH.cons (o := _) rfl (fun K hK => ?_) (AllReadyH.nil)
                rw [if_pos (by rfl)]
                refine HG2.out.wp (.tmp 58) (.tmp 61) 50 rfl Try.underlying50 t0 hi0 (Value.string ⟨#[]⟩) hz0 16 hz1 hz2 rfl (by decide) (by rfl) (⟨g, k, none⟩) (m - k) (_) ((cs.drop k).map Value.string) (by (try simp only [Act.eval, Act.put]); rfl) (hDl) (HDr.out _ HG2.out.b) (str_one _) (by unfold maxLen; omega) (by omega) ?_
                intro v3 w3 hg hgr
                have HG3 := Lib.hid hg
                have HR3 := Lib.hid hgr
                clear hg hgr
                (try simp only [Act.put, List.setIfInBounds_toArray, List.set_cons_zero, List.set_cons_succ])
                refine hK.out _ _ ((HG3.out.b).cell (World.block_lt_of_cell? wq _ cc) |>.trans cc) (fun _ => ?_)
                clear hK K
                refine wpAnyH_take (i := 16) (oi := _) (v := ?_) rfl (by kernel_rfl) (by kernel_rfl) (by kernel_rfl) (fun _ _ _ h => h) (Or.inl ⟨by rfl, ?_⟩) (by assumption) ?_; rotate_left; focus (intro W hSw; (try dsimp only at hSw); go_simp; (first | done | with_reducible rfl))
                (try simp only [List.getElem_toArray, List.getElem_cons_succ, List.getElem_cons_zero, Act.put, List.setIfInBounds_toArray, List.set_cons_zero, List.set_cons_succ])
                refine wpAnyH_done (by kernel_rfl) ?_ _
                refine NoPanic.normal ?_
                (try simp only [List.getElem_toArray, List.getElem_cons_succ, List.getElem_cons_zero, Act.put, List.setIfInBounds_toArray, List.set_cons_zero, List.set_cons_succ])
                go_wp2_with fail
                have HB3 := Lib.hid (show Below w.heap.size w w3 from HBq.out.trans (HG3.out.b.mono HBq.out.size))
                have HO3 := Lib.hid (own_fin HG3.out HBq.out.size HM.out hkm HP.out hF (by omega))
                obtain ⟨g3, cp3, e3, o3⟩ := HO3.out
                have HI3 := Lib.hid o3
                clear o3
                subst e3
                go_roundg (n - (i + 1))
                case measure => omega
                case rel => exact ⟨i + 1, insC cs c, g3, cp3, by omega, rfl, by go_num, rfl, HNx.out, HI3.out, HB3.out⟩
          · have hge : m ≤ k := by omega
            have HF := Lib.hid (show hasB cs c = false from decide_eq_false (fun h => by have := h.1; rw [HP.out, HM.out] at this; exact hkl this))
            have hd3 : ((k : Int) == (m : Int)) = true := by simp; omega
            go_upto_region 6 with (fail)
            go_region
            go_upto_region 8 with (fail)
            go_region
            go_upto_region 9 with (fail)
            have HBq := Lib.hid (show Below w.heap.size w ((wr.drewN q).drew.drew) from Bk.below_drewN HB.out (q + 2))
            have HOq := Lib.hid (show StrK.Own ((wr.drewN q).drew.drew) w.heap.size (.slice (some ⟨g, 0, none⟩) m cp) cs from StrK.Own.below HO.out (Bk.below_drewN (Below.refl _ _) (q + 2)))
            have HRq := Lib.hid (show RuK.Row ((wr.drewN q).drew.drew) (some ⟨b, off, none⟩) rs from HRr.out.later (Bk.below_drewN (Below.refl _ _) (q + 2)))
            have cq : ((wr.drewN q).drew.drew).cell? ⟨b, off + i * 6 + 2, none⟩ = some (.string c) := cc
            clear cc
            generalize (wr.drewN q).drew.drew = wq at *
            have cc := cq
            clear cq
            have hF : hasB cs c = false := HF.out
            have hTl : ((cs.take k).map Value.string).length = k * 1 := by rw [List.length_map, List.length_take, HM.out, Nat.min_eq_left hkm, Nat.mul_one]
            have hDl : ((cs.drop k).map Value.string).length = 0 * 1 := by rw [List.length_map, List.length_drop, HM.out]; omega
            have hkc : k ≤ cp := by have := StrK.Own.le HOq.out; rw [HM.out] at this; omega
            have HTk := Lib.hid (fun W' (hW : Below wq.heap.size wq W') => news_take HOq.out hW k)
            have HDr := Lib.hid (show ∀ (ad' : Addr) (W' : World), Below wq.heap.size wq W' → ∀ j u, ((cs.drop k).map Value.string)[j]? = some u → W'.cell? (ad'.add j) = some u from fun ad' W' _ j u h => by
              rw [List.drop_eq_nil_of_le (by rw [HM.out]; exact hge)] at h
              simp at h)
            by_cases hck : cp = k
            · skip
              refine wp_region_noPanic ?_
              refine wp_region_held_drew (S := (fun Wx : World => Wx.cell? ⟨b, off + i * 6 + 2, none⟩ = some (.string c))) (by kernel_rfl) cc (fun hHeld => ?_)
              refine wpAnyH_take (i := 1) (oi := _) (v := ?_) rfl (by kernel_rfl) (by kernel_rfl) (by kernel_rfl) (fun _ _ _ h => h) (Or.inl ⟨by rfl, ?_⟩) (by assumption) ?_; rotate_left; focus (intro W hSw; (try dsimp only at hSw); go_simp; (first | done | with_reducible rfl))
              (try simp only [List.getElem_toArray, List.getElem_cons_succ, List.getElem_cons_zero, Act.put, List.setIfInBounds_toArray, List.set_cons_zero, List.set_cons_succ])
              refine wpAnyH_take (i := 2) (oi := _) (v := ?_) rfl (by kernel_rfl) (by kernel_rfl) (by kernel_rfl) (fun _ _ _ h => h) (Or.inl ⟨by rfl, ?_⟩) (by assumption) ?_; rotate_left; focus (intro W hSw; (try dsimp only at hSw); go_simp; (first | done | with_reducible rfl))
              (try simp only [List.getElem_toArray, List.getElem_cons_succ, List.getElem_cons_zero, Act.put, List.setIfInBounds_toArray, List.set_cons_zero, List.set_cons_succ])
              refine wpAnyH_take (i := 3) (oi := _) (v := ?_) rfl (by kernel_rfl) (by kernel_rfl) (by kernel_rfl) (fun _ _ _ h => h) (Or.inl ⟨by rfl, ?_⟩) (by assumption) ?_; rotate_left; focus (intro W hSw; (try dsimp only at hSw); go_simp; (first | done | with_reducible rfl))
              (try simp only [List.getElem_toArray, List.getElem_cons_succ, List.getElem_cons_zero, Act.put, List.setIfInBounds_toArray, List.set_cons_zero, List.set_cons_succ])
              refine wpAnyH_take (i := 5) (oi := _) (v := ?_) rfl (by kernel_rfl) (by kernel_rfl) (by kernel_rfl) (fun _ _ _ h => h) (Or.inl ⟨by rfl, ?_⟩) (by assumption) ?_; rotate_left; focus (intro W hSw; (try dsimp only at hSw); go_simp; (first | done | with_reducible rfl))
              (try simp only [List.getElem_toArray, List.getElem_cons_succ, List.getElem_cons_zero, Act.put, List.setIfInBounds_toArray, List.set_cons_zero, List.set_cons_succ])
              refine wpAnyH_take (i := 6) (oi := _) (v := ?_) rfl (by kernel_rfl) (by kernel_rfl) (by kernel_rfl) (fun _ _ _ h => h) (Or.inl ⟨by rfl, ?_⟩) (by assumption) ?_; rotate_left; focus (intro W hSw; (try dsimp only at hSw); go_simp; (first | done | with_reducible rfl))
              (try simp only [List.getElem_toArray, List.getElem_cons_succ, List.getElem_cons_zero, Act.put, List.setIfInBounds_toArray, List.set_cons_zero, List.set_cons_succ])
              refine wpAnyH_take (i := 7) (oi := _) (v := ?_) rfl (by kernel_rfl) (by kernel_rfl) (by kernel_rfl) (fun _ _ _ h => h) (Or.inl ⟨by rfl, ?_⟩) (by assumption) ?_; rotate_left; focus (intro W hSw; (try dsimp only at hSw); go_simp; (first | done | with_reducible rfl))
              (try simp only [List.getElem_toArray, List.getElem_cons_succ, List.getElem_cons_zero, Act.put, List.setIfInBounds_toArray, List.set_cons_zero, List.set_cons_succ])
              refine wpAnyH_take (i := 8) (oi := _) (v := ?_) rfl (by kernel_rfl) (by kernel_rfl) (by kernel_rfl) (fun _ _ _ h => h) (Or.inl ⟨by rfl, ?_⟩) (by assumption) ?_; rotate_left; focus (intro W hSw; (try dsimp only at hSw); go_simp; (first | done | with_reducible rfl))
              (try simp only [List.getElem_toArray, List.getElem_cons_succ, List.getElem_cons_zero, Act.put, List.setIfInBounds_toArray, List.set_cons_zero, List.set_cons_succ])
              refine wpAnyH_take (i := 9) (oi := _) (v := ?_) rfl (by kernel_rfl) (by kernel_rfl) (by kernel_rfl) (fun _ _ _ h => h) (Or.inl ⟨by rfl, ?_⟩) (by assumption) ?_; rotate_left; focus (intro W hSw; (try dsimp only at hSw); go_simp; (first | done | with_reducible rfl))
              (try simp only [List.getElem_toArray, List.getElem_cons_succ, List.getElem_cons_zero, Act.put, List.setIfInBounds_toArray, List.set_cons_zero, List.set_cons_succ])
              refine wpAnyH_take (i := 12) (oi := _) (v := ?_) rfl (by kernel_rfl) (by kernel_rfl) (by kernel_rfl) (fun _ _ _ h => h) (Or.inl ⟨by rfl, ?_⟩) (by assumption) ?_; rotate_left; focus (intro W hSw; (try dsimp only at hSw); go_simp; (first | done | with_reducible rfl))
              (try simp only [List.getElem_toArray, List.getElem_cons_succ, List.getElem_cons_zero, Act.put, List.setIfInBounds_toArray, List.set_cons_zero, List.set_cons_succ])
              refine wpAnyH_take (i := 13) (oi := _) (v := ?_) rfl (by kernel_rfl) (by kernel_rfl) (by kernel_rfl) (fun _ _ _ h => h) (Or.inl ⟨by rfl, ?_⟩) (by assumption) ?_; rotate_left; focus (intro W hSw; (try dsimp only at hSw); go_simp; (first | done | with_reducible rfl))
              (try simp only [List.getElem_toArray, List.getElem_cons_succ, List.getElem_cons_zero, Act.put, List.setIfInBounds_toArray, List.set_cons_zero, List.set_cons_succ])
              refine wpAnyH_take (i := 14) (oi := _) (v := ?_) rfl (by kernel_rfl) (by kernel_rfl) (by kernel_rfl) (fun _ _ _ h => h) (Or.inl ⟨by rfl, ?_⟩) (by assumption) ?_; rotate_left; focus (intro W hSw; (try dsimp only at hSw); go_simp; (first | done | with_reducible rfl))
              (try simp only [List.getElem_toArray, List.getElem_cons_succ, List.getElem_cons_zero, Act.put, List.setIfInBounds_toArray, List.set_cons_zero, List.set_cons_succ])
              refine wpAnyH_ready (rs := [0, 10]) (by kernel_rfl) (by simp) ?_
              refine AllReadyH.cons (o := _) rfl (fun K hK => ?_) (AllReadyH.cons (o := _) rfl (fun K hK => ?_) (AllReadyH.nil))
              · go_simp
                have HG0 := Lib.hid (A3.G3.start wq 9 1)
                (try simp only [Act.put, List.setIfInBounds_toArray, List.set_cons_zero, List.set_cons_succ])
                refine hK.out _ _ ((HG0.out.b).cell (World.block_lt_of_cell? wq _ cc) |>.trans cc) (fun _ => ?_)
                clear hK K hHeld
                refine wpAnyH_ready (rs := [4, 10]) (by kernel_rfl) (by simp) ?_
                refine AllReadyH.cons (o := _) rfl (fun K hK => ?_) (AllReadyH.cons (o := _) rfl (fun K hK => ?_) (AllReadyH.nil))
                · skip
                  rw [if_pos (by rfl)]
                  refine HG0.out.wp (.tmp 47) (.tmp 50) 50 rfl Try.underlying50 t0 hi0 (Value.string ⟨#[]⟩) hz0 16 hz1 hz2 rfl (by decide) (by rfl) (⟨g, 0, none⟩) (k) (_) ((cs.take k).map Value.string) (by (try simp only [Act.eval, Act.put]); rfl) (hTl) (HTk.out _ HG0.out.b) (str_one _) (by unfold maxLen; omega) (by omega) ?_
                  intro v1 w1 hg hgr
                  have HG1 := Lib.hid hg
                  have HR1 := Lib.hid hgr
                  clear hg hgr
                  (try simp only [Act.put, List.setIfInBounds_toArray, List.set_cons_zero, List.set_cons_succ])
                  refine hK.out _ _ ((HG1.out.b).cell (World.block_lt_of_cell? wq _ cc) |>.trans cc) (fun _ => ?_)
                  clear hK K
                  refine wpAnyH_ready (rs := [10]) (by kernel_rfl) (by simp) ?_
                  refine AllReadyH.cons (o := _) rfl (fun K hK => ?_) (AllReadyH.nil)
                  go_simp
                  have HX := Lib.hid (Blk.new w1 9 ([c].map Value.string).toArray)
                  have HGa := Lib.hid (HG1.out.alloc (.cells ([c].map Value.string).toArray 9))
                  (try simp only [Act.put, List.setIfInBounds_toArray, List.set_cons_zero, List.set_cons_succ])
                  refine hK.out _ _ ((HGa.out.b).cell (World.block_lt_of_cell? wq _ cc) |>.trans cc) (fun _ => ?_)
                  clear hK K
                  refine wpAnyH_ready (rs := [11]) (by kernel_rfl) (by simp) ?_
                  refine AllReadyH.cons (o := _) rfl (fun K hK => ?_) (AllReadyH.nil)
                  rw [if_pos (by rfl)]
                  refine HGa.out.wp (.tmp 51) (.tmp 57) 50 rfl Try.underlying50 t0 hi0 (Value.string ⟨#[]⟩) hz0 16 hz1 hz2 rfl (by decide) (by rfl) (⟨_, 0, none⟩) (1) (1) ([c].map Value.string) (by (try simp only [Act.eval, Act.put]); rfl) (rfl) (A3.blk_news HX.out) (str_one [c]) (by unfold maxLen; omega) (by omega) ?_
                  intro v2 w2 hg hgr
                  have HG2 := Lib.hid hg
                  have HR2 := Lib.hid hgr
                  clear hg hgr
                  (try simp only [Act.put, List.setIfInBounds_toArray, List.set_cons_zero, List.set_cons_succ])
                  refine hK.out _ _ ((HG2.out.b).cell (World.block_lt_of_cell? wq _ cc) |>.trans cc) (fun _ => ?_)
                  clear hK K
                  refine wpAnyH_ready (rs := [15]) (by kernel_rfl) (by simp) ?_
                  refine AllReadyH.cons (o := _) rfl (fun K hK => ?_) (AllReadyH.nil)
                  rw [if_pos (by rfl)]
                  refine HG2.out.wp (.tmp 58) (.tmp 61) 50 rfl Try.underlying50 t0 hi0 (Value.string ⟨#[]⟩) hz0 16 hz1 hz2 rfl (by decide) (by rfl) (_) (0) (_) ((cs.drop k).map Value.string) (by (try simp only [Act.eval, Act.put]); rfl) (hDl) (HDr.out _ _ HG2.out.b) (str_one _) (by unfold maxLen; omega) (by omega) ?_
                  intro v3 w3 hg hgr
                  have HG3 := Lib.hid hg
                  have HR3 := Lib.hid hgr
                  clear hg hgr
                  (try simp only [Act.put, List.setIfInBounds_toArray, List.set_cons_zero, List.set_cons_succ])
                  refine hK.out _ _ ((HG3.out.b).cell (World.block_lt_of_cell? wq _ cc) |>.trans cc) (fun _ => ?_)
                  clear hK K
                  refine wpAnyH_take (i := 16) (oi := _) (v := ?_) rfl (by kernel_rfl) (by kernel_rfl) (by kernel_rfl) (fun _ _ _ h => h) (Or.inl ⟨by rfl, ?_⟩) (by assumption) ?_; rotate_left; focus (intro W hSw; (try dsimp only at hSw); go_simp; (first | done | with_reducible rfl))
                  (try simp only [List.getElem_toArray, List.getElem_cons_succ, List.getElem_cons_zero, Act.put, List.setIfInBounds_toArray, List.set_cons_zero, List.set_cons_succ])
                  refine wpAnyH_done (by kernel_rfl) ?_ _
                  refine NoPanic.normal ?_
                  (try simp only [List.getElem_toArray, List.getElem_cons_succ, List.getElem_cons_zero, Act.put, List.setIfInBounds_toArray, List.set_cons_zero, List.set_cons_succ])
                  go_wp2_with fail
                  have HB3 := Lib.hid (show Below w.heap.size w w3 from HBq.out.trans (HG3.out.b.mono HBq.out.size))
                  have HO3 := Lib.hid (own_fin HG3.out HBq.out.size HM.out hkm HP.out hF (by omega))
                  obtain ⟨g3, cp3, e3, o3⟩ := HO3.out
                  have HI3 := Lib.hid o3
                  clear o3
                  subst e3
                  go_roundg (n - (i + 1))
                  case measure => omega
                  case rel => exact ⟨i + 1, insC cs c, g3, cp3, by omega, rfl, by go_num, rfl, HNx.out, HI3.out, HB3.out⟩
                · go_simp
                  have HX := Lib.hid (show Blk ((wq.drew.alloc (.cells #[] 9)).alloc (.cells ([c].map Value.string).toArray 9)) (wq.heap.size + 1) 9 ([c].map Value.string).toArray from Blk.at_ (by simp))
                  have HGa := Lib.hid (HG0.out.alloc (.cells ([c].map Value.string).toArray 9))
                  (try simp only [Act.put, List.setIfInBounds_toArray, List.set_cons_zero, List.set_cons_succ])
                  refine hK.out _ _ ((HGa.out.b).cell (World.block_lt_of_cell? wq _ cc) |>.trans cc) (fun _ => ?_)
                  clear hK K
                  refine wpAnyH_ready (rs := [4]) (by kernel_rfl) (by simp) ?_
                  refine AllReadyH.cons (o := _) rfl (fun K hK => ?_) (AllReadyH.nil)
                  rw [if_pos (by rfl)]
                  refine HGa.out.wp (.tmp 47) (.tmp 50) 50 rfl Try.underlying50 t0 hi0 (Value.string ⟨#[]⟩) hz0 16 hz1 hz2 rfl (by decide) (by rfl) (⟨g, 0, none⟩) (k) (_) ((cs.take k).map Value.string) (by (try simp only [Act.eval, Act.put]); rfl) (hTl) (HTk.out _ HGa.out.b) (str_one _) (by unfold maxLen; omega) (by omega) ?_
                  intro v1 w1 hg hgr
                  have HG1 := Lib.hid hg
                  have HR1 := Lib.hid hgr
                  clear hg hgr
                  have HX1 := Lib.hid (A3.blk_grown HX.out HR1.out (fun e => by simp [Value.ownBlock] at e))
                  (try simp only [Act.put, List.setIfInBounds_toArray, List.set_cons_zero, List.set_cons_succ])
                  refine hK.out _ _ ((HG1.out.b).cell (World.block_lt_of_cell? wq _ cc) |>.trans cc) (fun _ => ?_)
                  clear hK K
                  refine wpAnyH_ready (rs := [11]) (by kernel_rfl) (by simp) ?_
                  refine AllReadyH.cons (o := _) rfl (fun K hK => ?_) (AllReadyH.nil)
                  rw [if_pos (by rfl)]
                  refine HG1.out.wp (.tmp 51) (.tmp 57) 50 rfl Try.underlying50 t0 hi0 (Value.string ⟨#[]⟩) hz0 16 hz1 hz2 rfl (by decide) (by rfl) (⟨_, 0, none⟩) (1) (1) ([c].map Value.string) (by (try simp only [Act.eval, Act.put]); rfl) (rfl) (A3.blk_news HX1.out) (str_one [c]) (by unfold maxLen; omega) (by omega) ?_
                  intro v2 w2 hg hgr
                  have HG2 := Lib.hid hg
                  have HR2 := Lib.hid hgr
                  clear hg hgr
                  (try simp only [Act.put, List.setIfInBounds_toArray, List.set_cons_zero, List.set_cons_succ])
                  refine hK.out _ _ ((HG2.out.b).cell (World.block_lt_of_cell? wq _ cc) |>.trans cc) (fun _ => ?_)
                  clear hK K
                  refine wpAnyH_ready (rs := [15]) (by kernel_rfl) (by simp) ?_
                  refine AllReadyH.cons (o := _) rfl (fun K hK => ?_) (AllReadyH.nil)
                  rw [if_pos (by rfl)]
                  refine HG2.out.wp (.tmp 58) (.tmp 61) 50 rfl Try.underlying50 t0 hi0 (Value.string ⟨#[]⟩) hz0 16 hz1 hz2 rfl (by decide) (by rfl) (_) (0) (_) ((cs.drop k).map Value.string) (by (try simp only [Act.eval, Act.put]); rfl) (hDl) (HDr.out _ _ HG2.out.b) (str_one _) (by unfold maxLen; omega) (by omega) ?_
                  intro v3 w3 hg hgr
                  have HG3 := Lib.hid hg
                  have HR3 := Lib.hid hgr
                  clear hg hgr
                  (try simp only [Act.put, List.setIfInBounds_toArray, List.set_cons_zero, List.set_cons_succ])
                  refine hK.out _ _ ((HG3.out.b).cell (World.block_lt_of_cell? wq _ cc) |>.trans cc) (fun _ => ?_)
                  clear hK K
                  refine wpAnyH_take (i := 16) (oi := _) (v := ?_) rfl (by kernel_rfl) (by kernel_rfl) (by kernel_rfl) (fun _ _ _ h => h) (Or.inl ⟨by rfl, ?_⟩) (by assumption) ?_; rotate_left; focus (intro W hSw; (try dsimp only at hSw); go_simp; (first | done | with_reducible rfl))
                  (try simp only [List.getElem_toArray, List.getElem_cons_succ, List.getElem_cons_zero, Act.put, List.setIfInBounds_toArray, List.set_cons_zero, List.set_cons_succ])
                  refine wpAnyH_done (by kernel_rfl) ?_ _
                  refine NoPanic.normal ?_
                  (try simp only [List.getElem_toArray, List.getElem_cons_succ, List.getElem_cons_zero, Act.put, List.setIfInBounds_toArray, List.set_cons_zero, List.set_cons_succ])
                  go_wp2_with fail
                  have HB3 := Lib.hid (show Below w.heap.size w w3 from HBq.out.trans (HG3.out.b.mono HBq.out.size))
                  have HO3 := Lib.hid (own_fin HG3.out HBq.out.size HM.out hkm HP.out hF (by omega))
                  obtain ⟨g3, cp3, e3, o3⟩ := HO3.out
                  have HI3 := Lib.hid o3
                  clear o3
                  subst e3
                  go_roundg (n - (i + 1))
                  case measure => omega
                  case rel => exact ⟨i + 1, insC cs c, g3, cp3, by omega, rfl, by go_num, rfl, HNx.out, HI3.out, HB3.out⟩
              · go_simp
                have HX := Lib.hid (Blk.new wq.drew 9 ([c].map Value.string).toArray)
                have HBx := Lib.hid ((Below.refl wq.heap.size wq).drew.alloc (Nat.le_refl _) (.cells ([c].map Value.string).toArray 9))
                (try simp only [Act.put, List.setIfInBounds_toArray, List.set_cons_zero, List.set_cons_succ])
                refine hK.out _ _ ((HBx.out).cell (World.block_lt_of_cell? wq _ cc) |>.trans cc) (fun _ => ?_)
                clear hK K hHeld
                refine wpAnyH_ready (rs := [0]) (by kernel_rfl) (by simp) ?_
                refine AllReadyH.cons (o := _) rfl (fun K hK => ?_) (AllReadyH.nil)
                go_simp
                have HG0 := Lib.hid (show A3.G3 wq 9 1 ((wq.drew.alloc (.cells ([c].map Value.string).toArray 9)).alloc (.cells #[] 9)) (.slice (some ⟨wq.heap.size + 1, 0, none⟩) 0 0) 0 [] from A3.G3.after HBx.out (by simp))
                have HXo := Lib.hid (HX.out.alloc (.cells #[] 9))
                (try simp only [Act.put, List.setIfInBounds_toArray, List.set_cons_zero, List.set_cons_succ])
                refine hK.out _ _ ((HG0.out.b).cell (World.block_lt_of_cell? wq _ cc) |>.trans cc) (fun _ => ?_)
                clear hK K
                refine wpAnyH_ready (rs := [4]) (by kernel_rfl) (by simp) ?_
                refine AllReadyH.cons (o := _) rfl (fun K hK => ?_) (AllReadyH.nil)
                rw [if_pos (by rfl)]
                refine HG0.out.wp (.tmp 47) (.tmp 50) 50 rfl Try.underlying50 t0 hi0 (Value.string ⟨#[]⟩) hz0 16 hz1 hz2 rfl (by decide) (by rfl) (⟨g, 0, none⟩) (k) (_) ((cs.take k).map Value.string) (by (try simp only [Act.eval, Act.put]); rfl) (hTl) (HTk.out _ HG0.out.b) (str_one _) (by unfold maxLen; omega) (by omega) ?_
                intro v1 w1 hg hgr
                have HG1 := Lib.hid hg
                have HR1 := Lib.hid hgr
                clear hg hgr
                have HX1 := Lib.hid (A3.blk_grown HXo.out HR1.out (fun e => by simp [Value.ownBlock] at e))
                (try simp only [Act.put, List.setIfInBounds_toArray, List.set_cons_zero, List.set_cons_succ])
                refine hK.out _ _ ((HG1.out.b).cell (World.block_lt_of_cell? wq _ cc) |>.trans cc) (fun _ => ?_)
                clear hK K
                refine wpAnyH_ready (rs := [11]) (by kernel_rfl) (by simp) ?_
                refine AllReadyH.cons (o := _) rfl (fun K hK => ?_) (AllReadyH.nil)
                rw [if_pos (by rfl)]
                refine HG1.out.wp (.tmp 51) (.tmp 57) 50 rfl Try.underlying50 t0 hi0 (Value.string ⟨#[]⟩) hz0 16 hz1 hz2 rfl (by decide) (by rfl) (⟨_, 0, none⟩) (1) (1) ([c].map Value.string) (by (try simp only [Act.eval, Act.put]); rfl) (rfl) (A3.blk_news HX1.out) (str_one [c]) (by unfold maxLen; omega) (by omega) ?_
                intro v2 w2 hg hgr
                have HG2 := Lib.hid hg
                have HR2 := Lib.hid hgr
                clear hg hgr
                (try simp only [Act.put, List.setIfInBounds_toArray, List.set_cons_zero, List.set_cons_succ])
                refine hK.out _ _ ((HG2.out.b).cell (World.block_lt_of_cell? wq _ cc) |>.trans cc) (fun _ => ?_)
                clear hK K
                refine wpAnyH_ready (rs := [15]) (by kernel_rfl) (by simp) ?_
                refine AllReadyH.cons (o := _) rfl (fun K hK => ?_) (AllReadyH.nil)
                rw [if_pos (by rfl)]
                refine HG2.out.wp (.tmp 58) (.tmp 61) 50 rfl Try.underlying50 t0 hi0 (Value.string ⟨#[]⟩) hz0 16 hz1 hz2 rfl (by decide) (by rfl) (_) (0) (_) ((cs.drop k).map Value.string) (by (try simp only [Act.eval, Act.put]); rfl) (hDl) (HDr.out _ _ HG2.out.b) (str_one _) (by unfold maxLen; omega) (by omega) ?_
                intro v3 w3 hg hgr
                have HG3 := Lib.hid hg
                have HR3 := Lib.hid hgr
                clear hg hgr
                (try simp only [Act.put, List.setIfInBounds_toArray, List.set_cons_zero, List.set_cons_succ])
                refine hK.out _ _ ((HG3.out.b).cell (World.block_lt_of_cell? wq _ cc) |>.trans cc) (fun _ => ?_)
                clear hK K
                refine wpAnyH_take (i := 16) (oi := _) (v := ?_) rfl (by kernel_rfl) (by kernel_rfl) (by kernel_rfl) (fun _ _ _ h => h) (Or.inl ⟨by rfl, ?_⟩) (by assumption) ?_; rotate_left; focus (intro W hSw; (try dsimp only at hSw); go_simp; (first | done | with_reducible rfl))
                (try simp only [List.getElem_toArray, List.getElem_cons_succ, List.getElem_cons_zero, Act.put, List.setIfInBounds_toArray, List.set_cons_zero, List.set_cons_succ])
                refine wpAnyH_done (by kernel_rfl) ?_ _
                refine NoPanic.normal ?_
                (try simp only [List.getElem_toArray, List.getElem_cons_succ, List.getElem_cons_zero, Act.put, List.setIfInBounds_toArray, List.set_cons_zero, List.set_cons_succ])
                go_wp2_with fail
                have HB3 := Lib.hid (show Below w.heap.size w w3 from HBq.out.trans (HG3.out.b.mono HBq.out.size))
                have HO3 := Lib.hid (own_fin HG3.out HBq.out.size HM.out hkm HP.out hF (by omega))
                obtain ⟨g3, cp3, e3, o3⟩ := HO3.out
                have HI3 := Lib.hid o3
                clear o3
                subst e3
                go_roundg (n - (i + 1))
                case measure => omega
                case rel => exact ⟨i + 1, insC cs c, g3, cp3, by omega, rfl, by go_num, rfl, HNx.out, HI3.out, HB3.out⟩
            · skip
              refine wp_region_noPanic ?_
              refine wp_region_held_drew (S := (fun Wx : World => Wx.cell? ⟨b, off + i * 6 + 2, none⟩ = some (.string c))) (by kernel_rfl) cc (fun hHeld => ?_)
              refine wpAnyH_take (i := 1) (oi := _) (v := ?_) rfl (by kernel_rfl) (by kernel_rfl) (by kernel_rfl) (fun _ _ _ h => h) (Or.inl ⟨by rfl, ?_⟩) (by assumption) ?_; rotate_left; focus (intro W hSw; (try dsimp only at hSw); go_simp; (first | done | with_reducible rfl))
              (try simp only [List.getElem_toArray, List.getElem_cons_succ, List.getElem_cons_zero, Act.put, List.setIfInBounds_toArray, List.set_cons_zero, List.set_cons_succ])
              refine wpAnyH_take (i := 2) (oi := _) (v := ?_) rfl (by kernel_rfl) (by kernel_rfl) (by kernel_rfl) (fun _ _ _ h => h) (Or.inl ⟨by rfl, ?_⟩) (by assumption) ?_; rotate_left; focus (intro W hSw; (try dsimp only at hSw); go_simp; (first | done | with_reducible rfl))
              (try simp only [List.getElem_toArray, List.getElem_cons_succ, List.getElem_cons_zero, Act.put, List.setIfInBounds_toArray, List.set_cons_zero, List.set_cons_succ])
              refine wpAnyH_take (i := 3) (oi := _) (v := ?_) rfl (by kernel_rfl) (by kernel_rfl) (by kernel_rfl) (fun _ _ _ h => h) (Or.inl ⟨by rfl, ?_⟩) (by assumption) ?_; rotate_left; focus (intro W hSw; (try dsimp only at hSw); go_simp; (first | done | with_reducible rfl))
              (try simp only [List.getElem_toArray, List.getElem_cons_succ, List.getElem_cons_zero, Act.put, List.setIfInBounds_toArray, List.set_cons_zero, List.set_cons_succ])
              refine wpAnyH_take (i := 5) (oi := _) (v := ?_) rfl (by kernel_rfl) (by kernel_rfl) (by kernel_rfl) (fun _ _ _ h => h) (Or.inl ⟨by rfl, ?_⟩) (by assumption) ?_; rotate_left; focus (intro W hSw; (try dsimp only at hSw); go_simp; (first | done | with_reducible rfl))
              (try simp only [List.getElem_toArray, List.getElem_cons_succ, List.getElem_cons_zero, Act.put, List.setIfInBounds_toArray, List.set_cons_zero, List.set_cons_succ])
              refine wpAnyH_take (i := 6) (oi := _) (v := ?_) rfl (by kernel_rfl) (by kernel_rfl) (by kernel_rfl) (fun _ _ _ h => h) (Or.inl ⟨by rfl, ?_⟩) (by assumption) ?_; rotate_left; focus (intro W hSw; (try dsimp only at hSw); go_simp; (first | done | with_reducible rfl))
              (try simp only [List.getElem_toArray, List.getElem_cons_succ, List.getElem_cons_zero, Act.put, List.setIfInBounds_toArray, List.set_cons_zero, List.set_cons_succ])
              refine wpAnyH_take (i := 7) (oi := _) (v := ?_) rfl (by kernel_rfl) (by kernel_rfl) (by kernel_rfl) (fun _ _ _ h => h) (Or.inl ⟨by rfl, ?_⟩) (by assumption) ?_; rotate_left; focus (intro W hSw; (try dsimp only at hSw); go_simp; (first | done | with_reducible rfl))
              (try simp only [List.getElem_toArray, List.getElem_cons_succ, List.getElem_cons_zero, Act.put, List.setIfInBounds_toArray, List.set_cons_zero, List.set_cons_succ])
              refine wpAnyH_take (i := 8) (oi := _) (v := ?_) rfl (by kernel_rfl) (by kernel_rfl) (by kernel_rfl) (fun _ _ _ h => h) (Or.inl ⟨by rfl, ?_⟩) (by assumption) ?_; rotate_left; focus (intro W hSw; (try dsimp only at hSw); go_simp; (first | done | with_reducible rfl))
              (try simp only [List.getElem_toArray, List.getElem_cons_succ, List.getElem_cons_zero, Act.put, List.setIfInBounds_toArray, List.set_cons_zero, List.set_cons_succ])
              refine wpAnyH_take (i := 9) (oi := _) (v := ?_) rfl (by kernel_rfl) (by kernel_rfl) (by kernel_rfl) (fun _ _ _ h => h) (Or.inl ⟨by rfl, ?_⟩) (by assumption) ?_; rotate_left; focus (intro W hSw; (try dsimp only at hSw); go_simp; (first | done | with_reducible rfl))
              (try simp only [List.getElem_toArray, List.getElem_cons_succ, List.getElem_cons_zero, Act.put, List.setIfInBounds_toArray, List.set_cons_zero, List.set_cons_succ])
              refine wpAnyH_take (i := 12) (oi := _) (v := ?_) rfl (by kernel_rfl) (by kernel_rfl) (by kernel_rfl) (fun _ _ _ h => h) (Or.inl ⟨by rfl, ?_⟩) (by assumption) ?_; rotate_left; focus (intro W hSw; (try dsimp only at hSw); go_simp; (first | done | with_reducible rfl))
              (try simp only [List.getElem_toArray, List.getElem_cons_succ, List.getElem_cons_zero, Act.put, List.setIfInBounds_toArray, List.set_cons_zero, List.set_cons_succ])
              refine wpAnyH_take (i := 13) (oi := _) (v := ?_) rfl (by kernel_rfl) (by kernel_rfl) (by kernel_rfl) (fun _ _ _ h => h) (Or.inl ⟨by rfl, ?_⟩) (by assumption) ?_; rotate_left; focus (intro W hSw; (try dsimp only at hSw); go_simp; (first | done | with_reducible rfl))
              (try simp only [List.getElem_toArray, List.getElem_cons_succ, List.getElem_cons_zero, Act.put, List.setIfInBounds_toArray, List.set_cons_zero, List.set_cons_succ])
              refine wpAnyH_take (i := 14) (oi := _) (v := ?_) rfl (by kernel_rfl) (by kernel_rfl) (by kernel_rfl) (fun _ _ _ h => h) (Or.inl ⟨by rfl, ?_⟩) (by assumption) ?_; rotate_left; focus (intro W hSw; (try dsimp only at hSw); go_simp; (first | done | with_reducible rfl))
              (try simp only [List.getElem_toArray, List.getElem_cons_succ, List.getElem_cons_zero, Act.put, List.setIfInBounds_toArray, List.set_cons_zero, List.set_cons_succ])
              refine wpAnyH_ready (rs := [0, 10]) (by kernel_rfl) (by simp) ?_
              refine AllReadyH.cons (o := _) rfl (fun K hK => ?_) (AllReadyH.cons (o := _) rfl (fun K hK => ?_) (AllReadyH.nil))
              · go_simp
                have HG0 := Lib.hid (A3.G3.start wq 9 1)
                (try simp only [Act.put, List.setIfInBounds_toArray, List.set_cons_zero, List.set_cons_succ])
                refine hK.out _ _ ((HG0.out.b).cell (World.block_lt_of_cell? wq _ cc) |>.trans cc) (fun _ => ?_)
                clear hK K hHeld
                refine wpAnyH_ready (rs := [4, 10]) (by kernel_rfl) (by simp) ?_
                refine AllReadyH.cons (o := _) rfl (fun K hK => ?_) (AllReadyH.cons (o := _) rfl (fun K hK => ?_) (AllReadyH.nil))
                · skip
                  rw [if_pos (by rfl)]
                  refine HG0.out.wp (.tmp 47) (.tmp 50) 50 rfl Try.underlying50 t0 hi0 (Value.string ⟨#[]⟩) hz0 16 hz1 hz2 rfl (by decide) (by rfl) (⟨g, 0, none⟩) (k) (_) ((cs.take k).map Value.string) (by (try simp only [Act.eval, Act.put]); rfl) (hTl) (HTk.out _ HG0.out.b) (str_one _) (by unfold maxLen; omega) (by omega) ?_
                  intro v1 w1 hg hgr
                  have HG1 := Lib.hid hg
                  have HR1 := Lib.hid hgr
                  clear hg hgr
                  (try simp only [Act.put, List.setIfInBounds_toArray, List.set_cons_zero, List.set_cons_succ])
                  refine hK.out _ _ ((HG1.out.b).cell (World.block_lt_of_cell? wq _ cc) |>.trans cc) (fun _ => ?_)
                  clear hK K
                  refine wpAnyH_ready (rs := [10]) (by kernel_rfl) (by simp) ?_
                  refine AllReadyH.cons (o := _) rfl (fun K hK => ?_) (AllReadyH.nil)
                  go_simp
                  have HX := Lib.hid (Blk.new w1 9 ([c].map Value.string).toArray)
                  have HGa := Lib.hid (HG1.out.alloc (.cells ([c].map Value.string).toArray 9))
                  (try simp only [Act.put, List.setIfInBounds_toArray, List.set_cons_zero, List.set_cons_succ])
                  refine hK.out _ _ ((HGa.out.b).cell (World.block_lt_of_cell? wq _ cc) |>.trans cc) (fun _ => ?_)
                  clear hK K
                  refine wpAnyH_ready (rs := [11]) (by kernel_rfl) (by simp) ?_
                  refine AllReadyH.cons (o := _) rfl (fun K hK => ?_) (AllReadyH.nil)
                  rw [if_pos (by rfl)]
                  refine HGa.out.wp (.tmp 51) (.tmp 57) 50 rfl Try.underlying50 t0 hi0 (Value.string ⟨#[]⟩) hz0 16 hz1 hz2 rfl (by decide) (by rfl) (⟨_, 0, none⟩) (1) (1) ([c].map Value.string) (by (try simp only [Act.eval, Act.put]); rfl) (rfl) (A3.blk_news HX.out) (str_one [c]) (by unfold maxLen; omega) (by omega) ?_
                  intro v2 w2 hg hgr
                  have HG2 := Lib.hid hg
                  have HR2 := Lib.hid hgr
                  clear hg hgr
                  (try simp only [Act.put, List.setIfInBounds_toArray, List.set_cons_zero, List.set_cons_succ])
                  refine hK.out _ _ ((HG2.out.b).cell (World.block_lt_of_cell? wq _ cc) |>.trans cc) (fun _ => ?_)
                  clear hK K
                  refine wpAnyH_ready (rs := [15]) (by kernel_rfl) (by simp) ?_
                  refine AllReadyH.cons (o := _) rfl (fun K hK => ?_) (AllReadyH.nil)
                  rw [if_pos (by rfl)]
                  refine HG2.out.wp (.tmp 58) (.tmp 61) 50 rfl Try.underlying50 t0 hi0 (Value.string ⟨#[]⟩) hz0 16 hz1 hz2 rfl (by decide) (by rfl) (_) (0) (_) ((cs.drop k).map Value.string) (by (try simp only [Act.eval, Act.put]); rfl) (hDl) (HDr.out _ _ HG2.out.b) (str_one _) (by unfold maxLen; omega) (by omega) ?_
                  intro v3 w3 hg hgr
                  have HG3 := Lib.hid hg
                  have HR3 := Lib.hid hgr
                  clear hg hgr
                  (try simp only [Act.put, List.setIfInBounds_toArray, List.set_cons_zero, List.set_cons_succ])
                  refine hK.out _ _ ((HG3.out.b).cell (World.block_lt_of_cell? wq _ cc) |>.trans cc) (fun _ => ?_)
                  clear hK K
                  refine wpAnyH_take (i := 16) (oi := _) (v := ?_) rfl (by kernel_rfl) (by kernel_rfl) (by kernel_rfl) (fun _ _ _ h => h) (Or.inl ⟨by rfl, ?_⟩) (by assumption) ?_; rotate_left; focus (intro W hSw; (try dsimp only at hSw); go_simp; (first | done | with_reducible rfl))
                  (try simp only [List.getElem_toArray, List.getElem_cons_succ, List.getElem_cons_zero, Act.put, List.setIfInBounds_toArray, List.set_cons_zero, List.set_cons_succ])
                  refine wpAnyH_done (by kernel_rfl) ?_ _
                  refine NoPanic.normal ?_
                  (try simp only [List.getElem_toArray, List.getElem_cons_succ, List.getElem_cons_zero, Act.put, List.setIfInBounds_toArray, List.set_cons_zero, List.set_cons_succ])
                  go_wp2_with fail
                  have HB3 := Lib.hid (show Below w.heap.size w w3 from HBq.out.trans (HG3.out.b.mono HBq.out.size))
                  have HO3 := Lib.hid (own_fin HG3.out HBq.out.size HM.out hkm HP.out hF (by omega))
                  obtain ⟨g3, cp3, e3, o3⟩ := HO3.out
                  have HI3 := Lib.hid o3
                  clear o3
                  subst e3
                  go_roundg (n - (i + 1))
                  case measure => omega
                  case rel => exact ⟨i + 1, insC cs c, g3, cp3, by omega, rfl, by go_num, rfl, HNx.out, HI3.out, HB3.out⟩
                · go_simp
                  have HX := Lib.hid (show Blk ((wq.drew.alloc (.cells #[] 9)).alloc (.cells ([c].map Value.string).toArray 9)) (wq.heap.size + 1) 9 ([c].map Value.string).toArray from Blk.at_ (by simp))
                  have HGa := Lib.hid (HG0.out.alloc (.cells ([c].map Value.string).toArray 9))
                  (try simp only [Act.put, List.setIfInBounds_toArray, List.set_cons_zero, List.set_cons_succ])
                  refine hK.out _ _ ((HGa.out.b).cell (World.block_lt_of_cell? wq _ cc) |>.trans cc) (fun _ => ?_)
                  clear hK K
                  refine wpAnyH_ready (rs := [4]) (by kernel_rfl) (by simp) ?_
                  refine AllReadyH.cons (o := _) rfl (fun K hK => ?_) (AllReadyH.nil)
                  rw [if_pos (by rfl)]
                  refine HGa.out.wp (.tmp 47) (.tmp 50) 50 rfl Try.underlying50 t0 hi0 (Value.string ⟨#[]⟩) hz0 16 hz1 hz2 rfl (by decide) (by rfl) (⟨g, 0, none⟩) (k) (_) ((cs.take k).map Value.string) (by (try simp only [Act.eval, Act.put]); rfl) (hTl) (HTk.out _ HGa.out.b) (str_one _) (by unfold maxLen; omega) (by omega) ?_
                  intro v1 w1 hg hgr
                  have HG1 := Lib.hid hg
                  have HR1 := Lib.hid hgr
                  clear hg hgr
                  have HX1 := Lib.hid (A3.blk_grown HX.out HR1.out (fun e => by simp [Value.ownBlock] at e))
                  (try simp only [Act.put, List.setIfInBounds_toArray, List.set_cons_zero, List.set_cons_succ])
                  refine hK.out _ _ ((HG1.out.b).cell (World.block_lt_of_cell? wq _ cc) |>.trans cc) (fun _ => ?_)
                  clear hK K
                  refine wpAnyH_ready (rs := [11]) (by kernel_rfl) (by simp) ?_
                  refine AllReadyH.cons (o := _) rfl (fun K hK => ?_) (AllReadyH.nil)
                  rw [if_pos (by rfl)]
                  refine HG1.out.wp (.tmp 51) (.tmp 57) 50 rfl Try.underlying50 t0 hi0 (Value.string ⟨#[]⟩) hz0 16 hz1 hz2 rfl (by decide) (by rfl) (⟨_, 0, none⟩) (1) (1) ([c].map Value.string) (by (try simp only [Act.eval, Act.put]); rfl) (rfl) (A3.blk_news HX1.out) (str_one [c]) (by unfold maxLen; omega) (by omega) ?_
                  intro v2 w2 hg hgr
                  have HG2 := Lib.hid hg
                  have HR2 := Lib.hid hgr
                  clear hg hgr
                  (try simp only [Act.put, List.setIfInBounds_toArray, List.set_cons_zero, List.set_cons_succ])
                  refine hK.out _ _ ((HG2.out.b).cell (World.block_lt_of_cell? wq _ cc) |>.trans cc) (fun _ => ?_)
                  clear hK K
                  refine wpAnyH_ready (rs := [15]) (by kernel_rfl) (by simp) ?_
                  refine AllReadyH.cons (o := _) rfl (fun K hK => ?_) (AllReadyH.nil)
                  rw [if_pos (by rfl)]
                  refine HG2.out.wp (.tmp 58) (.tmp 61) 50 rfl Try.underlying50 t0 hi0 (Value.string ⟨#[]⟩) hz0 16 hz1 hz2 rfl (by decide) (by rfl) (_) (0) (_) ((cs.drop k).map Value.string) (by (try simp only [Act.eval, Act.put]); rfl) (hDl) (HDr.out _ _ HG2.out.b) (str_one _) (by unfold maxLen; omega) (by omega) ?_
                  intro v3 w3 hg hgr
                  have HG3 := Lib.hid hg
                  have HR3 := Lib.hid hgr
                  clear hg hgr
                  (try simp only [Act.put, List.setIfInBounds_toArray, List.set_cons_zero, List.set_cons_succ])
                  refine hK.out _ _ ((HG3.out.b).cell (World.block_lt_of_cell? wq _ cc) |>.trans cc) (fun _ => ?_)
                  clear hK K
                  refine wpAnyH_take (i := 16) (oi := _) (v := ?_) rfl (by kernel_rfl) (by kernel_rfl) (by kernel_rfl) (fun _ _ _ h => h) (Or.inl ⟨by rfl, ?_⟩) (by assumption) ?_; rotate_left; focus (intro W hSw; (try dsimp only at hSw); go_simp; (first | done | with_reducible rfl))
                  (try simp only [List.getElem_toArray, List.getElem_cons_succ, List.getElem_cons_zero, Act.put, List.setIfInBounds_toArray, List.set_cons_zero, List.set_cons_succ])
                  refine wpAnyH_done (by kernel_rfl) ?_ _
                  refine NoPanic.normal ?_
                  (try simp only [List.getElem_toArray, List.getElem_cons_succ, List.getElem_cons_zero, Act.put, List.setIfInBounds_toArray, List.set_cons_zero, List.set_cons_succ])
                  go_wp2_with fail
                  have HB3 := Lib.hid (show Below w.heap.size w w3 from HBq.out.trans (HG3.out.b.mono HBq.out.size))
                  have HO3 := Lib.hid (own_fin HG3.out HBq.out.size HM.out hkm HP.out hF (by omega))
                  obtain ⟨g3, cp3, e3, o3⟩ := HO3.out
                  have HI3 := Lib.hid o3
                  clear o3
                  subst e3
                  go_roundg (n - (i + 1))
                  case measure => omega
                  case rel => exact ⟨i + 1, insC cs c, g3, cp3, by omega, rfl, by go_num, rfl, HNx.out, HI3.out, HB3.out⟩
              · go_simp
                have HX := Lib.hid (Blk.new wq.drew 9 ([c].map Value.string).toArray)
                have HBx := Lib.hid ((Below.refl wq.heap.size wq).drew.alloc (Nat.le_refl _) (.cells ([c].map Value.string).toArray 9))
                (try simp only [Act.put, List.setIfInBounds_toArray, List.set_cons_zero, List.set_cons_succ])
                refine hK.out _ _ ((HBx.out).cell (World.block_lt_of_cell? wq _ cc) |>.trans cc) (fun _ => ?_)
                clear hK K hHeld
                refine wpAnyH_ready (rs := [0]) (by kernel_rfl) (by simp) ?_
                refine AllReadyH.cons (o := _) rfl (fun K hK => ?_) (AllReadyH.nil)
                go_simp
                have HG0 := Lib.hid (show A3.G3 wq 9 1 ((wq.drew.alloc (.cells ([c].map Value.string).toArray 9)).alloc (.cells #[] 9)) (.slice (some ⟨wq.heap.size + 1, 0, none⟩) 0 0) 0 [] from A3.G3.after HBx.out (by simp))
                have HXo := Lib.hid (HX.out.alloc (.cells #[] 9))
                (try simp only [Act.put, List.setIfInBounds_toArray, List.set_cons_zero, List.set_cons_succ])
                refine hK.out _ _ ((HG0.out.b).cell (World.block_lt_of_cell? wq _ cc) |>.trans cc) (fun _ => ?_)
                clear hK K
                refine wpAnyH_ready (rs := [4]) (by kernel_rfl) (by simp) ?_
                refine AllReadyH.cons (o := _) rfl (fun K hK => ?_) (AllReadyH.nil)
                rw [if_pos (by rfl)]
                refine HG0.out.wp (.tmp 47) (.tmp 50) 50 rfl Try.underlying50 t0 hi0 (Value.string ⟨#[]⟩) hz0 16 hz1 hz2 rfl (by decide) (by rfl) (⟨g, 0, none⟩) (k) (_) ((cs.take k).map Value.string) (by (try simp only [Act.eval, Act.put]); rfl) (hTl) (HTk.out _ HG0.out.b) (str_one _) (by unfold maxLen; omega) (by omega) ?_
                intro v1 w1 hg hgr
                have HG1 := Lib.hid hg
                have HR1 := Lib.hid hgr
                clear hg hgr
                have HX1 := Lib.hid (A3.blk_grown HXo.out HR1.out (fun e => by simp [Value.ownBlock] at e))
                (try simp only [Act.put, List.setIfInBounds_toArray, List.set_cons_zero, List.set_cons_succ])
                refine hK.out _ _ ((HG1.out.b).cell (World.block_lt_of_cell? wq _ cc) |>.trans cc) (fun _ => ?_)
                clear hK K
                refine wpAnyH_ready (rs := [11]) (by kernel_rfl) (by simp) ?_
                refine AllReadyH.cons (o := _) rfl (fun K hK => ?_) (AllReadyH.nil)
                rw [if_pos (by rfl)]
                refine HG1.out.wp (.tmp 51) (.tmp 57) 50 rfl Try.underlying50 t0 hi0 (Value.string ⟨#[]⟩) hz0 16 hz1 hz2 rfl (by decide) (by rfl) (⟨_, 0, none⟩) (1) (1) ([c].map Value.string) (by (try simp only [Act.eval, Act.put]); rfl) (rfl) (A3.blk_news HX1.out) (str_one [c]) (by unfold maxLen; omega) (by omega) ?_
                intro v2 w2 hg hgr
                have HG2 := Lib.hid hg
                have HR2 := Lib.hid hgr
                clear hg hgr
                (try simp only [Act.put, List.setIfInBounds_toArray, List.set_cons_zero, List.set_cons_succ])
                refine hK.out _ _ ((HG2.out.b).cell (World.block_lt_of_cell? wq _ cc) |>.trans cc) (fun _ => ?_)
                clear hK K
                refine wpAnyH_ready (rs := [15]) (by kernel_rfl) (by simp) ?_
                refine AllReadyH.cons (o := _) rfl (fun K hK => ?_) (AllReadyH.nil)
                rw [if_pos (by rfl)]
                refine HG2.out.wp (.tmp 58) (.tmp 61) 50 rfl Try.underlying50 t0 hi0 (Value.string ⟨#[]⟩) hz0 16 hz1 hz2 rfl (by decide) (by rfl) (_) (0) (_) ((cs.drop k).map Value.string) (by (try simp only [Act.eval, Act.put]); rfl) (hDl) (HDr.out _ _ HG2.out.b) (str_one _) (by unfold maxLen; omega) (by omega) ?_
                intro v3 w3 hg hgr
                have HG3 := Lib.hid hg
                have HR3 := Lib.hid hgr
                clear hg hgr
                (try simp only [Act.put, List.setIfInBounds_toArray, List.set_cons_zero, List.set_cons_succ])
                refine hK.out _ _ ((HG3.out.b).cell (World.block_lt_of_cell? wq _ cc) |>.trans cc) (fun _ => ?_)
                clear hK K
                refine wpAnyH_take (i := 16) (oi := _) (v := ?_) rfl (by kernel_rfl) (by kernel_rfl) (by kernel_rfl) (fun _ _ _ h => h) (Or.inl ⟨by rfl, ?_⟩) (by assumption) ?_; rotate_left; focus (intro W hSw; (try dsimp only at hSw); go_simp; (first | done | with_reducible rfl))
                (try simp only [List.getElem_toArray, List.getElem_cons_succ, List.getElem_cons_zero, Act.put, List.setIfInBounds_toArray, List.set_cons_zero, List.set_cons_succ])
                refine wpAnyH_done (by kernel_rfl) ?_ _
                refine NoPanic.normal ?_
                (try simp only [List.getElem_toArray, List.getElem_cons_succ, List.getElem_cons_zero, Act.put, List.setIfInBounds_toArray, List.set_cons_zero, List.set_cons_succ])
                go_wp2_with fail
                have HB3 := Lib.hid (show Below w.heap.size w w3 from HBq.out.trans (HG3.out.b.mono HBq.out.size))
                have HO3 := Lib.hid (own_fin HG3.out HBq.out.size HM.out hkm HP.out hF (by omega))
                obtain ⟨g3, cp3, e3, o3⟩ := HO3.out
                have HI3 := Lib.hid o3
                clear o3
                subst e3
                go_roundg (n - (i + 1))
                case measure => omega
                case rel => exact ⟨i + 1, insC cs c, g3, cp3, by omega, rfl, by go_num, rfl, HNx.out, HI3.out, HB3.out⟩
    · obtain rfl : i = n := by omega
      have hq : StrK.Own wr w.heap.size (.slice (some ⟨g, 0, none⟩) m cp) (clubL rs) := by
        have := HO.out
        rw [HC.out, List.take_of_length_le (by rw [HN.out]; exact Nat.le_refl _)] at this
        exact this
      have HQ := Lib.hid hq
      clear hq
      go_wp2_with fail
      go_ret
      exact ⟨_, rfl, HQ.out, HB.out⟩

end Go.Proofs.Ytjngnjokbnklfaa.ClS
