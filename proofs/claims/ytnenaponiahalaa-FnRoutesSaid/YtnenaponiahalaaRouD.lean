/- A drawn route on a drawn map: the contract. -/
import Derived.Test.YtnenaponiahalaaDrwR
import Derived.Test.YtnenaponiahalaaBstS
import Derived.Test.YtnenaponiahalaaCelD
namespace Go.Proofs.Ytnenaponiahalaa.RouD
open Go.RowKit Lb Cur IntS MapS MapV SpecB CurM CodM DrwM
set_option linter.unusedSimpArgs false
set_option linter.unusedVariables false

/-- What stands while a route grows: the map, the reader, a list of its own. -/
structure RSt (w : World) (m : Mp) (ar : Option Addr) (cr : Nat) (ac : Option Addr) (cc b B mm : Nat) (v : Value) (zs : List Int) (wx : World) : Prop where
  st : OSt w m ar cr ac cc b B mm wx
  own : OwnI wx w.heap.size v zs
section
variable {w : World} {m : Mp} {ar ac : Option Addr} {cr cc b B mm : Nat} {v : Value} {zs : List Int} {wx w' : World}
theorem RSt.below (h : RSt w m ar cr ac cc b B mm v zs wx) (hb : Below wx.heap.size wx w') : RSt w m ar cr ac cc b B mm v zs w' := ⟨h.st.below hb, owns_below h.own hb⟩
theorem RSt.drew (h : RSt w m ar cr ac cc b B mm v zs wx) : RSt w m ar cr ac cc b B mm v zs wx.drew := ⟨h.st.drew, h.own⟩
theorem RSt.mono {mm' : Nat} (h : RSt w m ar cr ac cc b B mm v zs wx) (hm : mm ≤ mm') : RSt w m ar cr ac cc b B mm' v zs wx := ⟨h.st.mono hm, h.own⟩
theorem RSt.step {mm' : Nat} (h : RSt w m ar cr ac cc b B mm v zs wx) (hB : b ≠ B) (hb : b < w.heap.size) (n1 : ∀ x, ar = some x → x.block ≠ b) (n2 : ∀ x, ac = some x → x.block ≠ b) (ho : Ok w' b mm') (hg : wx.grownBy w' (some b)) : RSt w m ar cr ac cc b B mm' v zs w' :=
  ⟨h.st.step hB n1 n2 ho hg, own_grown h.own hg (fun x y hx hy => by cases hy; have := (h.own.lt x hx).1; omega)⟩
/-- The list grows. -/
theorem RSt.put {v' : Value} {zs' : List Int} (h : RSt w m ar cr ac cc b B mm v zs wx) (hb : b < w.heap.size) (l1 : ∀ x, ar = some x → x.block < w.heap.size) (l2 : ∀ x, ac = some x → x.block < w.heap.size) (hg : wx.grownBy w' v.ownBlock) (ho : OwnI w' w.heap.size v' zs') : RSt w m ar cr ac cc b B mm v' zs' w' := by
  have hB : Below w.heap.size wx w' := (Below.refl _ _).grown hg h.st.g.size (fun k e => (h.own.lt k e).1)
  refine ⟨⟨blk_grown h.st.box hg (own_ne h.own h.st.box (by decide)), row_beside h.st.r hg (fun x e hx => ?_), row_beside h.st.c hg (fun x e hx => ?_), ok_belowB h.st.ok hB hb, grown_B h.st.g hB (Nat.le_refl _)⟩, ho⟩
  · have h3 := (h.own.lt _ hx).1; have h4 := l1 x e; omega
  · have h3 := (h.own.lt _ hx).1; have h4 := l2 x e; omega
end

set_option maxRecDepth 100000 in
set_option maxHeartbeats 8000000 in
theorem route_any (b mm : Nat) (m : Mp) (ar ac : Option Addr) (cr cc : Nat) (w : World) (hm : mm ≤ 1152921504606840000) (hR : m.R.length ≤ 21) (hC : m.C.length ≤ 21) (h1 : IRow w ar m.R) (h2 : IRow w ac m.C) (n1 : ∀ x, ar = some x → x.block ≠ b) (n2 : ∀ x, ac = some x → x.block ≠ b) (l1 : ∀ x, ar = some x → x.block < w.heap.size) (l2 : ∀ x, ac = some x → x.block < w.heap.size) (hok : Ok w b mm) :
    Calls Try.prog 92 #[.pointer (some ⟨b, 0, none⟩), .agg #[.int .i64 m.W, .int .i64 m.H, .slice ar m.R.length cr, .slice ac m.C.length cc]] w fun e w' => (∃ v zs, e = .returned v ∧ OwnI w' w.heap.size v zs ∧ zs.length ≤ 1006) ∧ Ok w' b (mm + 100) ∧ w.grownBy w' (some b) := by
  obtain ⟨t0, hi0, hz0, hz1, hz2⟩ := info_parts iInfo
  have hbl := hok.lt
  obtain ⟨B, hBe⟩ : ∃ B, w.heap.size = B := ⟨_, rfl⟩
  have hbB : b ≠ B := by omega
  have HS0 := Lib.hid (show OSt w m ar cr ac cc b B mm (w.alloc (.cells #[.int .i64 m.W, .int .i64 m.H, .slice ar m.R.length cr, .slice ac m.C.length cc] 26)) from by
    have hA : Below w.heap.size w (w.alloc (.cells #[.int .i64 m.W, .int .i64 m.H, .slice ar m.R.length cr, .slice ac m.C.length cc] 26)) := (Below.refl _ _).alloc (Nat.le_refl _) _
    refine ⟨?_, row_beside h1 (gbelow hA none) (by simp), row_beside h2 (gbelow hA none) (by simp), hok.below hA, gbelow hA _⟩
    rw [← hBe]
    exact Blk.new w 26 #[.int .i64 m.W, .int .i64 m.H, .slice ar m.R.length cr, .slice ac m.C.length cc])
  have hRm : m.R.length ≤ maxLen := by unfold maxLen; omega
  have hCm : m.C.length ≤ maxLen := by unfold maxLen; omega
  have N1 := Lib.hid n1
  have N2 := Lib.hid n2
  have L1 := Lib.hid l1
  have L2 := Lib.hid l2
  clear hok h1 h2 n1 n2 l1 l2
  have HS1 := Lib.hid HS0.out.drew
  obtain ⟨p0, p1, p2, p3, -⟩ := HS0.out.box.four
  rw [← hBe] at p0 p1 p2 p3
  go_enter Try.func92, Try.ntmps92
  go_upto_region 1 with (fail)
  have hBw := Lib.hid hBe
  clear hBe HS0 p0 p1 p2 p3
  obtain ⟨p0, p1, p2, p3, -⟩ := HS1.out.box.four
  refine wp_region_noPanic ?_
  refine wp_region_held_drew (S := (fun Wx : World => Wx.cell? ⟨B, 0, none⟩ = some (.int .i64 m.W) ∧ Wx.cell? ⟨B, 1, none⟩ = some (.int .i64 m.H) ∧ Wx.cell? ⟨B, 2, none⟩ = some (.slice ar m.R.length cr) ∧ Wx.cell? ⟨B, 3, none⟩ = some (.slice ac m.C.length cc))) (by kernel_rfl) ⟨p0, p1, p2, p3⟩ (fun hHeld => ?_)
  refine wpAnyH_take (i := 0) (oi := _) (v := ?_) rfl (by kernel_rfl) (by kernel_rfl) (by kernel_rfl) (fun _ _ _ h => h) (Or.inl ⟨by rfl, ?_⟩) (by assumption) ?_; rotate_left; focus (intro W hSw; (try dsimp only at hSw); go_simp; (first | done | with_reducible rfl))
  (try simp only [List.getElem_toArray, List.getElem_cons_succ, List.getElem_cons_zero, Act.put, List.setIfInBounds_toArray, List.set_cons_zero, List.set_cons_succ])
  refine wpAnyH_take (i := 1) (oi := _) (v := ?_) rfl (by kernel_rfl) (by kernel_rfl) (by kernel_rfl) (fun _ _ _ h => h) (Or.inl ⟨by rfl, ?_⟩) (by assumption) ?_; rotate_left; focus (intro W hSw; (try dsimp only at hSw); go_simp; (first | done | with_reducible rfl))
  (try simp only [List.getElem_toArray, List.getElem_cons_succ, List.getElem_cons_zero, Act.put, List.setIfInBounds_toArray, List.set_cons_zero, List.set_cons_succ])
  refine wpAnyH_take (i := 3) (oi := _) (v := ?_) rfl (by kernel_rfl) (by kernel_rfl) (by kernel_rfl) (fun _ _ _ h => h) (Or.inl ⟨by rfl, ?_⟩) (by assumption) ?_; rotate_left; focus (intro W hSw; (try dsimp only at hSw); go_simp; (first | done | with_reducible rfl))
  (try simp only [List.getElem_toArray, List.getElem_cons_succ, List.getElem_cons_zero, Act.put, List.setIfInBounds_toArray, List.set_cons_zero, List.set_cons_succ])
  refine wpAnyH_take (i := 4) (oi := _) (v := ?_) rfl (by kernel_rfl) (by kernel_rfl) (by kernel_rfl) (fun _ _ _ h => h) (Or.inl ⟨by rfl, ?_⟩) (by assumption) ?_; rotate_left; focus (intro W hSw; (try dsimp only at hSw); go_simp; (first | done | with_reducible rfl))
  (try simp only [List.getElem_toArray, List.getElem_cons_succ, List.getElem_cons_zero, Act.put, List.setIfInBounds_toArray, List.set_cons_zero, List.set_cons_succ])
  refine wpAnyH_ready (rs := [2]) (by kernel_rfl) (by simp) ?_
  refine AllReadyH.cons (o := _) rfl (fun K hK => ?_) AllReadyH.nil
  go_simp
  go_at_call 127
  refine (open_any b mm m ar ac cr cc _ (by omega) hR hC HS1.out.r HS1.out.c N1.out N2.out HS1.out.ok).mono ?_
  rintro e w1 ⟨⟨z1, rfl⟩, hok, hg⟩
  have HS2 := Lib.hid (HS1.out.step hbB N1.out N2.out hok hg)
  clear hok hg p0 p1 p2 p3
  obtain ⟨p0, p1, p2, p3, -⟩ := HS2.out.box.four
  go_wp2_with fail
  refine hK.out _ _ ⟨p0, p1, p2, p3⟩ (fun _ => ?_)
  clear hK K hHeld
  refine wpAnyH_ready (rs := [5]) (by kernel_rfl) (by simp) ?_
  refine AllReadyH.cons (o := _) rfl (fun K hK => ?_) AllReadyH.nil
  go_simp
  go_at_call 127
  refine (open_any b (mm + 6) m ar ac cr cc _ (by omega) hR hC HS2.out.r HS2.out.c N1.out N2.out HS2.out.ok).mono ?_
  rintro e w2 ⟨⟨z2, rfl⟩, hok, hg⟩
  have HS3 := Lib.hid (HS2.out.step hbB N1.out N2.out hok hg)
  clear hok hg p0 p1 p2 p3
  obtain ⟨p0, p1, p2, p3, -⟩ := HS3.out.box.four
  go_wp2_with fail
  refine hK.out _ _ ⟨p0, p1, p2, p3⟩ (fun _ => ?_)
  clear hK K
  refine wpAnyH_take (i := 6) (oi := _) (v := ?_) rfl (by kernel_rfl) (by kernel_rfl) (by kernel_rfl) (fun _ _ _ h => h) (Or.inl ⟨by rfl, ?_⟩) (by assumption) ?_; rotate_left; focus (intro W hSw; (try dsimp only at hSw); go_simp; (first | done | with_reducible rfl))
  (try simp only [List.getElem_toArray, List.getElem_cons_succ, List.getElem_cons_zero, Act.put, List.setIfInBounds_toArray, List.set_cons_zero, List.set_cons_succ])
  refine wpAnyH_take (i := 7) (oi := _) (v := ?_) rfl (by kernel_rfl) (by kernel_rfl) (by kernel_rfl) (fun _ _ _ h => h) (Or.inl ⟨by rfl, ?_⟩) (by assumption) ?_; rotate_left; focus (intro W hSw; (try dsimp only at hSw); go_simp; (first | done | with_reducible rfl))
  (try simp only [List.getElem_toArray, List.getElem_cons_succ, List.getElem_cons_zero, Act.put, List.setIfInBounds_toArray, List.set_cons_zero, List.set_cons_succ])
  refine wpAnyH_done (by kernel_rfl) ?_ _
  refine NoPanic.normal ?_
  (try simp only [List.getElem_toArray, List.getElem_cons_succ, List.getElem_cons_zero, Act.put, List.setIfInBounds_toArray, List.set_cons_zero, List.set_cons_succ])
  obtain ⟨zs, okr, hzl, hsp, -⟩ := BstS.both_v m z1 z2
  have HSP := Lib.hid hsp
  clear hsp HS1 HS2
  go_wp2_with fail
  refine (HSP.out ar ac cr cc _ hRm hCm HS3.out.r HS3.out.c).mono ?_
  rintro e w4 ⟨v, rfl, ho, hb4⟩
  have HB4 := Lib.hid (show OSt w m ar cr ac cc b B (mm + 12) w4 from HS3.out.below hb4)
  have hsz := HS3.out.g.size
  obtain ⟨a4, c4, rfl, -, -⟩ := OwnI.slice ho
  have HT := Lib.hid (show RSt w m ar cr ac cc b B (mm + 12) (.slice a4 zs.length c4) zs w4 from ⟨HB4.out, rebase ho hsz⟩)
  clear ho hb4 HSP p0 p1 p2 p3 HS3 HB4
  have key : True := trivial
  cases okr with
  | true =>
    go_wp2_with fail
    refine (one_any b (mm + 12) 5 _ (by omega) (by omega) (by omega) HT.out.st.ok).mono ?_
    rintro e w5 ⟨⟨t, rfl⟩, hok, hg⟩
    have HU := Lib.hid (HT.out.step hbB hbl N1.out N2.out hok hg)
    clear hok hg HT
    cases t with
    | false =>
      go_wp2
      go_ret
      exact ⟨⟨_, zs, rfl, HU.out.own, by omega⟩, HU.out.st.ok.mono (by omega), HU.out.st.g⟩
    | true =>
      go_wp2_with fail
      have HV := Lib.hid (show RSt w m ar cr ac cc b B (mm + 14) (.slice (some ⟨w5.heap.size, 0, none⟩) 1 1) [z1] (w5.alloc (.cells #[.int .i64 z1] 3)) from ⟨HU.out.st.below ((Below.refl _ _).alloc (Nat.le_refl _) _), BstI.own_one w5 w.heap.size z1 HU.out.st.g.size⟩)
      refine (pick_any b (mm + 14) 5 _ (by omega) (by omega) (by omega) HV.out.st.ok).mono ?_
      rintro e w6 ⟨⟨r, rfl, _, hr⟩, hok, hg⟩
      have hr5 : r < 5 := by omega
      have HW := Lib.hid (HV.out.step hbB hbl N1.out N2.out hok hg)
      clear hok hg HU HV hr
      go_wp2_with fail
      go_loopg [9, 7] r (fun q kk v wr => ∃ (k j : Nat) (zl : List Int), j + k = r ∧ q = k ∧ kk = .int .i64 k ∧ 1 ≤ zl.length ∧ zl.length ≤ j + 1 ∧ RSt w m ar cr ac cc b B (mm + 16 + 2 * j) v zl wr)
      case atStart => exact ⟨r, 0, [z1], by omega, rfl, rfl, by simp, by simp, HW.out⟩
      case round =>
        clear HW
        obtain ⟨k, j, zl, hjk, hq, rfl, hy1, hy2, hS⟩ := hrel
        have HS := Lib.hid hS
        clear hS
        obtain ⟨n7, hn7⟩ : ∃ n, zl.length = n := ⟨_, rfl⟩
        have HL := Lib.hid hn7
        rw [hn7] at hy1 hy2
        obtain ⟨a7, c7, h7, -, -⟩ := OwnI.slice HS.out.own
        rw [hn7] at h7
        subst h7
        clear hn7
        have hnj : n7 ≤ 5 := by omega
        have hj5 : j ≤ 5 := by omega
        rcases Nat.eq_zero_or_pos k with rfl | hkp
        · go_wp2_with fail
          refine (one_any b (mm + 16 + 2 * j) 16 _ (by omega) (by omega) (by omega) HS.out.st.ok).mono ?_
          rintro e w6 ⟨⟨t, rfl⟩, hok, hg⟩
          have HX := Lib.hid (HS.out.step hbB hbl N1.out N2.out hok hg)
          clear hok hg HS
          cases t with
          | false =>
            go_wp2
            go_ret
            exact ⟨⟨_, zl, rfl, HX.out.own, by have := HL.out; omega⟩, HX.out.st.ok.mono (by omega), HX.out.st.g⟩
          | true =>
            obtain ⟨p0, p1, p2, p3, -⟩ := HX.out.st.box.four
            go_wp2_with fail
            refine (cell_any b (mm + 16 + 2 * j + 2) m ar ac cr cc _ (by omega) hC HX.out.st.ok).mono ?_
            rintro e w7 ⟨⟨z7, rfl⟩, hok, hg⟩
            have HY := Lib.hid (HX.out.step hbB hbl N1.out N2.out hok hg)
            have HA := Lib.hid (HY.out.below ((Below.refl _ _).alloc (Nat.le_refl _) (.cells #[.int .i64 z7] 3)))
            clear hok hg HX p0 p1 p2 p3
            have hgs := HY.out.st.g.size
            have hown := HA.out.own
            unfold OwnI at hown
            rw [HL.out] at hown
            have h63 : n7 + 1 ≤ maxLen := by unfold maxLen; omega
            have h64 : (n7 + 1) * 8 ≤ 140737488355328 := by omega
            go_wp2_with (at_builtin; (refine wpList_append_own _ rfl (.tmp 71) (.tmp 75) 24 rfl w.heap.size 3 t0 (.int .i64 0) 1 8 Try.underlying24 hi0 hz0 hz1 hz2 rfl (by decide) (.slice a7 n7 c7) n7 _ rfl hown ⟨_, 0, none⟩ 1 1 [.int .i64 z7] rfl rfl (cell_one_new _ _ _) (by simp [Value.oneCell']) h63 h64 (by simp <;> omega) ?_; intro v9 w9 hown3 hgr3 _; have HP := Lib.hid (HA.out.put hbl L1.out L2.out hgr3 (BfoB.own_put (zs := zl) (by rw [HL.out]; exact hown3))); clear hown3 hgr3))
            go_ret
            exact ⟨⟨_, zl ++ [z7], rfl, HP.out.own, by have := HL.out; simp; omega⟩, HP.out.st.ok.mono (by omega), HP.out.st.g⟩
        obtain ⟨k1, rfl⟩ : ∃ k1, k = k1 + 1 := ⟨k - 1, by omega⟩
        obtain ⟨kk, hkk⟩ : ∃ kk, k1 + 1 = kk := ⟨_, rfl⟩
        rw [hkk]
        have hkz : (0 : Int) < (kk : Int) := by omega
        have hkw : IntKind.i64.wrap ((kk : Int) - 1) = (k1 : Int) := by rw [IntWalk.i64_in _ (by omega)]; omega
        have HKK := Lib.hid hkk
        have HJK := Lib.hid hjk
        clear hkk hjk hkp
        obtain ⟨p0, p1, p2, p3, -⟩ := HS.out.st.box.four
        by_cases hmo : m.ok
        · have hk := okB_yes hmo
          obtain ⟨ww, hh, g⟩ := good_of hmo
          have HG := Lib.hid g
          have h36 := g.n36
          clear hmo g
          go_wp2_with fail
          refine (MapV.spec_any m ar ac cr cc _ hRm hCm HS.out.st.r HS.out.st.c).mono ?_
          rw [hk]
          rintro e w7 ⟨rfl, hb⟩
          have HS7 := Lib.hid (HS.out.below hb)
          clear hb hk HS p0 p1 p2 p3
          obtain ⟨p0, p1, p2, p3, -⟩ := HS7.out.st.box.four
          obtain ⟨n6, hn6⟩ : ∃ n6, n7 = n6 + 1 := ⟨n7 - 1, by omega⟩
          have hwn : IntKind.i64.wrap ((n7 : Int) - 1) = (n6 : Int) := by rw [IntWalk.i64_in _ (by omega)]; omega
          have hn60 : (0 : Int) ≤ (n6 : Int) := by omega
          have hn61 : (n6 : Int) < (n7 : Int) := by omega
          have hn62 : n6 < n7 := by omega
          have hr7 : IRow w7 a7 zl := OwnI.row (cap := c7) (by have h := HS7.out.own; rw [← HL.out] at h; exact h)
          clear hn6
          rcases hr7 with h0 | ⟨g7, off7, rfl, hc7⟩
          · exfalso; have := HL.out; omega
          have q7 : w7.cell? ⟨g7, off7 + n6, none⟩ = some (.int .i64 (zAt zl n6)) := hc7 n6 (by rw [HL.out]; exact hn62)
          clear hc7
          obtain ⟨last, hlast⟩ : ∃ x, zAt zl n6 = x := ⟨_, rfl⟩
          rw [hlast] at q7
          clear hlast
          go_wp2_with fail
          refine (Cells.scell m ww hh HG.out ar ac cr cc last _).mono ?_
          by_cases hin : 0 ≤ last ∧ last < (ww * hh : Nat)
          · rw [decide_eq_true hin]
            rintro e w8 ⟨rfl, hb⟩
            have HS8 := Lib.hid (HS7.out.below hb)
            clear hb HS7 p0 p1 p2 p3 q7
            obtain ⟨c, rfl⟩ : ∃ c : Nat, last = c := ⟨last.toNat, by omega⟩
            have hcl : c < ww * hh := by omega
            clear hin
            obtain ⟨p0, p1, p2, p3, -⟩ := HS8.out.st.box.four
            go_wp2_with fail
            refine (Cells.spec_next m ww hh HG.out ar ac cr cc c _ HS8.out.st.c hcl).mono ?_
            rintro e w9 ⟨⟨v8, rfl, ho8⟩, hb⟩
            have hs8 := HS8.out.st.g.size
            have HS9 := Lib.hid (HS8.out.below hb)
            obtain ⟨a8, c8, rfl, -, -⟩ := OwnI.slice ho8
            obtain ⟨n8, hn8⟩ : ∃ n, (nx m c).length = n := ⟨_, rfl⟩
            have hnl := nx_length m c
            rw [ints_length] at ho8 ⊢
            rw [hn8] at ho8 hnl ⊢
            have HO8 := Lib.hid ho8
            have HE8 := Lib.hid hn8
            clear hb HS8 p0 p1 p2 p3 ho8 hn8
            by_cases h80 : n8 = 0
            · subst h80
              go_wp2_with fail
              go_roundg k1
              case measure => have := HKK.out; omega
              case rel => exact ⟨k1, j + 1, zl, by have := HJK.out; omega, rfl, by go_num, by have := HL.out; omega, by have := HL.out; omega, HS9.out.mono (by omega)⟩
            · have h8p : (0 : Int) < (n8 : Int) := by omega
              go_wp2_with fail
              refine (pick_any b (mm + 16 + 2 * j) n8 _ (by omega) (by omega) (by omega) HS9.out.st.ok).mono ?_
              rintro e w10 ⟨⟨r8, rfl, _, hr8⟩, hok, hg⟩
              have hr8n : r8 < n8 := by omega
              have hr80 : (0 : Int) ≤ (r8 : Int) := by omega
              have hr81 : (r8 : Int) < (n8 : Int) := by omega
              have HS10 := Lib.hid (HS9.out.step hbB hbl N1.out N2.out hok hg)
              have ho10 : OwnI w10 w8.heap.size (.slice a8 n8 c8) (ints (nx m c)) := own_grown HO8.out hg (fun x y hx hy => by cases hy; have := (HO8.out.lt x hx).1; omega)
              rw [← HE8.out] at ho10
              have hrow := BfoB.irow_of ho10
              clear ho10
              rcases hrow with h0 | ⟨g8, off8, rfl, hc8⟩
              · exfalso; rw [ints_length] at h0; have := HE8.out; omega
              have q8 : w10.cell? ⟨g8, off8 + r8, none⟩ = some (.int .i64 (zAt (ints (nx m c)) r8)) := hc8 r8 (by rw [ints_length, HE8.out]; exact hr8n)
              obtain ⟨y, hy⟩ : ∃ x, zAt (ints (nx m c)) r8 = x := ⟨_, rfl⟩
              rw [hy] at q8
              clear hc8 hy hr8 hok hg HS9 HO8
              have HA := Lib.hid (HS10.out.below ((Below.refl _ _).alloc (Nat.le_refl _) (.cells #[.int .i64 y] 3)))
              have hgs := HS10.out.st.g.size
              have hown := HA.out.own
              unfold OwnI at hown
              rw [HL.out] at hown
              have h63 : n7 + 1 ≤ maxLen := by unfold maxLen; omega
              have h64 : (n7 + 1) * 8 ≤ 140737488355328 := by omega
              go_wp2_with (at_builtin; (refine wpList_append_own _ rfl (.tmp 59) (.tmp 67) 24 rfl w.heap.size 3 t0 (.int .i64 0) 1 8 Try.underlying24 hi0 hz0 hz1 hz2 rfl (by decide) (.slice (some ⟨g7, off7, none⟩) n7 c7) n7 _ rfl hown ⟨_, 0, none⟩ 1 1 [.int .i64 y] rfl rfl (cell_one_new _ _ _) (by simp [Value.oneCell']) h63 h64 (by simp <;> omega) ?_; intro v9 w9 hown3 hgr3 _; have HP := Lib.hid (HA.out.put hbl L1.out L2.out hgr3 (BfoB.own_put (zs := zl) (by rw [HL.out]; exact hown3))); clear hown3 hgr3))
              go_roundg k1
              case measure => have := HKK.out; omega
              case rel => exact ⟨k1, j + 1, zl ++ [y], by have := HJK.out; omega, rfl, by go_num, by simp, by have := HL.out; simp; omega, HP.out.mono (by omega)⟩
          · rw [decide_eq_false hin]
            rintro e w8 ⟨rfl, hb⟩
            have HS8 := Lib.hid (HS7.out.below hb)
            clear hb HS7 p0 p1 p2 p3 q7 hin
            go_wp2_with fail
            go_roundg k1
            case measure => have := HKK.out; omega
            case rel => exact ⟨k1, j + 1, zl, by have := HJK.out; omega, rfl, by go_num, by have := HL.out; omega, by have := HL.out; omega, HS8.out.mono (by omega)⟩
        · have hk := okB_no hmo
          clear hmo
          go_wp2_with fail
          refine (MapV.spec_any m ar ac cr cc _ hRm hCm HS.out.st.r HS.out.st.c).mono ?_
          rw [hk]
          rintro e w7 ⟨rfl, hb⟩
          have HS7 := Lib.hid (HS.out.below hb)
          clear hb hk HS p0 p1 p2 p3
          have HS := HS7
          clear HS7
          go_wp2_with fail
          refine (one_any b (mm + 16 + 2 * j) 16 _ (by omega) (by omega) (by omega) HS.out.st.ok).mono ?_
          rintro e w6 ⟨⟨t, rfl⟩, hok, hg⟩
          have HX := Lib.hid (HS.out.step hbB hbl N1.out N2.out hok hg)
          clear hok hg HS
          cases t with
          | false =>
            go_wp2
            go_ret
            exact ⟨⟨_, zl, rfl, HX.out.own, by have := HL.out; omega⟩, HX.out.st.ok.mono (by omega), HX.out.st.g⟩
          | true =>
            obtain ⟨p0, p1, p2, p3, -⟩ := HX.out.st.box.four
            go_wp2_with fail
            refine (cell_any b (mm + 16 + 2 * j + 2) m ar ac cr cc _ (by omega) hC HX.out.st.ok).mono ?_
            rintro e w7 ⟨⟨z7, rfl⟩, hok, hg⟩
            have HY := Lib.hid (HX.out.step hbB hbl N1.out N2.out hok hg)
            have HA := Lib.hid (HY.out.below ((Below.refl _ _).alloc (Nat.le_refl _) (.cells #[.int .i64 z7] 3)))
            clear hok hg HX p0 p1 p2 p3
            have hgs := HY.out.st.g.size
            have hown := HA.out.own
            unfold OwnI at hown
            rw [HL.out] at hown
            have h63 : n7 + 1 ≤ maxLen := by unfold maxLen; omega
            have h64 : (n7 + 1) * 8 ≤ 140737488355328 := by omega
            go_wp2_with (at_builtin; (refine wpList_append_own _ rfl (.tmp 71) (.tmp 75) 24 rfl w.heap.size 3 t0 (.int .i64 0) 1 8 Try.underlying24 hi0 hz0 hz1 hz2 rfl (by decide) (.slice a7 n7 c7) n7 _ rfl hown ⟨_, 0, none⟩ 1 1 [.int .i64 z7] rfl rfl (cell_one_new _ _ _) (by simp [Value.oneCell']) h63 h64 (by simp <;> omega) ?_; intro v9 w9 hown3 hgr3 _; have HP := Lib.hid (HA.out.put hbl L1.out L2.out hgr3 (BfoB.own_put (zs := zl) (by rw [HL.out]; exact hown3))); clear hown3 hgr3))
            go_ret
            exact ⟨⟨_, zl ++ [z7], rfl, HP.out.own, by have := HL.out; simp; omega⟩, HP.out.st.ok.mono (by omega), HP.out.st.g⟩
  | false =>
    have HU := Lib.hid (HT.out.mono (show mm + 12 ≤ mm + 14 by omega))
    clear HT
    revert HU
    generalize w4 = w5
    intro HU
    go_wp2_with fail
    have HV := Lib.hid (show RSt w m ar cr ac cc b B (mm + 14) (.slice (some ⟨w5.heap.size, 0, none⟩) 1 1) [z1] (w5.alloc (.cells #[.int .i64 z1] 3)) from ⟨HU.out.st.below ((Below.refl _ _).alloc (Nat.le_refl _) _), BstI.own_one w5 w.heap.size z1 HU.out.st.g.size⟩)
    refine (pick_any b (mm + 14) 5 _ (by omega) (by omega) (by omega) HV.out.st.ok).mono ?_
    rintro e w6 ⟨⟨r, rfl, _, hr⟩, hok, hg⟩
    have hr5 : r < 5 := by omega
    have HW := Lib.hid (HV.out.step hbB hbl N1.out N2.out hok hg)
    clear hok hg HU HV hr
    go_wp2_with fail
    go_loopg [9, 7] r (fun q kk v wr => ∃ (k j : Nat) (zl : List Int), j + k = r ∧ q = k ∧ kk = .int .i64 k ∧ 1 ≤ zl.length ∧ zl.length ≤ j + 1 ∧ RSt w m ar cr ac cc b B (mm + 16 + 2 * j) v zl wr)
    case atStart => exact ⟨r, 0, [z1], by omega, rfl, rfl, by simp, by simp, HW.out⟩
    case round =>
      clear HW
      obtain ⟨k, j, zl, hjk, hq, rfl, hy1, hy2, hS⟩ := hrel
      have HS := Lib.hid hS
      clear hS
      obtain ⟨n7, hn7⟩ : ∃ n, zl.length = n := ⟨_, rfl⟩
      have HL := Lib.hid hn7
      rw [hn7] at hy1 hy2
      obtain ⟨a7, c7, h7, -, -⟩ := OwnI.slice HS.out.own
      rw [hn7] at h7
      subst h7
      clear hn7
      have hnj : n7 ≤ 5 := by omega
      have hj5 : j ≤ 5 := by omega
      rcases Nat.eq_zero_or_pos k with rfl | hkp
      · go_wp2_with fail
        refine (one_any b (mm + 16 + 2 * j) 16 _ (by omega) (by omega) (by omega) HS.out.st.ok).mono ?_
        rintro e w6 ⟨⟨t, rfl⟩, hok, hg⟩
        have HX := Lib.hid (HS.out.step hbB hbl N1.out N2.out hok hg)
        clear hok hg HS
        cases t with
        | false =>
          go_wp2
          go_ret
          exact ⟨⟨_, zl, rfl, HX.out.own, by have := HL.out; omega⟩, HX.out.st.ok.mono (by omega), HX.out.st.g⟩
        | true =>
          obtain ⟨p0, p1, p2, p3, -⟩ := HX.out.st.box.four
          go_wp2_with fail
          refine (cell_any b (mm + 16 + 2 * j + 2) m ar ac cr cc _ (by omega) hC HX.out.st.ok).mono ?_
          rintro e w7 ⟨⟨z7, rfl⟩, hok, hg⟩
          have HY := Lib.hid (HX.out.step hbB hbl N1.out N2.out hok hg)
          have HA := Lib.hid (HY.out.below ((Below.refl _ _).alloc (Nat.le_refl _) (.cells #[.int .i64 z7] 3)))
          clear hok hg HX p0 p1 p2 p3
          have hgs := HY.out.st.g.size
          have hown := HA.out.own
          unfold OwnI at hown
          rw [HL.out] at hown
          have h63 : n7 + 1 ≤ maxLen := by unfold maxLen; omega
          have h64 : (n7 + 1) * 8 ≤ 140737488355328 := by omega
          go_wp2_with (at_builtin; (refine wpList_append_own _ rfl (.tmp 71) (.tmp 75) 24 rfl w.heap.size 3 t0 (.int .i64 0) 1 8 Try.underlying24 hi0 hz0 hz1 hz2 rfl (by decide) (.slice a7 n7 c7) n7 _ rfl hown ⟨_, 0, none⟩ 1 1 [.int .i64 z7] rfl rfl (cell_one_new _ _ _) (by simp [Value.oneCell']) h63 h64 (by simp <;> omega) ?_; intro v9 w9 hown3 hgr3 _; have HP := Lib.hid (HA.out.put hbl L1.out L2.out hgr3 (BfoB.own_put (zs := zl) (by rw [HL.out]; exact hown3))); clear hown3 hgr3))
          go_ret
          exact ⟨⟨_, zl ++ [z7], rfl, HP.out.own, by have := HL.out; simp; omega⟩, HP.out.st.ok.mono (by omega), HP.out.st.g⟩
      obtain ⟨k1, rfl⟩ : ∃ k1, k = k1 + 1 := ⟨k - 1, by omega⟩
      obtain ⟨kk, hkk⟩ : ∃ kk, k1 + 1 = kk := ⟨_, rfl⟩
      rw [hkk]
      have hkz : (0 : Int) < (kk : Int) := by omega
      have hkw : IntKind.i64.wrap ((kk : Int) - 1) = (k1 : Int) := by rw [IntWalk.i64_in _ (by omega)]; omega
      have HKK := Lib.hid hkk
      have HJK := Lib.hid hjk
      clear hkk hjk hkp
      obtain ⟨p0, p1, p2, p3, -⟩ := HS.out.st.box.four
      by_cases hmo : m.ok
      · have hk := okB_yes hmo
        obtain ⟨ww, hh, g⟩ := good_of hmo
        have HG := Lib.hid g
        have h36 := g.n36
        clear hmo g
        go_wp2_with fail
        refine (MapV.spec_any m ar ac cr cc _ hRm hCm HS.out.st.r HS.out.st.c).mono ?_
        rw [hk]
        rintro e w7 ⟨rfl, hb⟩
        have HS7 := Lib.hid (HS.out.below hb)
        clear hb hk HS p0 p1 p2 p3
        obtain ⟨p0, p1, p2, p3, -⟩ := HS7.out.st.box.four
        obtain ⟨n6, hn6⟩ : ∃ n6, n7 = n6 + 1 := ⟨n7 - 1, by omega⟩
        have hwn : IntKind.i64.wrap ((n7 : Int) - 1) = (n6 : Int) := by rw [IntWalk.i64_in _ (by omega)]; omega
        have hn60 : (0 : Int) ≤ (n6 : Int) := by omega
        have hn61 : (n6 : Int) < (n7 : Int) := by omega
        have hn62 : n6 < n7 := by omega
        have hr7 : IRow w7 a7 zl := OwnI.row (cap := c7) (by have h := HS7.out.own; rw [← HL.out] at h; exact h)
        clear hn6
        rcases hr7 with h0 | ⟨g7, off7, rfl, hc7⟩
        · exfalso; have := HL.out; omega
        have q7 : w7.cell? ⟨g7, off7 + n6, none⟩ = some (.int .i64 (zAt zl n6)) := hc7 n6 (by rw [HL.out]; exact hn62)
        clear hc7
        obtain ⟨last, hlast⟩ : ∃ x, zAt zl n6 = x := ⟨_, rfl⟩
        rw [hlast] at q7
        clear hlast
        go_wp2_with fail
        refine (Cells.scell m ww hh HG.out ar ac cr cc last _).mono ?_
        by_cases hin : 0 ≤ last ∧ last < (ww * hh : Nat)
        · rw [decide_eq_true hin]
          rintro e w8 ⟨rfl, hb⟩
          have HS8 := Lib.hid (HS7.out.below hb)
          clear hb HS7 p0 p1 p2 p3 q7
          obtain ⟨c, rfl⟩ : ∃ c : Nat, last = c := ⟨last.toNat, by omega⟩
          have hcl : c < ww * hh := by omega
          clear hin
          obtain ⟨p0, p1, p2, p3, -⟩ := HS8.out.st.box.four
          go_wp2_with fail
          refine (Cells.spec_next m ww hh HG.out ar ac cr cc c _ HS8.out.st.c hcl).mono ?_
          rintro e w9 ⟨⟨v8, rfl, ho8⟩, hb⟩
          have hs8 := HS8.out.st.g.size
          have HS9 := Lib.hid (HS8.out.below hb)
          obtain ⟨a8, c8, rfl, -, -⟩ := OwnI.slice ho8
          obtain ⟨n8, hn8⟩ : ∃ n, (nx m c).length = n := ⟨_, rfl⟩
          have hnl := nx_length m c
          rw [ints_length] at ho8 ⊢
          rw [hn8] at ho8 hnl ⊢
          have HO8 := Lib.hid ho8
          have HE8 := Lib.hid hn8
          clear hb HS8 p0 p1 p2 p3 ho8 hn8
          by_cases h80 : n8 = 0
          · subst h80
            go_wp2_with fail
            go_roundg k1
            case measure => have := HKK.out; omega
            case rel => exact ⟨k1, j + 1, zl, by have := HJK.out; omega, rfl, by go_num, by have := HL.out; omega, by have := HL.out; omega, HS9.out.mono (by omega)⟩
          · have h8p : (0 : Int) < (n8 : Int) := by omega
            go_wp2_with fail
            refine (pick_any b (mm + 16 + 2 * j) n8 _ (by omega) (by omega) (by omega) HS9.out.st.ok).mono ?_
            rintro e w10 ⟨⟨r8, rfl, _, hr8⟩, hok, hg⟩
            have hr8n : r8 < n8 := by omega
            have hr80 : (0 : Int) ≤ (r8 : Int) := by omega
            have hr81 : (r8 : Int) < (n8 : Int) := by omega
            have HS10 := Lib.hid (HS9.out.step hbB hbl N1.out N2.out hok hg)
            have ho10 : OwnI w10 w8.heap.size (.slice a8 n8 c8) (ints (nx m c)) := own_grown HO8.out hg (fun x y hx hy => by cases hy; have := (HO8.out.lt x hx).1; omega)
            rw [← HE8.out] at ho10
            have hrow := BfoB.irow_of ho10
            clear ho10
            rcases hrow with h0 | ⟨g8, off8, rfl, hc8⟩
            · exfalso; rw [ints_length] at h0; have := HE8.out; omega
            have q8 : w10.cell? ⟨g8, off8 + r8, none⟩ = some (.int .i64 (zAt (ints (nx m c)) r8)) := hc8 r8 (by rw [ints_length, HE8.out]; exact hr8n)
            obtain ⟨y, hy⟩ : ∃ x, zAt (ints (nx m c)) r8 = x := ⟨_, rfl⟩
            rw [hy] at q8
            clear hc8 hy hr8 hok hg HS9 HO8
            have HA := Lib.hid (HS10.out.below ((Below.refl _ _).alloc (Nat.le_refl _) (.cells #[.int .i64 y] 3)))
            have hgs := HS10.out.st.g.size
            have hown := HA.out.own
            unfold OwnI at hown
            rw [HL.out] at hown
            have h63 : n7 + 1 ≤ maxLen := by unfold maxLen; omega
            have h64 : (n7 + 1) * 8 ≤ 140737488355328 := by omega
            go_wp2_with (at_builtin; (refine wpList_append_own _ rfl (.tmp 59) (.tmp 67) 24 rfl w.heap.size 3 t0 (.int .i64 0) 1 8 Try.underlying24 hi0 hz0 hz1 hz2 rfl (by decide) (.slice (some ⟨g7, off7, none⟩) n7 c7) n7 _ rfl hown ⟨_, 0, none⟩ 1 1 [.int .i64 y] rfl rfl (cell_one_new _ _ _) (by simp [Value.oneCell']) h63 h64 (by simp <;> omega) ?_; intro v9 w9 hown3 hgr3 _; have HP := Lib.hid (HA.out.put hbl L1.out L2.out hgr3 (BfoB.own_put (zs := zl) (by rw [HL.out]; exact hown3))); clear hown3 hgr3))
            go_roundg k1
            case measure => have := HKK.out; omega
            case rel => exact ⟨k1, j + 1, zl ++ [y], by have := HJK.out; omega, rfl, by go_num, by simp, by have := HL.out; simp; omega, HP.out.mono (by omega)⟩
        · rw [decide_eq_false hin]
          rintro e w8 ⟨rfl, hb⟩
          have HS8 := Lib.hid (HS7.out.below hb)
          clear hb HS7 p0 p1 p2 p3 q7 hin
          go_wp2_with fail
          go_roundg k1
          case measure => have := HKK.out; omega
          case rel => exact ⟨k1, j + 1, zl, by have := HJK.out; omega, rfl, by go_num, by have := HL.out; omega, by have := HL.out; omega, HS8.out.mono (by omega)⟩
      · have hk := okB_no hmo
        clear hmo
        go_wp2_with fail
        refine (MapV.spec_any m ar ac cr cc _ hRm hCm HS.out.st.r HS.out.st.c).mono ?_
        rw [hk]
        rintro e w7 ⟨rfl, hb⟩
        have HS7 := Lib.hid (HS.out.below hb)
        clear hb hk HS p0 p1 p2 p3
        have HS := HS7
        clear HS7
        go_wp2_with fail
        refine (one_any b (mm + 16 + 2 * j) 16 _ (by omega) (by omega) (by omega) HS.out.st.ok).mono ?_
        rintro e w6 ⟨⟨t, rfl⟩, hok, hg⟩
        have HX := Lib.hid (HS.out.step hbB hbl N1.out N2.out hok hg)
        clear hok hg HS
        cases t with
        | false =>
          go_wp2
          go_ret
          exact ⟨⟨_, zl, rfl, HX.out.own, by have := HL.out; omega⟩, HX.out.st.ok.mono (by omega), HX.out.st.g⟩
        | true =>
          obtain ⟨p0, p1, p2, p3, -⟩ := HX.out.st.box.four
          go_wp2_with fail
          refine (cell_any b (mm + 16 + 2 * j + 2) m ar ac cr cc _ (by omega) hC HX.out.st.ok).mono ?_
          rintro e w7 ⟨⟨z7, rfl⟩, hok, hg⟩
          have HY := Lib.hid (HX.out.step hbB hbl N1.out N2.out hok hg)
          have HA := Lib.hid (HY.out.below ((Below.refl _ _).alloc (Nat.le_refl _) (.cells #[.int .i64 z7] 3)))
          clear hok hg HX p0 p1 p2 p3
          have hgs := HY.out.st.g.size
          have hown := HA.out.own
          unfold OwnI at hown
          rw [HL.out] at hown
          have h63 : n7 + 1 ≤ maxLen := by unfold maxLen; omega
          have h64 : (n7 + 1) * 8 ≤ 140737488355328 := by omega
          go_wp2_with (at_builtin; (refine wpList_append_own _ rfl (.tmp 71) (.tmp 75) 24 rfl w.heap.size 3 t0 (.int .i64 0) 1 8 Try.underlying24 hi0 hz0 hz1 hz2 rfl (by decide) (.slice a7 n7 c7) n7 _ rfl hown ⟨_, 0, none⟩ 1 1 [.int .i64 z7] rfl rfl (cell_one_new _ _ _) (by simp [Value.oneCell']) h63 h64 (by simp <;> omega) ?_; intro v9 w9 hown3 hgr3 _; have HP := Lib.hid (HA.out.put hbl L1.out L2.out hgr3 (BfoB.own_put (zs := zl) (by rw [HL.out]; exact hown3))); clear hown3 hgr3))
          go_ret
          exact ⟨⟨_, zl ++ [z7], rfl, HP.out.own, by have := HL.out; simp; omega⟩, HP.out.st.ok.mono (by omega), HP.out.st.g⟩

end Go.Proofs.Ytnenaponiahalaa.RouD
