/- The drawing of a feature: the walk. -/
import Derived.Test.YtpfjdlaaakkimaaDoorFtD
namespace Go.Proofs.YtpfjdlaaakkimaaDoor.FtG
open Go.RowKit Lb Bk Word Cur SpF SpO FtD
set_option linter.unusedSimpArgs false
set_option linter.unusedVariables false

theorem famS_pos : ∀ k, k < 5 → 0 < (famS k).length := by decide
theorem famW_pos : ∀ k, k < 5 → 0 < (famW k).length := by decide

theorem whats_own (w : World) : Calls Tryd.prog 81 #[] w fun e w' => ∃ B, e = .returned (.slice (some ⟨B + 5, 0, none⟩) 5 5) ∧ w.heap.size ≤ B ∧ WAt w' B ∧ Below w.heap.size w w' := by
  refine (whats_any w).mono ?_
  rintro e w' ⟨rfl, h1, h2⟩
  exact ⟨_, rfl, Nat.le_refl _, h1, h2⟩

theorem all5 {W : World} {g : Nat} {t : TypeId} {x0 x1 x2 x3 x4 : Value} (h : Blk W g t #[x0, x1, x2, x3, x4]) (y0 y1 y2 y3 y4 : Value) :
    Blk (((((W.setCell ⟨g, 0, none⟩ y0).setCell ⟨g, 1, none⟩ y1).setCell ⟨g, 2, none⟩ y2).setCell ⟨g, 3, none⟩ y3).setCell ⟨g, 4, none⟩ y4) g t #[y0, y1, y2, y3, y4] := by
  have := ((((h.set_ 0 y0).set_ 1 y1).set_ 2 y2).set_ 3 y3).set_ 4 y4
  simpa using this
theorem zrow_new (w : World) (L : List Int) : ZRow (w.alloc (.cells (L.map (Value.int .i64)).toArray 3)) (some ⟨w.heap.size, 0, none⟩) L :=
  .inr ⟨w.heap.size, 0, rfl, fun k hk => by rw [Nat.zero_add]; exact Blk.cell (Blk.new w _ _) k (by simp [hk])⟩
theorem _root_.Go.Proofs.YtpfjdlaaakkimaaDoor.FtD.Fe.fin {w W : World} {b m m' g : Nat} {f : Ft} (h : Fe w W b m g f) (hm : m ≤ m') (y0 y1 y2 y3 y4 : Value) :
    Ok (((((W.setCell ⟨w.heap.size, 0, none⟩ y0).setCell ⟨w.heap.size, 1, none⟩ y1).setCell ⟨w.heap.size, 2, none⟩ y2).setCell ⟨w.heap.size, 3, none⟩ y3).setCell ⟨w.heap.size, 4, none⟩ y4) b m' ∧
    w.grownBy (((((W.setCell ⟨w.heap.size, 0, none⟩ y0).setCell ⟨w.heap.size, 1, none⟩ y1).setCell ⟨w.heap.size, 2, none⟩ y2).setCell ⟨w.heap.size, 3, none⟩ y3).setCell ⟨w.heap.size, 4, none⟩ y4) (some b) := by
  have hB : Below w.heap.size W (((((W.setCell ⟨w.heap.size, 0, none⟩ y0).setCell ⟨w.heap.size, 1, none⟩ y1).setCell ⟨w.heap.size, 2, none⟩ y2).setCell ⟨w.heap.size, 3, none⟩ y3).setCell ⟨w.heap.size, 4, none⟩ y4) :=
    (((((Below.refl _ _).setCell (p := ⟨w.heap.size, 0, none⟩) (Nat.le_refl _) y0).setCell (p := ⟨w.heap.size, 1, none⟩) (Nat.le_refl _) y1).setCell (p := ⟨w.heap.size, 2, none⟩) (Nat.le_refl _) y2).setCell (p := ⟨w.heap.size, 3, none⟩) (Nat.le_refl _) y3).setCell (p := ⟨w.heap.size, 4, none⟩) (Nat.le_refl _) y4
  exact ⟨(ok_belowB h.ok hB h.L).mono hm, grown_B h.G hB (Nat.le_refl _)⟩
theorem bet_list : between.toList = [98, 101, 116, 119, 101, 101, 110] := by rw [ByteArray.toList_eq]; rfl
theorem bet_yes {p : ByteArray} (h : p = between) : (p.toList == [98, 101, 116, 119, 101, 101, 110]) = true := by rw [h, bet_list]; rfl
theorem bet_no {p : ByteArray} (h : ¬ p = between) : (p.toList == [98, 101, 116, 119, 101, 101, 110]) = false := by
  rw [← bet_list, ByteArray.toList_eq, ByteArray.toList_eq]
  rw [beq_eq_false_iff_ne]
  intro e
  exact h (by cases p; simp only [between] at e ⊢; exact congrArg ByteArray.mk (Array.toList_inj.1 e))
theorem whiches_new {w W : World} {b m g : Nat} {f : Ft} (h : Fe w W b m g f) : Calls Tryd.prog 62 #[] W fun e w' => ∃ gz, e = .returned (.slice (some ⟨gz, 0, none⟩) whichs.length whichs.length) ∧ StrB w' gz whichs ∧ gz ≠ b ∧ Fe w w' b m g f := by
  refine (whiches_any W).mono ?_
  rintro e w' ⟨rfl, rfl⟩
  exact ⟨_, rfl, Blk.new W _ _, by have := h.ok.lt; omega, h.below ((Below.refl _ _).alloc (Nat.le_refl _) _)⟩
theorem looks_new {w W : World} {b m g : Nat} {f : Ft} (h : Fe w W b m g f) : Calls Tryd.prog 63 #[] W fun e w' => ∃ gz, e = .returned (.slice (some ⟨gz, 0, none⟩) looks.length looks.length) ∧ StrB w' gz looks ∧ gz ≠ b ∧ Fe w w' b m g f := by
  refine (looks_any W).mono ?_
  rintro e w' ⟨rfl, rfl⟩
  exact ⟨_, rfl, Blk.new W _ _, by have := h.ok.lt; omega, h.below ((Below.refl _ _).alloc (Nat.le_refl _) _)⟩
theorem sides_new {w W : World} {b m g : Nat} {f : Ft} (k : Nat) (hk : k < 5) (h : Fe w W b m g f) : Calls Tryd.prog 74 #[.int .i64 k] W fun e w' => ∃ a cap, e = .returned (.slice a (famS k).length cap) ∧ StrRow w' a (famS k) ∧ (∀ x, a = some x → x.block ≠ b) ∧ Fe w w' b m g f := by
  refine (SpF.sides_any k hk W).mono ?_
  rintro e w' ⟨v, rfl, ho, hb⟩
  have hl := h.ok.lt
  rcases ho.2 with ⟨rfl, h0⟩ | ⟨g', cap, cur, rfl, hB, _⟩
  · exact ⟨none, 0, by rw [h0], .inl h0, (fun x e => by cases e), h.below hb⟩
  · exact ⟨some ⟨g', 0, none⟩, cap, rfl, (RowAt.of_owns ho).congr fun j hj => by simp [sAt, hj], (fun x e => by cases e; show g' ≠ b; omega), h.below hb⟩

set_option maxHeartbeats 8000000 in
theorem feature_any (b m : Nat) (w : World) (hm : m ≤ 1152921504606840000) (hok : Ok w b m) :
    Calls Tryd.prog 55 #[.pointer (some ⟨b, 0, none⟩)] w fun e w' => (∃ f : Ft, e = .returned (.agg #[.int .i64 f.c, .string f.wh, .string f.wt, .string f.lk, .string f.sd])) ∧ Ok w' b (m + 24) ∧ w.grownBy w' (some b) := by
  have HS0 := Lib.hid (Fd.start hok)
  clear hok
  go_enter Tryd.func55, Tryd.ntmps55
  go_wp2_with fail
  refine (whats_own _).mono ?_
  rintro e w1 ⟨B, rfl, hBl, ht, hb1⟩
  have HW := Lib.hid (show Fw w w1 b m B from ⟨HS0.out.below hb1, ht, Nat.lt_of_lt_of_le HS0.out.lt hBl⟩)
  clear hb1 ht HS0 hBl
  go_wp2_with fail
  refine (pick_any b m 5 _ (by omega) (by omega) (by omega) HW.out.ok).mono ?_
  rintro e w2 ⟨⟨k, rfl, _, hk'⟩, hok, hg⟩
  have hk : k < 5 := by omega
  have HW2 := Lib.hid (HW.out.step hok hg)
  clear hok hg hk' HW
  have hk0 : (0 : Int) ≤ (k : Int) := by omega
  have hk1 : (k : Int) < 5 := by omega
  have HF := Lib.hid (famW_pos k hk)
  go_wp2
  go_upto_region 3 with (fail)
  go_cut [5] from 9 to 18 (fun v wx => ∃ g f, v = .pointer (some ⟨g, 0, none⟩) ∧ Fe w wx b (m + 6) g f)
  case first =>
    have HS := Lib.hid (show Fo w w2 b (m + 2) B none from ⟨HW2.out, fun g e => by cases e⟩)
    go_region_held3 (fun W : World => W.cell? ⟨B + 5, k, none⟩ = some (.slice (some ⟨B + k, 0, none⟩) (famW k).length (famW k).length)) (first | with_reducible exact HS.out.cell k hk | with_reducible exact HS.out.drew.cell k hk | with_reducible exact HS.out.alloc.cell k hk | with_reducible exact HS.out.dalloc.cell k hk | with_reducible exact HS.out.alloc.drew.cell k hk | with_reducible exact HS.out.cellA k hk _ | with_reducible exact HS.out.drew.cellA k hk _ | with_reducible exact HS.out.cell5 k hk _ _ _ _ _) (first
      | (go_at_call 65; (first | (refine (pick_any b _ 69 _ (by omega) (by omega) (by omega) HS.out.ok).mono ?_; rintro e w4 ⟨⟨q, rfl, hq, _⟩, hok4, hg4⟩; have HS4 := Lib.hid (HS.out.step hok4 hg4); clear hok4 hg4; have HS := HS4) | (refine (pick_any b _ 69 _ (by omega) (by omega) (by omega) HS.out.drew.ok).mono ?_; rintro e w4 ⟨⟨q, rfl, hq, _⟩, hok4, hg4⟩; have HS4 := Lib.hid (HS.out.drew.step hok4 hg4); clear hok4 hg4; have HS := HS4) | (refine (pick_any b _ 69 _ (by omega) (by omega) (by omega) HS.out.alloc.ok).mono ?_; rintro e w4 ⟨⟨q, rfl, hq, _⟩, hok4, hg4⟩; have HS4 := Lib.hid (HS.out.alloc.step hok4 hg4); clear hok4 hg4; have HS := HS4) | (refine (pick_any b _ 69 _ (by omega) (by omega) (by omega) HS.out.dalloc.ok).mono ?_; rintro e w4 ⟨⟨q, rfl, hq, _⟩, hok4, hg4⟩; have HS4 := Lib.hid (HS.out.dalloc.step hok4 hg4); clear hok4 hg4; have HS := HS4) | (refine (pick_any b _ 69 _ (by omega) (by omega) (by omega) HS.out.alloc.drew.ok).mono ?_; rintro e w4 ⟨⟨q, rfl, hq, _⟩, hok4, hg4⟩; have HS4 := Lib.hid (HS.out.alloc.drew.step hok4 hg4); clear hok4 hg4; have HS := HS4)); (try (obtain ⟨r0, r1, r2, r3, r4, z0, z1, z2, z3, z4⟩ := HS.out.five)); have hwr : IntKind.i64.wrap (31 + (q : Int)) = 31 + q := IntWalk.i64_in _ (by omega))
      | (go_at_call 82; (first | (refine (of_blk b _ (B + k) _ _ (famW k) _ (by omega) rfl HF.out (by have := famW_len k; omega) (HS.out.T.W k hk) (by have := HS.out.L; have := HS.out.lb; omega) HS.out.ok).mono ?_; rintro e w5 ⟨⟨x, _, rfl⟩, hok5, hg5⟩; have HS5 := Lib.hid (HS.out.step hok5 hg5); clear hok5 hg5; have HS := HS5) | (refine (of_blk b _ (B + k) _ _ (famW k) _ (by omega) rfl HF.out (by have := famW_len k; omega) (HS.out.drew.T.W k hk) (by have := HS.out.L; have := HS.out.lb; omega) HS.out.drew.ok).mono ?_; rintro e w5 ⟨⟨x, _, rfl⟩, hok5, hg5⟩; have HS5 := Lib.hid (HS.out.drew.step hok5 hg5); clear hok5 hg5; have HS := HS5) | (refine (of_blk b _ (B + k) _ _ (famW k) _ (by omega) rfl HF.out (by have := famW_len k; omega) (HS.out.alloc.T.W k hk) (by have := HS.out.L; have := HS.out.lb; omega) HS.out.alloc.ok).mono ?_; rintro e w5 ⟨⟨x, _, rfl⟩, hok5, hg5⟩; have HS5 := Lib.hid (HS.out.alloc.step hok5 hg5); clear hok5 hg5; have HS := HS5) | (refine (of_blk b _ (B + k) _ _ (famW k) _ (by omega) rfl HF.out (by have := famW_len k; omega) (HS.out.dalloc.T.W k hk) (by have := HS.out.L; have := HS.out.lb; omega) HS.out.dalloc.ok).mono ?_; rintro e w5 ⟨⟨x, _, rfl⟩, hok5, hg5⟩; have HS5 := Lib.hid (HS.out.dalloc.step hok5 hg5); clear hok5 hg5; have HS := HS5) | (refine (of_blk b _ (B + k) _ _ (famW k) _ (by omega) rfl HF.out (by have := famW_len k; omega) (HS.out.alloc.drew.T.W k hk) (by have := HS.out.L; have := HS.out.lb; omega) HS.out.alloc.drew.ok).mono ?_; rintro e w5 ⟨⟨x, _, rfl⟩, hok5, hg5⟩; have HS5 := Lib.hid (HS.out.alloc.drew.step hok5 hg5); clear hok5 hg5; have HS := HS5)); (try (obtain ⟨r0, r1, r2, r3, r4, z0, z1, z2, z3, z4⟩ := HS.out.five))))
    all_goals go_wp2
    all_goals go_meet
    all_goals exact ⟨_, ⟨31 + q, ⟨#[]⟩, x, ⟨#[]⟩, ⟨#[]⟩⟩, rfl, by first | with_reducible exact Fe.mono (m' := m + 6) (HS.out.fin1 ⟨31 + q, ⟨#[]⟩, x, ⟨#[]⟩, ⟨#[]⟩⟩) (by omega) | with_reducible exact Fe.mono (m' := m + 6) (HS.out.fin5 ⟨31 + q, ⟨#[]⟩, x, ⟨#[]⟩, ⟨#[]⟩⟩) (by omega)⟩
  case rest =>
  obtain ⟨g, f0, rfl, hE⟩ := hcut
  have H0 := Lib.hid hE
  clear hE HW2
  go_upto_if 20 with (go_at_call 56; refine (one_any b _ 3 _ (by omega) (by omega) (by omega) H0.out.ok).mono ?_; rintro e w3 ⟨⟨t, rfl⟩, hok, hg⟩; have H1 := Lib.hid (H0.out.step hok hg); clear hok hg)
  go_cut [] from 21 to 24 (fun wx => ∃ f, Fe w wx b (m + 10) g f)
  case first =>
    cases t with
    | false =>
      go_wp2
      go_meet
      exact ⟨_, H1.out.mono (by omega)⟩
    | true =>
      go_wp2_with fail
      refine (whiches_new H1.out).mono ?_
      rintro e w4 ⟨gz, rfl, hs, hz, hE⟩
      have H2 := Lib.hid hE
      clear hE
      go_wp2_with fail
      refine (of_blk b _ gz _ _ whichs _ (by omega) rfl (by decide) (by decide) hs hz H2.out.ok).mono ?_
      rintro e w5 ⟨⟨x, _, rfl⟩, hok, hg⟩
      have H3 := Lib.hid (H2.out.step hok hg)
      clear hok hg hs
      obtain ⟨p0, p1, p2, p3, p4, y0, y1, y2, y3, y4⟩ := H3.out.F.five
      go_wp2
      go_meet
      exact ⟨_, (H3.out.put_wh x).mono (by omega)⟩
  case rest =>
  obtain ⟨f1, hE⟩ := hcut
  have H1 := Lib.hid hE
  clear hE H0
  go_upto_if 26 with (go_at_call 56; refine (one_any b _ 3 _ (by omega) (by omega) (by omega) H1.out.ok).mono ?_; rintro e w6 ⟨⟨t, rfl⟩, hok, hg⟩; have HA := Lib.hid (H1.out.step hok hg); clear hok hg)
  go_cut [] from 27 to 30 (fun wx => ∃ f, Fe w wx b (m + 14) g f)
  case first =>
    cases t with
    | false =>
      go_wp2
      go_meet
      exact ⟨_, HA.out.mono (by omega)⟩
    | true =>
      go_wp2_with fail
      refine (looks_new HA.out).mono ?_
      rintro e w4 ⟨gz, rfl, hs, hz, hE⟩
      have H2 := Lib.hid hE
      clear hE
      go_wp2_with fail
      refine (of_blk b _ gz _ _ looks _ (by omega) rfl (by decide) (by decide) hs hz H2.out.ok).mono ?_
      rintro e w5 ⟨⟨x, _, rfl⟩, hok, hg⟩
      have H3 := Lib.hid (H2.out.step hok hg)
      clear hok hg hs
      obtain ⟨p0, p1, p2, p3, p4, y0, y1, y2, y3, y4⟩ := H3.out.F.five
      go_wp2
      go_meet
      exact ⟨_, (H3.out.put_lk x).mono (by omega)⟩
  case rest =>
  obtain ⟨f2, hE⟩ := hcut
  have H2 := Lib.hid hE
  clear hE H1
  go_upto_if 32 with (go_at_call 56; refine (one_any b _ 2 _ (by omega) (by omega) (by omega) H2.out.ok).mono ?_; rintro e w7 ⟨⟨t, rfl⟩, hok, hg⟩; have HB := Lib.hid (H2.out.step hok hg); clear hok hg)
  go_cut [] from 33 to 46 (fun wx => ∃ f, Fe w wx b (m + 20) g f)
  case first =>
    cases t with
    | false =>
      go_wp2
      go_meet
      exact ⟨_, HB.out.mono (by omega)⟩
    | true =>
      have HP := Lib.hid (famS_pos k hk)
      go_wp2_with fail
      refine (sides_new k hk HB.out).mono ?_
      rintro e w4 ⟨a, cap, rfl, hs, hz, hE⟩
      have H3 := Lib.hid hE
      clear hE
      go_wp2_with fail
      refine (of_any b _ a cap (famS k) _ (by omega) HP.out (by have := famS_len k; omega) hs hz H3.out.ok).mono ?_
      rintro e w5 ⟨⟨r, _, rfl⟩, hok, hg⟩
      have H4 := Lib.hid (H3.out.step hok hg)
      clear hok hg hs hz
      obtain ⟨x, hx⟩ : ∃ x, sAt (famS k) r = x := ⟨_, rfl⟩
      rw [hx]
      clear hx
      obtain ⟨p0, p1, p2, p3, p4, y0, y1, y2, y3, y4⟩ := H4.out.F.five
      have H5 := Lib.hid (H4.out.put_sd x)
      obtain ⟨q0, q1, q2, q3, q4, z0, z1, z2, z3, z4⟩ := H5.out.F.five
      by_cases hb : x = between
      · have hq : (x.toList == [98, 101, 116, 119, 101, 101, 110]) = true := bet_yes hb
        clear hb
        go_wp2_with fail
        refine (one_any b _ 8 _ (by omega) (by omega) (by omega) H5.out.ok).mono ?_
        rintro e w8 ⟨⟨t, rfl⟩, hok, hg⟩
        have H6 := Lib.hid (H5.out.step hok hg)
        clear hok hg q0 q1 q2 q3 q4 z0 z1 z2 z3 z4
        obtain ⟨q0, q1, q2, q3, q4, z0, z1, z2, z3, z4⟩ := H6.out.F.five
        cases t with
        | true =>
          go_wp2
          go_meet
          exact ⟨_, H6.out.mono (by omega)⟩
        | false =>
          go_wp2
          go_meet
          exact ⟨_, (H6.out.put_wh ⟨#[]⟩).mono (by omega)⟩
      · have hq : (x.toList == [98, 101, 116, 119, 101, 101, 110]) = false := bet_no hb
        clear hb
        go_wp2
        go_meet
        exact ⟨_, H5.out.mono (by omega)⟩
  case rest =>
  obtain ⟨f3, hE⟩ := hcut
  have H3 := Lib.hid hE
  clear hE H2
  go_wp2_with fail
  refine (pick_any b _ 60 _ (by omega) (by omega) (by omega) H3.out.ok).mono ?_
  rintro e w9 ⟨⟨c, rfl, hcle, _⟩, hok, hg⟩
  have H4 := Lib.hid (H3.out.step hok hg)
  clear hok hg H3
  rcases (show c = 0 ∨ c = 1 ∨ c = 2 ∨ c = 3 ∨ c = 4 ∨ 4 < c by omega) with rfl | rfl | rfl | rfl | rfl | hc4
  · have hB : ZRow (w9.alloc (.cells #[.int .i64 30, .int .i64 100] 3)) (some ⟨w9.heap.size, 0, none⟩) [30, 100] := zrow_new w9 [30, 100]
    have H5 := Lib.hid (H4.out.below ((Below.refl _ _).alloc (Nat.le_refl _) (.cells #[.int .i64 30, .int .i64 100] 3)))
    have hlt := H4.out.ok.lt
    go_wp2_with fail
    refine (among_any b _ (some ⟨w9.heap.size, 0, none⟩) 2 2 [30, 100] _ (by omega) (by decide) (by decide) (by decide) hB (fun x e => by cases e; show w9.heap.size ≠ b; omega) H5.out.ok).mono ?_
    rintro e wa ⟨⟨r, _, rfl⟩, hok, hg⟩
    obtain ⟨x, hx⟩ : ∃ x, List.getD [30, 100] r (0 : Int) = x := ⟨_, rfl⟩
    rw [hx]
    have H6 := Lib.hid (H5.out.step hok hg)
    clear hok hg hB hx
    obtain ⟨p0, p1, p2, p3, p4, y0, y1, y2, y3, y4⟩ := H6.out.F.five
    obtain ⟨f4, hf4⟩ : ∃ f4 : Ft, f4 = ⟨x, f3.wh, f3.wt, f3.lk, f3.sd⟩ := ⟨_, rfl⟩
    have H7 := Lib.hid (show Fe w (wa.setCell ⟨g, 0, none⟩ (.int .i64 x)) b (m + 20 + 2 + 2) g f4 from by rw [hf4]; exact H6.out.put_c x)
    clear hf4
    go_upto_region 23 with (fail)
    clear p0 p1 p2 p3 p4 y0 y1 y2 y3 y4
    obtain ⟨r0, r1, r2, r3, r4, z0, z1, z2, z3, z4⟩ := H7.out.R.five
    obtain ⟨p0, p1, p2, p3, p4, -⟩ := H7.out.F.five
    go_wp2
    have hR := Lib.hid (all5 H7.out.R (.int .i64 (f4).c) (.string (f4).wh) (.string (f4).wt) (.string (f4).lk) (.string (f4).sd))
    obtain ⟨u0, u1, u2, u3, u4, -⟩ := hR.out.five
    exact bodyPost_ret (v := .agg #[.int .i64 f4.c, .string f4.wh, .string f4.wt, .string f4.lk, .string f4.sd]) (by simp [results, Tryd.results55, go_sem, u0, u1, u2, u3, u4]) rfl ⟨⟨_, rfl⟩, H7.out.fin (by omega) _ _ _ _ _⟩
  · have hB : StrB (w9.alloc (.cells #[.string ⟨#[116, 111, 112]⟩, .string ⟨#[98, 105, 103]⟩, .string ⟨#[110, 111, 114, 116, 104]⟩] 9)) w9.heap.size [⟨#[116, 111, 112]⟩, ⟨#[98, 105, 103]⟩, ⟨#[110, 111, 114, 116, 104]⟩] := Blk.new w9 _ _
    have H5 := Lib.hid (H4.out.below ((Below.refl _ _).alloc (Nat.le_refl _) (.cells #[.string ⟨#[116, 111, 112]⟩, .string ⟨#[98, 105, 103]⟩, .string ⟨#[110, 111, 114, 116, 104]⟩] 9)))
    have hlt := H4.out.ok.lt
    go_wp2_with fail
    refine (of_blk b _ w9.heap.size _ _ [⟨#[116, 111, 112]⟩, ⟨#[98, 105, 103]⟩, ⟨#[110, 111, 114, 116, 104]⟩] _ (by omega) rfl (by decide) (by decide) hB (by omega) H5.out.ok).mono ?_
    rintro e wa ⟨⟨x, _, rfl⟩, hok, hg⟩
    have H6 := Lib.hid (H5.out.step hok hg)
    clear hok hg hB
    obtain ⟨p0, p1, p2, p3, p4, y0, y1, y2, y3, y4⟩ := H6.out.F.five
    obtain ⟨f4, hf4⟩ : ∃ f4 : Ft, f4 = ⟨f3.c, x, f3.wt, f3.lk, f3.sd⟩ := ⟨_, rfl⟩
    have H7 := Lib.hid (show Fe w (wa.setCell ⟨g, 1, none⟩ (.string x)) b (m + 20 + 2 + 2) g f4 from by rw [hf4]; exact H6.out.put_wh x)
    clear hf4
    go_upto_region 23 with (fail)
    clear p0 p1 p2 p3 p4 y0 y1 y2 y3 y4
    obtain ⟨r0, r1, r2, r3, r4, z0, z1, z2, z3, z4⟩ := H7.out.R.five
    obtain ⟨p0, p1, p2, p3, p4, -⟩ := H7.out.F.five
    go_wp2
    have hR := Lib.hid (all5 H7.out.R (.int .i64 (f4).c) (.string (f4).wh) (.string (f4).wt) (.string (f4).lk) (.string (f4).sd))
    obtain ⟨u0, u1, u2, u3, u4, -⟩ := hR.out.five
    exact bodyPost_ret (v := .agg #[.int .i64 f4.c, .string f4.wh, .string f4.wt, .string f4.lk, .string f4.sd]) (by simp [results, Tryd.results55, go_sem, u0, u1, u2, u3, u4]) rfl ⟨⟨_, rfl⟩, H7.out.fin (by omega) _ _ _ _ _⟩
  · have hB : StrB (w9.alloc (.cells #[.string ⟨#[]⟩, .string ⟨#[116, 114, 101, 101]⟩, .string ⟨#[115, 105, 100, 101]⟩] 9)) w9.heap.size [⟨#[]⟩, ⟨#[116, 114, 101, 101]⟩, ⟨#[115, 105, 100, 101]⟩] := Blk.new w9 _ _
    have H5 := Lib.hid (H4.out.below ((Below.refl _ _).alloc (Nat.le_refl _) (.cells #[.string ⟨#[]⟩, .string ⟨#[116, 114, 101, 101]⟩, .string ⟨#[115, 105, 100, 101]⟩] 9)))
    have hlt := H4.out.ok.lt
    go_wp2_with fail
    refine (of_blk b _ w9.heap.size _ _ [⟨#[]⟩, ⟨#[116, 114, 101, 101]⟩, ⟨#[115, 105, 100, 101]⟩] _ (by omega) rfl (by decide) (by decide) hB (by omega) H5.out.ok).mono ?_
    rintro e wa ⟨⟨x, _, rfl⟩, hok, hg⟩
    have H6 := Lib.hid (H5.out.step hok hg)
    clear hok hg hB
    obtain ⟨p0, p1, p2, p3, p4, y0, y1, y2, y3, y4⟩ := H6.out.F.five
    obtain ⟨f4, hf4⟩ : ∃ f4 : Ft, f4 = ⟨f3.c, f3.wh, x, f3.lk, f3.sd⟩ := ⟨_, rfl⟩
    have H7 := Lib.hid (show Fe w (wa.setCell ⟨g, 2, none⟩ (.string x)) b (m + 20 + 2 + 2) g f4 from by rw [hf4]; exact H6.out.put_wt x)
    clear hf4
    go_upto_region 23 with (fail)
    clear p0 p1 p2 p3 p4 y0 y1 y2 y3 y4
    obtain ⟨r0, r1, r2, r3, r4, z0, z1, z2, z3, z4⟩ := H7.out.R.five
    obtain ⟨p0, p1, p2, p3, p4, -⟩ := H7.out.F.five
    go_wp2
    have hR := Lib.hid (all5 H7.out.R (.int .i64 (f4).c) (.string (f4).wh) (.string (f4).wt) (.string (f4).lk) (.string (f4).sd))
    obtain ⟨u0, u1, u2, u3, u4, -⟩ := hR.out.five
    exact bodyPost_ret (v := .agg #[.int .i64 f4.c, .string f4.wh, .string f4.wt, .string f4.lk, .string f4.sd]) (by simp [results, Tryd.results55, go_sem, u0, u1, u2, u3, u4]) rfl ⟨⟨_, rfl⟩, H7.out.fin (by omega) _ _ _ _ _⟩
  · have hB : StrB (w9.alloc (.cells #[.string ⟨#[100, 114, 121]⟩, .string ⟨#[117, 112, 112, 101, 114]⟩] 9)) w9.heap.size [⟨#[100, 114, 121]⟩, ⟨#[117, 112, 112, 101, 114]⟩] := Blk.new w9 _ _
    have H5 := Lib.hid (H4.out.below ((Below.refl _ _).alloc (Nat.le_refl _) (.cells #[.string ⟨#[100, 114, 121]⟩, .string ⟨#[117, 112, 112, 101, 114]⟩] 9)))
    have hlt := H4.out.ok.lt
    go_wp2_with fail
    refine (of_blk b _ w9.heap.size _ _ [⟨#[100, 114, 121]⟩, ⟨#[117, 112, 112, 101, 114]⟩] _ (by omega) rfl (by decide) (by decide) hB (by omega) H5.out.ok).mono ?_
    rintro e wa ⟨⟨x, _, rfl⟩, hok, hg⟩
    have H6 := Lib.hid (H5.out.step hok hg)
    clear hok hg hB
    obtain ⟨p0, p1, p2, p3, p4, y0, y1, y2, y3, y4⟩ := H6.out.F.five
    obtain ⟨f4, hf4⟩ : ∃ f4 : Ft, f4 = ⟨f3.c, f3.wh, f3.wt, x, f3.sd⟩ := ⟨_, rfl⟩
    have H7 := Lib.hid (show Fe w (wa.setCell ⟨g, 3, none⟩ (.string x)) b (m + 20 + 2 + 2) g f4 from by rw [hf4]; exact H6.out.put_lk x)
    clear hf4
    go_upto_region 23 with (fail)
    clear p0 p1 p2 p3 p4 y0 y1 y2 y3 y4
    obtain ⟨r0, r1, r2, r3, r4, z0, z1, z2, z3, z4⟩ := H7.out.R.five
    obtain ⟨p0, p1, p2, p3, p4, -⟩ := H7.out.F.five
    go_wp2
    have hR := Lib.hid (all5 H7.out.R (.int .i64 (f4).c) (.string (f4).wh) (.string (f4).wt) (.string (f4).lk) (.string (f4).sd))
    obtain ⟨u0, u1, u2, u3, u4, -⟩ := hR.out.five
    exact bodyPost_ret (v := .agg #[.int .i64 f4.c, .string f4.wh, .string f4.wt, .string f4.lk, .string f4.sd]) (by simp [results, Tryd.results55, go_sem, u0, u1, u2, u3, u4]) rfl ⟨⟨_, rfl⟩, H7.out.fin (by omega) _ _ _ _ _⟩
  · have hB : StrB (w9.alloc (.cells #[.string ⟨#[98, 101, 116, 119, 101, 101, 110]⟩, .string ⟨#[116, 111, 112]⟩, .string ⟨#[108, 101, 102, 116]⟩, .string ⟨#[117, 112, 112, 101, 114]⟩] 9)) w9.heap.size [⟨#[98, 101, 116, 119, 101, 101, 110]⟩, ⟨#[116, 111, 112]⟩, ⟨#[108, 101, 102, 116]⟩, ⟨#[117, 112, 112, 101, 114]⟩] := Blk.new w9 _ _
    have H5 := Lib.hid (H4.out.below ((Below.refl _ _).alloc (Nat.le_refl _) (.cells #[.string ⟨#[98, 101, 116, 119, 101, 101, 110]⟩, .string ⟨#[116, 111, 112]⟩, .string ⟨#[108, 101, 102, 116]⟩, .string ⟨#[117, 112, 112, 101, 114]⟩] 9)))
    have hlt := H4.out.ok.lt
    go_wp2_with fail
    refine (of_blk b _ w9.heap.size _ _ [⟨#[98, 101, 116, 119, 101, 101, 110]⟩, ⟨#[116, 111, 112]⟩, ⟨#[108, 101, 102, 116]⟩, ⟨#[117, 112, 112, 101, 114]⟩] _ (by omega) rfl (by decide) (by decide) hB (by omega) H5.out.ok).mono ?_
    rintro e wa ⟨⟨x, _, rfl⟩, hok, hg⟩
    have H6 := Lib.hid (H5.out.step hok hg)
    clear hok hg hB
    obtain ⟨p0, p1, p2, p3, p4, y0, y1, y2, y3, y4⟩ := H6.out.F.five
    obtain ⟨f4, hf4⟩ : ∃ f4 : Ft, f4 = ⟨f3.c, f3.wh, f3.wt, f3.lk, x⟩ := ⟨_, rfl⟩
    have H7 := Lib.hid (show Fe w (wa.setCell ⟨g, 4, none⟩ (.string x)) b (m + 20 + 2 + 2) g f4 from by rw [hf4]; exact H6.out.put_sd x)
    clear hf4
    go_upto_region 23 with (fail)
    clear p0 p1 p2 p3 p4 y0 y1 y2 y3 y4
    obtain ⟨r0, r1, r2, r3, r4, z0, z1, z2, z3, z4⟩ := H7.out.R.five
    obtain ⟨p0, p1, p2, p3, p4, -⟩ := H7.out.F.five
    go_wp2
    have hR := Lib.hid (all5 H7.out.R (.int .i64 (f4).c) (.string (f4).wh) (.string (f4).wt) (.string (f4).lk) (.string (f4).sd))
    obtain ⟨u0, u1, u2, u3, u4, -⟩ := hR.out.five
    exact bodyPost_ret (v := .agg #[.int .i64 f4.c, .string f4.wh, .string f4.wt, .string f4.lk, .string f4.sd]) (by simp [results, Tryd.results55, go_sem, u0, u1, u2, u3, u4]) rfl ⟨⟨_, rfl⟩, H7.out.fin (by omega) _ _ _ _ _⟩
  · have n0 : ¬ (c : Int) = 0 := by omega
    have n1 : ¬ (c : Int) = 1 := by omega
    have n2 : ¬ (c : Int) = 2 := by omega
    have n3 : ¬ (c : Int) = 3 := by omega
    have n4 : ¬ (c : Int) = 4 := by omega
    go_upto_region 23 with (fail)
    obtain ⟨r0, r1, r2, r3, r4, z0, z1, z2, z3, z4⟩ := H4.out.R.five
    obtain ⟨p0, p1, p2, p3, p4, -⟩ := H4.out.F.five
    go_wp2
    have hR := Lib.hid (all5 H4.out.R (.int .i64 (f3).c) (.string (f3).wh) (.string (f3).wt) (.string (f3).lk) (.string (f3).sd))
    obtain ⟨u0, u1, u2, u3, u4, -⟩ := hR.out.five
    exact bodyPost_ret (v := .agg #[.int .i64 f3.c, .string f3.wh, .string f3.wt, .string f3.lk, .string f3.sd]) (by simp [results, Tryd.results55, go_sem, u0, u1, u2, u3, u4]) rfl ⟨⟨_, rfl⟩, H4.out.fin (by omega) _ _ _ _ _⟩

end Go.Proofs.YtpfjdlaaakkimaaDoor.FtG
