/- The drawing of maps to be turned and told, and of texts of maps: contracts. -/
import Derived.Test.YtdphliobjafjaaaDrwI
import Derived.Test.YtdphliobjafjaaaParsB
namespace Go.Proofs.Ytdphliobjafjaaa.DrwT
open Go.RowKit Lb Cur IntS MapS MapV SpecB CurM CodM DrwM
set_option linter.unusedSimpArgs false
set_option linter.unusedVariables false

set_option maxHeartbeats 400000 in
theorem turn_draw (a : Option Addr) (n cap : Nat) (xs : Nat → Nat) (w : World) (hc : Bytes w a n xs) :
    Calls Try.prog 15 #[.slice a n cap] w (DPost w) := by
  have HB := Lib.hid ((Below.refl w.heap.size w).alloc (Nat.le_refl _) (.cells #[.int .i64 0, .int .i64 0, .slice none 0 0, .slice none 0 0] 26))
  have HQ0 := Lib.hid (Blk.new w 26 #[.int .i64 0, .int .i64 0, .slice none 0 0, .slice none 0 0])
  have c1 := Lib.hid (is_any a n cap xs _ (hc.below HB.out))
  clear hc
  go_enter Try.func15, Try.ntmps15
  go_wp2_with fail
  refine c1.out.mono ?_
  rintro e w1 ⟨⟨v, rfl, m, ho, hR, hC⟩, hb1⟩
  obtain ⟨ar, cr, ac, cc, rfl, h1, h2, hne⟩ := ho
  rw [World.size_alloc] at h1 h2
  have HB1 := Lib.hid (HB.out.trans (hb1.mono (by simp)))
  have HQ1 := Lib.hid (HQ0.out.later hb1)
  have H1 := Lib.hid h1
  have H2 := Lib.hid h2
  have HN := Lib.hid hne
  have hz := HQ1.out.lt
  clear hb1 h1 h2 hne
  obtain ⟨r0, r1, r2, r3, l0, l1, l2, l3⟩ := HQ1.out.four
  go_wp2
  refine bodyPost_ret (v := .agg #[.int .i64 m.W, .int .i64 m.H, .slice ar m.R.length cr, .slice ac m.C.length cc]) (by simp [results, Try.results15, go_sem, r0, r1, r2, r3]) rfl ⟨⟨_, rfl, m, ⟨ar, cr, ac, cc, rfl, ?_, ?_, HN.out⟩, hR, hC⟩, ?_⟩
  · have h := H1.out
    unfold OwnI at h ⊢
    refine rebase (b := w.heap.size + 1) ?_ (by omega)
    iterate 4 (refine ownsRow_setCell_below ?_ (by show w.heap.size < _; omega) _)
    exact h
  · have h := H2.out
    unfold OwnI at h ⊢
    refine rebase (b := w.heap.size + 1) ?_ (by omega)
    iterate 4 (refine ownsRow_setCell_below ?_ (by show w.heap.size < _; omega) _)
    exact h
  · iterate 4 (refine Below.setCell ?_ (by simp) _)
    exact HB1.out

set_option maxHeartbeats 400000 in
theorem text_draw (a : Option Addr) (n cap : Nat) (xs : Nat → Nat) (w : World) (hc : Bytes w a n xs) :
    Calls Try.prog 22 #[.slice a n cap] w (DPost w) := by
  have HB := Lib.hid ((Below.refl w.heap.size w).alloc (Nat.le_refl _) (.cells #[.int .i64 0, .int .i64 0, .slice none 0 0, .slice none 0 0] 26))
  have HQ0 := Lib.hid (Blk.new w 26 #[.int .i64 0, .int .i64 0, .slice none 0 0, .slice none 0 0])
  have c1 := Lib.hid (is_any a n cap xs _ (hc.below HB.out))
  clear hc
  go_enter Try.func22, Try.ntmps22
  go_wp2_with fail
  refine c1.out.mono ?_
  rintro e w1 ⟨⟨v, rfl, m, ho, hR, hC⟩, hb1⟩
  obtain ⟨ar, cr, ac, cc, rfl, h1, h2, hne⟩ := ho
  rw [World.size_alloc] at h1 h2
  have HB1 := Lib.hid (HB.out.trans (hb1.mono (by simp)))
  have HQ1 := Lib.hid (HQ0.out.later hb1)
  have H1 := Lib.hid h1
  have H2 := Lib.hid h2
  have HN := Lib.hid hne
  have hz := HQ1.out.lt
  clear hb1 h1 h2 hne
  obtain ⟨r0, r1, r2, r3, l0, l1, l2, l3⟩ := HQ1.out.four
  go_wp2
  refine bodyPost_ret (v := .agg #[.int .i64 m.W, .int .i64 m.H, .slice ar m.R.length cr, .slice ac m.C.length cc]) (by simp [results, Try.results22, go_sem, r0, r1, r2, r3]) rfl ⟨⟨_, rfl, m, ⟨ar, cr, ac, cc, rfl, ?_, ?_, HN.out⟩, hR, hC⟩, ?_⟩
  · have h := H1.out
    unfold OwnI at h ⊢
    refine rebase (b := w.heap.size + 1) ?_ (by omega)
    iterate 4 (refine ownsRow_setCell_below ?_ (by show w.heap.size < _; omega) _)
    exact h
  · have h := H2.out
    unfold OwnI at h ⊢
    refine rebase (b := w.heap.size + 1) ?_ (by omega)
    iterate 4 (refine ownsRow_setCell_below ?_ (by show w.heap.size < _; omega) _)
    exact h
  · iterate 4 (refine Below.setCell ?_ (by simp) _)
    exact HB1.out

/-- What stands: the reader, beside what was there. -/
structure Rs (w W : World) (b m : Nat) : Prop where
  ok : Ok W b m
  B : Below w.heap.size w W
  lb : w.heap.size ≤ b
theorem Rs.step {w W W' : World} {b m m' : Nat} (h : Rs w W b m) (ho : Ok W' b m') (hg : W.grownBy W' (some b)) : Rs w W' b m' :=
  ⟨ho, h.B.grown hg h.B.size (fun k e => by cases e; exact h.lb), h.lb⟩
theorem Rs.below {w W W' : World} {b m : Nat} (h : Rs w W b m) (hb : Below W.heap.size W W') : Rs w W' b m := ⟨h.ok.below hb, h.B.trans (hb.mono h.B.size), h.lb⟩
theorem Rs.drew {w W : World} {b m : Nat} (h : Rs w W b m) : Rs w W.drew b m := ⟨h.ok, h.B.drew, h.lb⟩
theorem Rs.drewN {w W : World} {b m : Nat} (h : Rs w W b m) (n : Nat) : Rs w (W.drewN n) b m := h.below (below_drewN (Below.refl _ _) n)
theorem Rs.mono {w W : World} {b m m' : Nat} (h : Rs w W b m) (hm : m ≤ m') : Rs w W b m' := ⟨h.ok.mono hm, h.B, h.lb⟩
theorem Rs.start {w : World} {a : Option Addr} {n B : Nat} {xs : Nat → Nat} (h : Bytes w a n xs) (cap : Nat) (e : B = w.heap.size) : Rs w (w.alloc (.cells #[.slice a n cap, .int .i64 0, .int .u64 0] 77)) B 0 := by
  subst e
  exact ⟨begin_ h cap, (Below.refl _ _).alloc (Nat.le_refl _) _, Nat.le_refl _⟩

theorem nil_toList {x : ByteArray} (h : x = ⟨#[]⟩) : x.toList = [] := by rw [h, ByteArray.toList_eq]
theorem ne_toList {x : ByteArray} (h : ¬ x = ⟨#[]⟩) : ¬ x.toList = [] := by
  rw [ByteArray.toList_eq]
  intro e
  exact h (by cases x; simpa using e)
theorem ne_size {x : ByteArray} (h : ¬ x = ⟨#[]⟩) : 0 < x.size := by
  rcases Nat.eq_zero_or_pos x.size with e | e
  · exact absurd (by apply ByteArray.ext; exact Array.eq_empty_of_size_eq_zero e) h
  · exact e

set_option maxHeartbeats 2000000 in
theorem spoilt_any (b m : Nat) (t u : ByteArray) (w : World) (hm : m ≤ 1152921504606840000) (ht : t.size ≤ 4000) (hu : 0 < u.size) (hu2 : u.size ≤ 4000) (hok : Ok w b m) :
    Calls Try.prog 67 #[.pointer (some ⟨b, 0, none⟩), .string t, .string u] w fun e w' => (∃ s : ByteArray, e = .returned (.string s) ∧ s.size ≤ 8001) ∧ Ok w' b (m + 6) ∧ w.grownBy w' (some b) := by
  have HO := Lib.hid hok
  clear hok
  by_cases h0 : t = ⟨#[]⟩
  · have e1 := nil_toList h0
    have e2 : t.toList.isEmpty = true := by rw [e1]; rfl
    clear h0
    go_enter Try.func67, Try.ntmps67
    go_wp2
    go_ret
    exact ⟨⟨_, rfl, by rw [ByteArray.size_extract]; omega⟩, HO.out.mono (by omega), gbelow (Below.refl _ _) _⟩
  · have e1 := ne_toList h0
    have e2 : t.toList.isEmpty = false := by
      cases h : t.toList.isEmpty with
      | false => rfl
      | true => exact absurd (List.isEmpty_iff.1 h) e1
    have h1 := ne_size h0
    clear h0
    go_enter Try.func67, Try.ntmps67
    go_wp2_with fail
    refine (pick_any b m t.size _ (by omega) (by omega) (by omega) HO.out).mono ?_
    rintro e w1 ⟨⟨i, rfl, _, hi'⟩, hok, hg⟩
    have hi : i < t.size := by omega
    have H1 := Lib.hid hok
    have G1 := Lib.hid hg
    clear hok hg hi' HO
    go_wp2_with fail
    refine (pick_any b _ u.size _ (by omega) (by omega) (by omega) H1.out).mono ?_
    rintro e w2 ⟨⟨j, rfl, _, hj'⟩, hok, hg⟩
    have hj : j < u.size := by omega
    have H2 := Lib.hid hok
    have G2 := Lib.hid (gtrans G1.out hg)
    clear hok hg hj'
    obtain ⟨v, hv⟩ : ∃ v, u.extract j u.size = v := ⟨_, rfl⟩
    have hvs : v.size = u.size - j := by rw [← hv, ByteArray.size_extract]; omega
    have hv1 : 1 ≤ v.size := by omega
    go_wp2_with fail
    refine (pick_any b _ 3 _ (by omega) (by omega) (by omega) H2.out).mono ?_
    rintro e w3 ⟨⟨c, rfl, hc', _⟩, hok, hg⟩
    have H3 := Lib.hid hok
    have G3 := Lib.hid (gtrans G2.out hg)
    clear hok hg
    obtain ⟨x, hx⟩ : ∃ x, t.extract 0 i = x := ⟨_, rfl⟩
    obtain ⟨y, hy⟩ : ∃ y, v.extract 0 1 = y := ⟨_, rfl⟩
    obtain ⟨z0, hz0⟩ : ∃ z, t.extract i t.size = z := ⟨_, rfl⟩
    obtain ⟨z1, hz1⟩ : ∃ z, t.extract (i + 1) t.size = z := ⟨_, rfl⟩
    have hxs : x.size ≤ 4000 := by rw [← hx, ByteArray.size_extract]; omega
    have hys : y.size ≤ 1 := by rw [← hy, ByteArray.size_extract]; omega
    have hz0s : z0.size ≤ 4000 := by rw [← hz0, ByteArray.size_extract]; omega
    have hz1s : z1.size ≤ 4000 := by rw [← hz1, ByteArray.size_extract]; omega
    have k1 : (9223372036854775807 < x.size + y.size) = False := by simp only [eq_iff_iff, iff_false]; omega
    have k2 : (9223372036854775807 < x.size + y.size + z0.size) = False := by simp only [eq_iff_iff, iff_false]; omega
    have k3 : (9223372036854775807 < x.size + y.size + z1.size) = False := by simp only [eq_iff_iff, iff_false]; omega
    have k4 : (9223372036854775807 < x.size + z1.size) = False := by simp only [eq_iff_iff, iff_false]; omega
    have hwr : IntKind.i64.wrap ((i : Int) + 1) = (i : Int) + 1 := IntWalk.i64_in _ (by omega)
    rcases (show c = 0 ∨ c = 1 ∨ 1 < c by omega) with rfl | rfl | hc1
    · go_wp2
      go_quiet (fail)
      all_goals go_wp2
      all_goals go_ret
      all_goals exact ⟨⟨_, rfl, by simp only [ByteArray.size_append]; omega⟩, H3.out.below (below_drewN (Below.refl _ _) _), gtrans G3.out (gbelow (below_drewN (Below.refl _ _) _) _)⟩
    · go_wp2
      go_quiet (fail)
      all_goals go_wp2
      all_goals go_ret
      all_goals exact ⟨⟨_, rfl, by simp only [ByteArray.size_append]; omega⟩, H3.out.below (below_drewN (Below.refl _ _) _), gtrans G3.out (gbelow (below_drewN (Below.refl _ _) _) _)⟩
    · have n0 : ¬ (c : Int) = 0 := by omega
      have n1 : ¬ (c : Int) = 1 := by omega
      go_wp2
      go_quiet (fail)
      all_goals go_wp2
      all_goals go_ret
      all_goals exact ⟨⟨_, rfl, by simp only [ByteArray.size_append]; omega⟩, H3.out.below (below_drewN (Below.refl _ _) _), gtrans G3.out (gbelow (below_drewN (Below.refl _ _) _) _)⟩


set_option maxHeartbeats 2000000 in
theorem parse_draw (a : Option Addr) (n cap : Nat) (xs : Nat → Nat) (w : World) (hc : Bytes w a n xs) :
    Calls Try.prog 26 #[.slice a n cap] w fun e w' => (∃ s : ByteArray, e = .returned (.string s) ∧ s.size ≤ 8001) ∧ Below w.heap.size w w' := by
  have HR := Lib.hid (Rs.start (B := w.heap.size) hc cap rfl)
  clear hc
  go_enter Try.func26, Try.ntmps26
  go_wp2_with fail
  refine (MapD.map_any _ 0 _ (by omega) HR.out.ok).mono ?_
  rintro e w1 ⟨⟨v, rfl, m, ho, hR, hC⟩, hok, hg⟩
  obtain ⟨ar, cr, ac, cc, rfl, h1, h2, -⟩ := ho
  have H1 := Lib.hid (HR.out.step hok hg)
  have HI := Lib.hid (show IRow w1 ar m.R ∧ IRow w1 ac m.C from ⟨OwnI.row h1, OwnI.row h2⟩)
  have hRm : m.R.length ≤ maxLen := by unfold maxLen; omega
  have hCm : m.C.length ≤ maxLen := by unfold maxLen; omega
  clear hok hg h1 h2 HR
  obtain ⟨l, ok, -, hl, hS, -⟩ := ParsL.text_f m
  have HS := Lib.hid hS
  clear hS
  have hls : (bs l).size ≤ 108 := by rw [bs_size]; exact hl
  obtain ⟨t, ht⟩ : ∃ t, bs l = t := ⟨_, rfl⟩
  rw [ht] at HS hls
  clear ht hl
  go_wp2_with fail
  refine (HS.out ar ac cr cc _ hRm hCm HI.out.1 HI.out.2).mono ?_
  rintro e w2 ⟨rfl, hb⟩
  have H2 := Lib.hid (H1.out.below hb)
  clear hb H1 HI HS
  cases ok with
  | true =>
    go_wp2_with fail
    refine (one_any _ _ 4 _ (by omega) (by omega) (by omega) H2.out.ok).mono ?_
    rintro e w3 ⟨⟨z, rfl⟩, hok, hg⟩
    have H3 := Lib.hid (H2.out.step hok hg)
    clear hok hg
    cases z with
    | false =>
      go_wp2
      go_ret
      exact ⟨⟨t, rfl, by omega⟩, H3.out.B⟩
    | true =>
      go_wp2_with fail
      refine (spoilt_any _ _ t ⟨#[35, 32, 49, 10, 48]⟩ _ (by omega) (by omega) (by decide) (by decide) H3.out.ok).mono ?_
      rintro e w4 ⟨⟨s, rfl, hs⟩, hok, hg⟩
      have H4 := Lib.hid (H3.out.step hok hg)
      clear hok hg
      go_wp2
      go_ret
      exact ⟨⟨s, rfl, hs⟩, H4.out.B⟩
  | false =>
    go_wp2_with fail
    refine (one_any _ _ 4 _ (by omega) (by omega) (by omega) H2.out.ok).mono ?_
    rintro e w3 ⟨⟨z, rfl⟩, hok, hg⟩
    have H3 := Lib.hid (H2.out.step hok hg)
    clear hok hg
    cases z with
    | false =>
      go_wp2
      go_ret
      exact ⟨⟨_, rfl, by decide⟩, H3.out.B⟩
    | true =>
      go_wp2_with fail
      refine (spoilt_any _ _ ⟨#[49, 48, 32, 50, 49, 10, 35, 35, 32, 49, 53, 10]⟩ ⟨#[35, 32, 49, 10, 48]⟩ _ (by omega) (by decide) (by decide) (by decide) H3.out.ok).mono ?_
      rintro e w4 ⟨⟨s, rfl, hs⟩, hok, hg⟩
      have H4 := Lib.hid (H3.out.step hok hg)
      clear hok hg
      go_wp2
      go_ret
      exact ⟨⟨s, rfl, hs⟩, H4.out.B⟩

end Go.Proofs.Ytdphliobjafjaaa.DrwT
