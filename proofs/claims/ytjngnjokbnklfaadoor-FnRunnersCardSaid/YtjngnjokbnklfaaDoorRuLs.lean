/- The drawing of a list of runners. -/
import Derived.Test.YtjngnjokbnklfaaDoorRuDo
import Derived.Test.YtjngnjokbnklfaaDoorAdS
namespace Go.Proofs.YtjngnjokbnklfaaDoor.RuLs
open Go.RowKit Lb Bk Cur RuK RuI RuG RuDr RuW AdA
set_option linter.unusedSimpArgs false
set_option linter.unusedVariables false

theorem sm_is {f : Ru} (h : RuDo.Sm f) : Is f := ⟨by have := h.1; unfold maxLen; omega, by have := h.2; unfold maxLen; omega⟩
theorem app_is {fs : List Ru} {x : Ru} (h : ∀ i, i < fs.length → Is (at_ fs i)) (hx : Is x) : ∀ i, i < (fs ++ [x]).length → Is (at_ (fs ++ [x]) i) := by
  rw [all_at] at h ⊢
  intro r hr
  rcases List.mem_append.1 hr with h1 | h1
  · exact h r h1
  · obtain rfl : r = x := by simpa using h1
    exact hx
theorem nil_is : ∀ i, i < ([] : List Ru).length → Is (at_ [] i) := fun i hi => absurd hi (Nat.not_lt_zero _)
theorem ad_is {fs : List Ru} {x : Ru} (h : ∀ i, i < fs.length → Is (at_ fs i)) (hx : Is x) : ∀ i, i < (adL fs x).length → Is (at_ (adL fs x) i) := by
  unfold adL
  split
  · exact ins_all h hx
  · exact nil_is

set_option maxRecDepth 20000 in
set_option maxHeartbeats 2000000 in
theorem runners_any (b m : Nat) (w : World) (hm : m ≤ 1152921504606830000) (hok : Ok w b m) :
    Calls Tryd.prog 40 #[.pointer (some ⟨b, 0, none⟩)] w fun e w' => ∃ v fs, e = .returned v ∧ fs.length ≤ 11 ∧ (∀ i, i < fs.length → Is (at_ fs i)) ∧ Rl w w' b (m + 800) v fs := by
  obtain ⟨t0, hi0, hz0, hz1, hz2⟩ := info_parts info
  have H0 := Lib.hid (Rl.start hok)
  clear hok
  go_enter Tryd.func40, Tryd.ntmps40
  go_wp2_with fail
  refine (pick_any b m 8 _ (by omega) (by omega) (by omega) H0.out.ok).mono ?_
  rintro e w1 ⟨⟨N, rfl, _, hN'⟩, hok, hg⟩
  have hN : N ≤ 7 := by omega
  have H1 := Lib.hid (H0.out.step hok hg)
  clear hok hg hN' H0
  go_wp2_with fail
  go_loopg [3, 4, 5, 6, 7] N (fun gk v s n _ _ wr => ∃ (k : Nat) (z : Int) (fs : List Ru), k ≤ 7 ∧ gk = k ∧ n = .int .i64 k ∧ s = .int .i64 z ∧ fs.length ≤ 10 ∧ Aside (∀ i, i < fs.length → Is (at_ fs i)) ∧ Rl w wr b (m + 2 + 50 * (7 - k)) v fs)
  case atStart => exact ⟨N, 0, [], hN, rfl, rfl, rfl, Nat.zero_le _, (nil_is : ∀ i, i < ([] : List Ru).length → Is (at_ [] i)), H1.out.mono (by omega)⟩
  case round =>
    obtain ⟨k, z, fs, hk, hgk, rfl, rfl, hfl, I, hF⟩ := hrel
    obtain ⟨a, cap, rfl, -, -⟩ := hF.L.slice
    have H2 := Lib.hid hF
    clear hF H1
    by_cases hlt : 0 < k
    · have hlt' : (0 : Int) < (k : Int) := by omega
      have hwr : IntKind.i64.wrap ((k : Int) - 1) = (k : Int) - 1 := IntWalk.i64_in _ (by omega)
      go_wp2_with fail
      refine (pick_any b _ 3 _ (by omega) (by omega) (by omega) H2.out.ok).mono ?_
      rintro e w3 ⟨⟨p, rfl, _, _⟩, hok, hg⟩
      have H3 := Lib.hid (H2.out.step hok hg)
      clear hok hg H2
      go_wp2_with fail
      refine (RuDo.runner_any b _ _ _ (by omega) H3.out.ok).mono ?_
      rintro e w4 ⟨⟨x, rfl, hx⟩, hok, hg⟩
      have H4 := Lib.hid (H3.out.step hok hg)
      have HX := Lib.hid (sm_is hx)
      clear hok hg H3 hx
      go_wp2_with fail
      refine (AdS.spec_any fs I.out (by omega) x HX.out a cap _ (Own.le H4.out.L) (Own.row H4.out.L)).mono ?_
      rintro e w5 ⟨v5, rfl, ho, hb⟩
      have HI5 := Lib.hid (ad_is I.out HX.out)
      have hal := AdS.ad_len fs x
      have H5 := Lib.hid (H4.out.other hb ho)
      have H5' := Lib.hid (H4.out.below hb)
      obtain ⟨gs, hgs⟩ : ∃ gs, adL fs x = gs := ⟨_, rfl⟩
      obtain ⟨ob, hob⟩ : ∃ ob, adB fs x = ob := ⟨_, rfl⟩
      rw [hgs] at HI5 hal H5
      rw [hob]
      clear ho hb hgs hob H4
      cases ob with
      | true =>
        go_wp2
        go_roundg (k - 1)
        case measure => omega
        case rel => exact ⟨k - 1, _, gs, by omega, rfl, by go_num, rfl, hal, HI5.out, H5.out.mono (by omega)⟩
      | false =>
        go_wp2
        go_roundg (k - 1)
        case measure => omega
        case rel => exact ⟨k - 1, _, fs, by omega, rfl, by go_num, rfl, hfl, I.out, H5'.out.mono (by omega)⟩
    · have hk0 : k = 0 := by omega
      subst hk0
      go_wp2_with fail
      refine (pick_any b _ 30 _ (by omega) (by omega) (by omega) H2.out.ok).mono ?_
      rintro e w3 ⟨⟨q, rfl, _, _⟩, hok, hg⟩
      have H3 := Lib.hid (H2.out.step hok hg)
      clear hok hg H2
      have hq : q = 0 ∨ q = 1 ∨ (q ≠ 0 ∧ q ≠ 1) := by omega
      rcases hq with rfl | rfl | ⟨q0, q1⟩
      · go_wp2_with fail
        refine (pick_any b _ 12 _ (by omega) (by omega) (by omega) H3.out.ok).mono ?_
        rintro e w4 ⟨⟨p, rfl, _, _⟩, hok, hg⟩
        have H4 := Lib.hid (H3.out.step hok hg)
        clear hok hg H3
        go_wp2_with fail
        refine (RuDo.runner_any b _ _ _ (by omega) H4.out.ok).mono ?_
        rintro e w5 ⟨⟨x, rfl, hx⟩, hok, hg⟩
        have H5 := Lib.hid (H4.out.step hok hg)
        have HX := Lib.hid (sm_is hx)
        clear hok hg H4 hx
        have hown := H5.out.L
        unfold Own at hown
        have HTa := Lib.hid (H5.out.below ((Below.refl _ _).alloc (Nat.le_refl _) (.cells #[.int .i64 x.id, .string x.nm, .string x.cl, .int .i64 x.bo, .bool x.wo, .int .i64 x.ca] 25)))
        have hsz := H5.out.G.size
        go_wp2_with (at_builtin; (refine wpList_append_own _ rfl (.tmp 35) (.tmp 40) 33 rfl w.heap.size 25 t0 (.agg #[.int .i64 no.id, .string no.nm, .string no.cl, .int .i64 no.bo, .bool no.wo, .int .i64 no.ca]) 6 64 Tryd.underlying33 hi0 hz0 hz1 hz2 rfl (by decide) _ fs.length _ rfl (hown.alloc _) ⟨_, 0, none⟩ 1 1 (cells [x]) rfl rfl (World.news_of_block (Blk.new _ _ _)) (cells_one [x]) (by unfold maxLen; omega) (by omega) (by simp; omega) ?_; intro v' w3' hown3 hgr3 _; have HP := Lib.hid (HTa.out.put x hown3 hgr3); clear hown3 hgr3))
        go_ret
        exact ⟨_, fs ++ [x], rfl, by simp; omega, app_is I.out HX.out, HP.out.mono (by omega)⟩
      · have H4 := Lib.hid H3.out.new
        have hmm : 50 * (7 - 0) = 350 := rfl
        clear H3 I hfl
        go_wp2_with fail
        go_loopg [3, 8] 12 (fun gk v s wr => ∃ ps : List Ru, ps.length ≤ 11 ∧ gk = 12 - ps.length ∧ s = .int .i64 ps.length ∧ Aside (∀ i, i < ps.length → Is (at_ ps i)) ∧ Rl w wr b (m + 400 + 2 * ps.length) v ps)
        case atStart => exact ⟨[], Nat.zero_le _, rfl, rfl, (nil_is : ∀ i, i < ([] : List Ru).length → Is (at_ [] i)), H4.out.mono (by omega)⟩
        case round =>
          clear H4
          obtain ⟨ps, hps, hgk, rfl, I, hF⟩ := hrel
          obtain ⟨pa, pc, rfl, -, -⟩ := hF.L.slice
          have H5 := Lib.hid hF
          clear hF
          go_wp2_with fail
          refine (pick_any b _ 2 _ (by omega) (by omega) (by omega) H5.out.ok).mono ?_
          rintro e w5 ⟨⟨q, rfl, _, hq'⟩, hok, hg⟩
          have hq : q ≤ 1 := by omega
          have H6 := Lib.hid (H5.out.step hok hg)
          clear hok hg hq' H5
          have hwr : IntKind.i64.wrap (10 + (q : Int)) = 10 + q := IntWalk.i64_in _ (by omega)
          by_cases hlt : ps.length < 10 + q
          · have hlt' : (ps.length : Int) < 10 + (q : Int) := by omega
            have hw2 : IntKind.i64.wrap (1950 + (ps.length : Int)) = 1950 + ps.length := IntWalk.i64_in _ (by omega)
            have hw3 : IntKind.i64.wrap ((ps.length : Int) + 1) = ps.length + 1 := IntWalk.i64_in _ (by omega)
            have hown := H6.out.L
            unfold Own at hown
            have HTa := Lib.hid (H6.out.below ((Below.refl _ _).alloc (Nat.le_refl _) (.cells #[.int .i64 (ps.length + 1), .string ⟨#[120]⟩, .string ⟨#[121]⟩, .int .i64 (1950 + ps.length), .bool false, .int .i64 0] 25)))
            have hsz := H6.out.G.size
            have HI := Lib.hid (app_is (x := ⟨ps.length + 1, ⟨#[120]⟩, ⟨#[121]⟩, 1950 + ps.length, false, 0⟩) I.out ⟨(by decide : (⟨#[120]⟩ : ByteArray).size ≤ maxLen), (by decide : (⟨#[121]⟩ : ByteArray).size ≤ maxLen)⟩)
            go_wp2_with (at_builtin; (refine wpList_append_own _ rfl (.tmp 52) (.tmp 58) 33 rfl w.heap.size 25 t0 (.agg #[.int .i64 no.id, .string no.nm, .string no.cl, .int .i64 no.bo, .bool no.wo, .int .i64 no.ca]) 6 64 Tryd.underlying33 hi0 hz0 hz1 hz2 rfl (by decide) _ ps.length _ rfl (hown.alloc _) ⟨_, 0, none⟩ 1 1 [.int .i64 (ps.length + 1), .string ⟨#[120]⟩, .string ⟨#[121]⟩, .int .i64 (1950 + ps.length), .bool false, .int .i64 0] rfl rfl (World.news_of_block (Blk.new _ _ _)) (cells_one [⟨ps.length + 1, ⟨#[120]⟩, ⟨#[121]⟩, 1950 + ps.length, false, 0⟩]) (by unfold maxLen; omega) (by omega) (by simp; omega) ?_; intro v' w3' hown3 hgr3 _; have HP := Lib.hid (HTa.out.put ⟨ps.length + 1, ⟨#[120]⟩, ⟨#[121]⟩, 1950 + ps.length, false, 0⟩ hown3 hgr3); clear hown3 hgr3))
            go_roundg (12 - (ps.length + 1))
            case measure => omega
            case rel => exact ⟨ps ++ [(⟨ps.length + 1, ⟨#[120]⟩, ⟨#[121]⟩, 1950 + ps.length, false, 0⟩ : Ru)], by simp; omega, by simp, by simp, HI.out, by
              have h1 := HP.out
              rw [List.length_append]
              exact h1.mono (by simp; omega)⟩
          · have hlt' : ¬ (ps.length : Int) < 10 + (q : Int) := by omega
            go_wp2
            go_ret
            exact ⟨_, ps, rfl, hps, I.out, H6.out.mono (by omega)⟩
      · have e0 : ((q : Int) == 0) = false := by simp; omega
        have e1 : ((q : Int) == 1) = false := by simp; omega
        clear q0 q1
        go_wp2
        go_ret
        exact ⟨_, fs, rfl, by omega, I.out, H3.out.mono (by omega)⟩

end Go.Proofs.YtjngnjokbnklfaaDoor.RuLs
