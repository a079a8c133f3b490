/- Courses: ReverseCourse, both texts. -/
import Derived.Test.YtdfmfmndmldggaaKrU
import Derived.Shelf.Slices.Reverse
import Derived.Sort.OwnSortedInts
import Derived.Test.YtdfmfmndmldggaaShelf
import Derived.Lib.SliceRun
namespace Go.Proofs.Ytdfmfmndmldggaa.KrV
open Go.RowKit Lb Bk IntS CtK CoM CoP CoF CoC KrM KrI KrG KrT LtI
open KrR (blk_keep rn r_yes r_no)
open KrO (own_ints rn_le rn_csp lgC)
open Cells (NPost)
set_option linter.unusedSimpArgs false
set_option linter.unusedVariables false

set_option maxRecDepth 20000 in
set_option maxHeartbeats 1000000 in
theorem clone_any (ad : Addr) (cap : Nat) (zs : List Int) (hl : zs.length ≤ 1048576) (w : World) (hr : IRow w (some ad) zs) :
    Calls Try.prog 60 #[.slice (some ad) zs.length cap] w fun e w' => ∃ v, e = .returned v ∧ OwnI w' w.heap.size v zs ∧ Below w.heap.size w w' := by
  obtain ⟨t0, hi, hz0, hz1, hz2⟩ := info_parts iInfo
  have hB := (Below.refl w.heap.size w).alloc (Nat.le_refl _) (.cells #[] 3)
  have HB := Lib.hid hB
  have HN := Lib.hid (show ∀ j u, (zs.map (Value.int .i64))[j]? = some u → (w.alloc (.cells #[] 3)).cell? (ad.add j) = some u from by
    intro j u h
    have hj : j < zs.length := by have := (List.getElem?_eq_some_iff.1 h).1; simpa using this
    rcases RowAt.below hr hB with h0 | ⟨b, off, e, hc⟩
    · omega
    · cases e
      rw [CtK.add_none, hc j hj]
      simp [zAt, hj] at h ⊢
      exact h)
  have hown := own_ints w w.heap.size (Nat.le_refl _)
  unfold OwnI at hown
  obtain ⟨n, hn⟩ : ∃ n, zs.length = n := ⟨_, rfl⟩
  have HNl := Lib.hid hn
  have hcl : (zs.map (Value.int .i64)).length = n * 1 := by simp [hn]
  rw [hn] at hl ⊢
  have q22 : ∀ (w : World) (a : Option Addr) (n c n' c' : Nat), (binOp .eql 24 (.slice a n c) (.slice none n' c')).run Try.prog w = .ok (.bool a.isNone) w := fun w a n c n' c' => Lib.run_eql_slice_nil w _ _ a n c n' c' Try.underlying24
  clear hr hB hn
  go_enter Try.func60, Try.ntmps60
  go_wp2_with (go_loud (at_builtin; (refine wpList_append_own _ rfl (.tmp 5) (.tmp 6) 24 rfl w.heap.size 3 t0 (.int .i64 0) 1 8 Try.underlying24 hi hz0 hz1 hz2 rfl (by decide) _ 0 _ rfl hown ad n cap (zs.map (Value.int .i64)) rfl hcl HN.out (by simp [Value.oneCell']) (by unfold maxLen; omega) (by omega) HB.out.size ?_; intro v' w3 hown3 hgr3 _; have HO := Lib.hid (show OwnI w3 w.heap.size v' zs from by unfold OwnI; rw [HNl.out]; simpa using hown3); have HB3 := Lib.hid (HB.out.grown (show World.grownBy _ w3 (some w.heap.size) from hgr3) HB.out.size (fun q e => by cases e; exact Nat.le_refl _)); clear hown3 hgr3)))
  go_ret
  exact ⟨_, rfl, HO.out, HB3.out⟩

theorem grow_none (w : World) : Go.Sort.grow w #[] = w := by simp [Go.Sort.grow]
theorem rev_own (base g n cap : Nat) (zs : List Int) (w : World) (h : OwnI w base (.slice (some ⟨g, 0, none⟩) n cap) zs) (hn : zs.length = n) (hl : zs.length ≤ 1048576) :
    Calls Try.prog 61 #[.slice (some ⟨g, 0, none⟩) n cap] w fun e w' => e = .returned (.tuple #[]) ∧ OwnI w' base (.slice (some ⟨g, 0, none⟩) n cap) zs.reverse ∧ w.grownBy w' (some g) := by
  subst hn
  rcases h.2 with ⟨h0, _⟩ | ⟨g', cap', cur, hv, hbase, hh, h1, h2, h3, h4⟩
  · cases h0
  cases hv
  have hH := holds_of_blockI (ss := zs) hh (by simpa using h4)
  refine (Try.slices_Reverse_int g 0 cap zs w hH (by omega)).mono ?_
  rintro e w' ⟨rfl, k, rfl⟩
  refine ⟨rfl, ?_, ?_⟩
  · have := ownsRow_sortedI (w := w) (n := k) (os := #[]) (ss := zs) (ts := zs.reverse) (by simp) hbase hh h1 h2 h3
    rw [grow_none] at this
    unfold OwnI
    rw [List.length_reverse]
    exact this
  · have := grownBy_sortedI (w := w) (g := g) (n := k) (os := #[]) zs.reverse.toArray
    rwa [grow_none] at this

theorem rev_next {zs : List Int} {k : Nat} (h : k < zs.length) : zs.reverse.take (k + 1) = zs.reverse.take k ++ [zAt zs (zs.length - 1 - k)] := by
  rw [List.take_succ_eq_append_getElem (by simpa using h)]
  congr 2
  rw [List.getElem_reverse]
  unfold zAt
  rw [List.getD_eq_getElem?_getD, List.getElem?_eq_getElem (by omega)]
  rfl
/-- What ReverseCourse answers. -/
def rvL (m : Mp) (T : Nat → Nat → Int) (cs : List Ct) (zs : List Int) : List Int := if csB m T cs zs then zs.reverse else []

set_option maxRecDepth 20000 in
set_option maxHeartbeats 2000000 in
theorem rev_impl (m : Mp) (T : Nat → Nat → Int) (hT : TT m T) (cs : List Ct) (hl : cs.length ≤ 1048576) (zs : List Int) (hl2 : zs.length ≤ 1048576) (hR : m.R.length ≤ maxLen) (hC : m.C.length ≤ maxLen) (a b : Option Addr) (ca cb : Nat) (ad : Option Addr) (cap : Nat) (al : Option Addr) (cl : Nat) (w : World) (h : Rc m cs zs a b ad al w) :
    Calls Try.prog 21 #[.agg #[.int .i64 m.W, .int .i64 m.H, .slice a m.R.length ca, .slice b m.C.length cb], .slice ad cs.length cap, .slice al zs.length cl] w (NPost w (rvL m T cs zs) (csB m T cs zs)) := by
  have HB := Lib.hid ((Below.refl w.heap.size w).alloc (Nat.le_refl _) (.cells #[.int .i64 m.W, .int .i64 m.H, .slice a m.R.length ca, .slice b m.C.length cb] 26))
  have H := Lib.hid h
  obtain ⟨ok, hok⟩ : ∃ o, csB m T cs zs = o := ⟨_, rfl⟩
  have c1 := Lib.hid (fun w h => hok ▸ KrO.is_impl m T hT cs hl zs hl2 hR hC a b ca cb ad cap al cl w h)
  have HO := Lib.hid hok
  obtain ⟨us, hus⟩ : ∃ o, rvL m T cs zs = o := ⟨_, rfl⟩
  have HZ := Lib.hid hus
  rw [hok, hus]
  clear h hT hok hus
  go_enter Try.func21, Try.ntmps21
  go_wp2_with fail
  refine (c1.out _ (H.out.later HB.out)).mono ?_
  rintro e w1 ⟨rfl, hb⟩
  have HB1 := Lib.hid (HB.out.trans (hb.mono (by simp)))
  have hs1 := HB1.out.size
  clear hb HB c1
  cases ok with
  | false =>
    have h2 : us = [] := by rw [← HZ.out]; unfold rvL; rw [HO.out]; rfl
    subst h2
    go_wp2
    go_ret2
    exact ⟨_, rfl, own_ints w1 _ hs1, HB1.out.alloc hs1 _⟩
  | true =>
    have hp := cs_iff.1 HO.out
    have h2 : zs.reverse = us := by rw [← HZ.out]; unfold rvL; rw [HO.out]; rfl
    have hn2 := hp.2.1
    obtain ⟨zb, zo, rfl, hce⟩ := (H.out.later HB1.out).cell (k := 0) (by omega)
    have C2 := Lib.hid (clone_any ⟨zb, zo, none⟩ cl zs hl2 w1 (H.out.later HB1.out).z)
    have H2 := Lib.hid h2
    have HN2 := Lib.hid hn2
    clear hp h2 hce hn2
    go_wp2_with fail
    refine C2.out.mono ?_
    rintro e w2 ⟨v, rfl, ho, hb⟩
    have HB2 := Lib.hid (HB1.out.trans (hb.mono hs1))
    obtain ⟨ga, gc, rfl, -, -⟩ := OwnI.slice ho
    obtain ⟨gb, rfl⟩ : ∃ g, ga = some ⟨g, 0, none⟩ := by
      rcases ho.2 with ⟨_, h0⟩ | ⟨g, c, cur, e, _⟩
      · have := HN2.out; omega
      · exact ⟨g, by simpa using (Value.slice.inj e).1⟩
    have HO2 := Lib.hid ho
    have C3 := Lib.hid (rev_own _ gb zs.length gc zs w2 HO2.out rfl hl2)
    clear hb ho
    go_wp2_with fail
    refine C3.out.mono ?_
    rintro e w3 ⟨rfl, ho, hg⟩
    have HO3 := Lib.hid (show OwnI w3 w.heap.size (.slice (some ⟨gb, 0, none⟩) zs.length gc) us from by rw [← H2.out]; exact IntS.rebase ho hs1)
    have HB3 := Lib.hid (HB2.out.grown hg HB2.out.size (fun q e => by cases e; exact Nat.le_trans hs1 (HO2.out.lt gb rfl).1))
    clear ho hg
    go_wp2
    go_ret2
    exact ⟨_, rfl, HO3.out, HB3.out⟩

set_option maxRecDepth 20000 in
set_option maxHeartbeats 2000000 in
theorem rev_spec (m : Mp) (T : Nat → Nat → Int) (hT : TT m T) (cs : List Ct) (hl : cs.length ≤ 1048576) (zs : List Int) (hl2 : zs.length ≤ 1048576) (hR : m.R.length ≤ maxLen) (hC : m.C.length ≤ maxLen) (a b : Option Addr) (ca cb : Nat) (ad : Option Addr) (cap : Nat) (al : Option Addr) (cl : Nat) (w : World) (h : Rc m cs zs a b ad al w) :
    Calls Try.prog 22 #[.agg #[.int .i64 m.W, .int .i64 m.H, .slice a m.R.length ca, .slice b m.C.length cb], .slice ad cs.length cap, .slice al zs.length cl] w (NPost w (rvL m T cs zs) (csB m T cs zs)) := by
  obtain ⟨t0, hi0, hz0, hz1, hz2⟩ := info_parts iInfo
  have HB := Lib.hid ((Below.refl w.heap.size w).alloc (Nat.le_refl _) (.cells #[.int .i64 m.W, .int .i64 m.H, .slice a m.R.length ca, .slice b m.C.length cb] 26))
  have HS0 := Lib.hid (show IntK.Gr w (.slice (some ⟨w.heap.size + 1, 0, none⟩) 0 0) [] ((w.alloc (.cells #[.int .i64 m.W, .int .i64 m.H, .slice a m.R.length ca, .slice b m.C.length cb] 26)).alloc (.cells #[] 3)) from by
    have := own_ints (w.alloc (.cells #[.int .i64 m.W, .int .i64 m.H, .slice a m.R.length ca, .slice b m.C.length cb] 26)) w.heap.size (by simp)
    rw [World.size_alloc] at this
    exact ⟨HB.out.alloc (by simp) _, this⟩)
  have H := Lib.hid h
  obtain ⟨ok, hok⟩ : ∃ o, csB m T cs zs = o := ⟨_, rfl⟩
  have c1 := Lib.hid (fun w h => hok ▸ good_any m T hT cs hl zs hl2 hR hC a b ca cb ad cap al cl w h)
  have HO := Lib.hid hok
  obtain ⟨us, hus⟩ : ∃ o, rvL m T cs zs = o := ⟨_, rfl⟩
  have HZ := Lib.hid hus
  obtain ⟨n, hn⟩ : ∃ n, zs.length = n := ⟨_, rfl⟩
  have HN := Lib.hid hn
  rw [hn] at c1 hl2
  rw [hok, hus, hn]
  clear h hT hok hus hn
  go_enter Try.func22, Try.ntmps22
  go_wp2_with fail
  refine (c1.out _ (H.out.later (HB.out.alloc (by simp) _))).mono ?_
  rintro e w1 ⟨rfl, hb⟩
  have HS1 := Lib.hid (HS0.out.below hb)
  clear hb HB HS0 c1
  cases ok with
  | false =>
    have h2 : us = [] := by rw [← HZ.out]; unfold rvL; rw [HO.out]; rfl
    subst h2
    go_wp2
    go_ret2
    exact ⟨_, rfl, HS1.out.own, HS1.out.b⟩
  | true =>
    have h2 : zs.reverse = us := by rw [← HZ.out]; unfold rvL; rw [HO.out]; rfl
    have H2 := Lib.hid h2
    have hn8 := (cs_iff.1 HO.out).2.1
    rw [HN.out] at hn8
    obtain ⟨hn2, hn8⟩ := hn8
    have hnw : IntKind.i64.wrap ((n : Int) - 1) = (n : Int) - 1 := IntWalk.i64_in _ (by omega)
    clear h2
    go_wp2
    go_loopg [9, 8] n (fun gk i v wr => ∃ k : Nat, k ≤ n ∧ gk = n - k ∧ i = .int .i64 ((n : Int) - 1 - k) ∧ IntK.Gr w v (zs.reverse.take k) wr)
    case atStart => exact ⟨0, Nat.zero_le _, rfl, by simp, HS1.out⟩
    case round =>
      clear HS1
      obtain ⟨k, hk, hgk, rfl, hS⟩ := hrel
      have HS := Lib.hid hS
      clear hS
      by_cases hlt : k < n
      · obtain ⟨zb, zo, rfl, hce⟩ := (H.out.later HS.out.b).cell (k := 0) (by rw [HN.out]; omega)
        obtain ⟨q, hq⟩ : ∃ q, n - 1 - k = q := ⟨_, rfl⟩
        have c0 := hce q (by rw [HN.out]; omega)
        obtain ⟨x, hx⟩ : ∃ x, zAt zs q = x := ⟨_, rfl⟩
        rw [hx] at c0
        have HNx := Lib.hid (show zs.reverse.take (k + 1) = zs.reverse.take k ++ [x] from by rw [rev_next (by rw [HN.out]; exact hlt), HN.out, hq, hx])
        have hqi : (n : Int) - 1 - (k : Int) = (q : Int) := by omega
        have HQI := Lib.hid hqi
        rw [hqi]
        have hq0 : (0 : Int) ≤ (q : Int) := by omega
        have hqn : (q : Int) < (n : Int) := by omega
        have hqw : IntKind.i64.wrap ((q : Int) - 1) = (q : Int) - 1 := IntWalk.i64_in _ (by omega)
        have HM := Lib.hid (show (zs.reverse.take k).length = k from by simp [HN.out]; omega)
        have hown := HS.out.own.below ((Below.refl _ _).alloc (Nat.le_refl _) (.cells #[.int .i64 x] 3))
        unfold OwnI at hown
        rw [HM.out] at hown
        have HTa := Lib.hid (HS.out.alloc (.cells #[.int .i64 x] 3))
        have hsz := HS.out.b.size
        clear hce hx hq hqi
        go_wp2_with (go_loud (at_builtin; (refine wpList_append_own _ rfl (.tmp 24) (.tmp 29) 24 rfl w.heap.size 3 t0 (.int .i64 0) 1 8 Try.underlying24 hi0 hz0 hz1 hz2 rfl (by decide) _ k _ rfl hown ⟨_, 0, none⟩ 1 1 [.int .i64 x] rfl rfl (cell_one_new _ _ _) (by simp [Value.oneCell']) (by unfold maxLen; omega) (by omega) (by simp; omega) ?_; intro v' w3 hown3 hgr3 _; have HP3 := Lib.hid (HTa.out.put HM.out hgr3 hown3); clear hown3 hgr3)))
        go_roundg (n - (k + 1))
        case measure => omega
        case rel => exact ⟨k + 1, by omega, rfl, by have := HQI.out; exact congrArg (Value.int IntKind.i64) (by omega), by rw [HNx.out]; exact HP3.out⟩
      · obtain rfl : k = n := by omega
        have hk1 : ¬ (0 : Int) ≤ (k : Int) - 1 - (k : Int) := by omega
        have HE := Lib.hid (show OwnI wr w.heap.size u8 us from by
          have h := HS.out.own
          rw [List.take_of_length_le (by simp [HN.out]), H2.out] at h
          exact h)
        have hneg : decide ((0 : Int) ≤ (k : Int) - 1 - (k : Int)) = false := decide_eq_false hk1
        go_wp2
        go_ret2
        exact ⟨_, rfl, HE.out, HS.out.b⟩

theorem rev (m : Mp) (hR : m.R.length ≤ maxLen) (hC : m.C.length ≤ maxLen) (cs : List Ct) (hf : ∀ i, i < cs.length → Is (at_ cs i)) (hl : cs.length ≤ 1048576) (zs : List Int) (hz : zs.length ≤ 1048576) : ∃ (us : List Int) (ok : Bool), us.length ≤ 1048576 ∧
    (∀ a b ca cb ad cap al cl w, IRow w a m.R → IRow w b m.C → cs.length ≤ cap → Row w ad cs → zs.length ≤ cl → IntK.Row w al zs → Calls Try.prog 22 #[.agg #[.int .i64 m.W, .int .i64 m.H, .slice a m.R.length ca, .slice b m.C.length cb], .slice ad cs.length cap, .slice al zs.length cl] w fun e w' => ∃ v, e = .returned (.tuple #[v, .bool ok]) ∧ IntK.Own w' w.heap.size v us ∧ Below w.heap.size w w') ∧
    (∀ a b ca cb ad cap al cl w, IRow w a m.R → IRow w b m.C → cs.length ≤ cap → Row w ad cs → zs.length ≤ cl → IntK.Row w al zs → Calls Try.prog 21 #[.agg #[.int .i64 m.W, .int .i64 m.H, .slice a m.R.length ca, .slice b m.C.length cb], .slice ad cs.length cap, .slice al zs.length cl] w fun e w' => ∃ v, e = .returned (.tuple #[v, .bool ok]) ∧ IntK.Own w' w.heap.size v us ∧ Below w.heap.size w w') := by
  obtain ⟨T, hT⟩ := tt_ex m
  refine ⟨rvL m T cs zs, csB m T cs zs, (by unfold rvL; split <;> simp; omega), fun a b ca cb ad cap al cl w h1 h2 _ h3 h4 h5 => rev_spec m T hT cs hl zs hz hR hC a b ca cb ad cap al cl w ⟨⟨h1, h2, h3⟩, h5⟩, fun a b ca cb ad cap al cl w h1 h2 _ h3 h4 h5 => rev_impl m T hT cs hl zs hz hR hC a b ca cb ad cap al cl w ⟨⟨h1, h2, h3⟩, h5⟩⟩
end Go.Proofs.Ytdfmfmndmldggaa.KrV
