/- CellsWithin: the program and the model. -/
import Derived.Test.YtjngnjokbnklfaaFarI
namespace Go.Proofs.Ytjngnjokbnklfaa.WinI
open Go.RowKit Lb IntS MapS MapV High Cells StepT StpF SpecB DjkB OpnI TmsI LtI FarI
open Go.Proofs.Ytjngnjokbnklfaa.BfoB (oL oL_len oL_at own_at own_cell own_put Rw)
set_option linter.unusedSimpArgs false
set_option linter.unusedVariables false

/-- The cells within a time, of the first 'k'. -/
def wl (F : Nat → Int) (t : Int) (k : Nat) : List Nat := (List.range k).filter fun c => decide (0 ≤ F c ∧ F c ≤ t)
theorem wl_zero (F : Nat → Int) (t : Int) : wl F t 0 = [] := rfl
theorem wl_take {F : Nat → Int} {t : Int} {k : Nat} (h : 0 ≤ F k ∧ F k ≤ t) : ints (wl F t (k + 1)) = ints (wl F t k) ++ [(k : Int)] := by
  simp [wl, List.range_succ, h, ints]
theorem wl_skip {F : Nat → Int} {t : Int} {k : Nat} (h : ¬ (0 ≤ F k ∧ F k ≤ t)) : wl F t (k + 1) = wl F t k := by
  unfold wl
  rw [List.range_succ, List.filter_append]
  simp only [List.filter_cons, List.filter_nil, decide_eq_false h]
  simp
theorem wl_len (F : Nat → Int) (t : Int) (k : Nat) : (ints (wl F t k)).length ≤ k := by
  rw [ints_length]
  have := List.length_filter_le (fun c => decide (0 ≤ F c ∧ F c ≤ t)) (List.range k)
  simpa [wl] using this
theorem mem_wl {F : Nat → Int} {t : Int} {k c : Nat} : c ∈ wl F t k ↔ c < k ∧ 0 ≤ F c ∧ F c ≤ t := by
  simp [wl]

set_option maxHeartbeats 1000000 in
theorem spec_no (m : Mp) (p t : Int) (ha : askB m p p = false ∨ t < 0) (a b : Option Addr) (ca cb : Nat) (w : World) (hR : m.R.length ≤ maxLen) (hC : m.C.length ≤ maxLen) (hr : IRow w a m.R) (hc : IRow w b m.C) :
    Calls Try.prog 33 #[.agg #[.int .i64 m.W, .int .i64 m.H, .slice a m.R.length ca, .slice b m.C.length cb], .int .i64 p, .int .i64 t] w (NPost w [] false) := by
  have HT := Lib.hid (show Rw w #[.int .i64 m.W, .int .i64 m.H, .slice a m.R.length ca, .slice b m.C.length cb] (.slice (some ⟨w.heap.size + 1, 0, none⟩) 0 0) [] ((w.alloc (.cells #[.int .i64 m.W, .int .i64 m.H, .slice a m.R.length ca, .slice b m.C.length cb] 26)).alloc (.cells #[] 3)) from by
    refine ⟨((Below.refl _ _).alloc (Nat.le_refl _) _).alloc (by simp) _, (Blk.new w 26 _).alloc _, ?_⟩
    have := ownI_nil (w.alloc (.cells #[.int .i64 m.W, .int .i64 m.H, .slice a m.R.length ca, .slice b m.C.length cb] 26)) w (by simp)
    rw [World.size_alloc] at this
    exact this)
  cases hk : askB m p p with
  | false =>
    have HA := Lib.hid hk
    clear ha hk
    go_enter Try.func33, Try.ntmps33
    go_wp2_with fail
    refine (asked_any m p p a b ca cb _ hR hC (RowAt.below hr HT.out.b) (RowAt.below hc HT.out.b)).mono ?_
    rw [HA.out]
    rintro e w1 ⟨rfl, hb1⟩
    have HT1 := Lib.hid (HT.out.below hb1)
    clear hb1
    go_wp2_with fail
    go_ret2
    exact ⟨_, rfl, HT1.out.own, HT1.out.b⟩
  | true =>
    have HA := Lib.hid hk
    have hneg : t < 0 := by
      rcases ha with h | h
      · rw [hk] at h; cases h
      · exact h
    clear ha hk
    go_enter Try.func33, Try.ntmps33
    go_wp2_with fail
    refine (asked_any m p p a b ca cb _ hR hC (RowAt.below hr HT.out.b) (RowAt.below hc HT.out.b)).mono ?_
    rw [HA.out]
    rintro e w1 ⟨rfl, hb1⟩
    have HT1 := Lib.hid (HT.out.below hb1)
    clear hb1
    go_wp2_with fail
    go_ret2
    exact ⟨_, rfl, HT1.out.own, HT1.out.b⟩

set_option maxHeartbeats 1000000 in
theorem impl_no (m : Mp) (p t : Int) (ha : askB m p p = false ∨ t < 0) (a b : Option Addr) (ca cb : Nat) (w : World) (hR : m.R.length ≤ maxLen) (hC : m.C.length ≤ maxLen) (hr : IRow w a m.R) (hc : IRow w b m.C) :
    Calls Try.prog 32 #[.agg #[.int .i64 m.W, .int .i64 m.H, .slice a m.R.length ca, .slice b m.C.length cb], .int .i64 p, .int .i64 t] w (NPost w [] false) := by
  have HB := Lib.hid (show Below w.heap.size w ((w.alloc (.cells #[.int .i64 m.W, .int .i64 m.H, .slice a m.R.length ca, .slice b m.C.length cb] 26)).alloc (.cells #[.int .i64 p] 3)) from ((Below.refl _ _).alloc (Nat.le_refl _) _).alloc (by simp) _)
  have HZ := Lib.hid (irow_one (w.alloc (.cells #[.int .i64 m.W, .int .i64 m.H, .slice a m.R.length ca, .slice b m.C.length cb] 26)) p (w.heap.size + 1) (by simp))
  cases hk : askB m p p with
  | false =>
    rw [← allO_one] at hk
    have HA := Lib.hid hk
    clear ha hk
    go_enter Try.func32, Try.ntmps32
    go_wp2_with fail
    refine (areopen_any m a b ca cb _ 1 [p] _ hR hC (RowAt.below hr HB.out) (RowAt.below hc HB.out) HZ.out (by simp)).mono ?_
    rw [HA.out]
    rintro e w1 ⟨rfl, hb1⟩
    have HB1 := Lib.hid (HB.out.trans (hb1.mono HB.out.size))
    clear hb1
    go_wp2_with fail
    go_ret2
    exact ⟨_, rfl, ownI_nil w1 w HB1.out.size, HB1.out.alloc HB1.out.size _⟩
  | true =>
    have hneg : t < 0 := by
      rcases ha with h | h
      · rw [hk] at h; cases h
      · exact h
    rw [← allO_one] at hk
    have HA := Lib.hid hk
    clear ha hk
    go_enter Try.func32, Try.ntmps32
    go_wp2_with fail
    refine (areopen_any m a b ca cb _ 1 [p] _ hR hC (RowAt.below hr HB.out) (RowAt.below hc HB.out) HZ.out (by simp)).mono ?_
    rw [HA.out]
    rintro e w1 ⟨rfl, hb1⟩
    have HB1 := Lib.hid (HB.out.trans (hb1.mono HB.out.size))
    clear hb1
    go_wp2_with fail
    go_ret2
    exact ⟨_, rfl, ownI_nil w1 w HB1.out.size, HB1.out.alloc HB1.out.size _⟩

set_option maxRecDepth 20000 in
set_option maxHeartbeats 4000000 in
theorem spec_ask (m : Mp) (T : Nat → Nat → Int) (ww hh : Nat) (g : GoodM m ww hh) (hT : TT m T) (i : Nat) (hi : Opn m (ww * hh) i) (t : Int) (ht : 0 ≤ t) (F : Nat → Int) (hF : IsD m (stp m) i F) (a b : Option Addr) (ca cb : Nat) (w : World) (hr : IRow w a m.R) (hc : IRow w b m.C) :
    Calls Try.prog 33 #[.agg #[.int .i64 m.W, .int .i64 m.H, .slice a m.R.length ca, .slice b m.C.length cb], .int .i64 i, .int .i64 t] w (NPost w (ints (wl F t (ww * hh))) true) := by
  obtain ⟨t0, hi0, hz0, hz1, hz2⟩ := info_parts iInfo
  obtain ⟨hR, hC⟩ := lens g
  have n36 := g.n36
  have n1 := g.n1
  have HT0 := Lib.hid (show Rw w #[.int .i64 m.W, .int .i64 m.H, .slice a m.R.length ca, .slice b m.C.length cb] (.slice (some ⟨w.heap.size + 1, 0, none⟩) 0 0) (ints (wl F t 0)) ((w.alloc (.cells #[.int .i64 m.W, .int .i64 m.H, .slice a m.R.length ca, .slice b m.C.length cb] 26)).alloc (.cells #[] 3)) from by
    refine ⟨((Below.refl _ _).alloc (Nat.le_refl _) _).alloc (by simp) _, (Blk.new w 26 _).alloc _, ?_⟩
    have := ownI_nil (w.alloc (.cells #[.int .i64 m.W, .int .i64 m.H, .slice a m.R.length ca, .slice b m.C.length cb] 26)) w (by simp)
    rw [World.size_alloc] at this
    exact this)
  have HG := Lib.hid g
  have HR := Lib.hid hr
  have HC := Lib.hid hc
  have HT := Lib.hid (hT ww hh g)
  have HF := Lib.hid (show ∀ c, c < ww * hh → (zAt m.C c = 0 → F c = -1) ∧ (0 < zAt m.C c → T c i = F c) from fun c hcl => ⟨fun h => by
    rcases hF c with ⟨e, _⟩ | ⟨p, l⟩
    · exact e
    · have := (l.1.opn g hi).2
      omega, fun h => (hF.swap g (fun _ _ => rfl) hi ⟨hcl, h⟩ (hT ww hh g c ⟨hcl, h⟩)).symm⟩)
  have HA := Lib.hid (ask_split g hi hi)
  have HCl := Lib.hid (show m.C.length = ww * hh from g.C)
  have hil : i < ww * hh := hi.1
  have hil2 : (i : Int) < (ww : Int) * (hh : Int) := by rw [← Int.natCast_mul]; omega
  have hnt : decide (t < 0) = false := by simpa using ht
  clear hr hc hi g hT hF
  go_enter Try.func33, Try.ntmps33
  go_wp2_with fail
  refine (asked_any m i i a b ca cb _ hR hC (RowAt.below HR.out HT0.out.b) (RowAt.below HC.out HT0.out.b)).mono ?_
  rw [HA.out]
  rintro e w1 ⟨rfl, hb1⟩
  have HT1 := Lib.hid (HT0.out.below hb1)
  clear hb1 HT0 HA
  go_wp2_with fail
  go_loopg [9, 8] (ww * hh) (fun q c v wr => ∃ (k : Nat), k ≤ ww * hh ∧ q = ww * hh - k ∧ c = .int .i64 k ∧ Rw w #[.int .i64 m.W, .int .i64 m.H, .slice a m.R.length ca, .slice b m.C.length cb] v (ints (wl F t k)) wr)
  case atStart => exact ⟨0, Nat.zero_le _, rfl, rfl, HT1.out⟩
  case round =>
    clear HT1
    obtain ⟨k, hk, hq, rfl, hS⟩ := hrel
    have HS := Lib.hid hS
    clear hS
    obtain ⟨p0, p1, p2, p3, -⟩ := HS.out.box.four
    have hcl := HCl.out
    by_cases hlt : k < ww * hh
    · have hkC : k < m.C.length := by omega
      rcases RowAt.below HC.out HS.out.b with h0 | ⟨b1, off1, rfl, hc1⟩
      · omega
      have g1 : wr.cell? ⟨b1, off1 + k, none⟩ = some (.int .i64 (zAt m.C k)) := hc1 k hkC
      obtain ⟨-, -, hz0', hz9'⟩ := HG.out.cell k hlt
      clear hc1 hcl
      by_cases hf : zAt m.C k = 0
      · have HSk := Lib.hid (wl_skip (F := F) (t := t) (k := k) (by rw [(HF.out k hlt).1 hf]; omega))
        go_wp2_with fail
        go_roundg (ww * hh - (k + 1))
        case measure => omega
        case rel => exact ⟨k + 1, by omega, rfl, by go_num, by rw [HSk.out]; exact HS.out⟩
      · have HO := Lib.hid (show Opn m (ww * hh) k from ⟨hlt, by omega⟩)
        have HTF := Lib.hid ((HF.out k hlt).2 HO.out.2)
        have hf' : (zAt m.C k == 0) = false := by simpa using hf
        clear hf
        go_wp2_with fail
        refine (BfoS.to_any m ww hh HG.out a (some ⟨b1, off1, none⟩) ca cb k _ (RowAt.below HR.out HS.out.b) (RowAt.below HC.out HS.out.b) HO.out (T k) (HT.out k HO.out)).mono ?_
        rintro e w2 ⟨⟨vv, rfl, ho⟩, hb2⟩
        have HS2 := Lib.hid (HS.out.below hb2)
        obtain ⟨gv, cv, rfl⟩ := own_at ho (by rw [oL_len]; omega)
        have hx := (own_cell ho (j := i) (by rw [oL_len]; exact hil)).1
        rw [oL_at _ hil, HTF.out] at hx
        rw [oL_len]
        clear hb2 ho p0 p1 p2 p3 g1 HS
        by_cases hgt : 0 ≤ F k ∧ F k ≤ t
        · have HTk := Lib.hid (wl_take hgt)
          obtain ⟨h1, h2⟩ := hgt
          obtain ⟨n, hn⟩ : ∃ n, (ints (wl F t k)).length = n := ⟨_, rfl⟩
          have hn36 := wl_len F t k
          have hown := HS2.out.own.below ((Below.refl _ _).alloc (Nat.le_refl _) (.cells #[.int .i64 k] 3))
          unfold OwnI at hown
          rw [hn] at hown hn36
          have HTa := Lib.hid (HS2.out.alloc (.cells #[.int .i64 k] 3))
          have hsz := HS2.out.b.size
          have HN := Lib.hid hn
          clear hn
          go_wp2_with (at_builtin; (refine wpList_append_own _ rfl (.tmp 48) (.tmp 50) 24 rfl w.heap.size 3 t0 (.int .i64 0) 1 8 Try.underlying24 hi0 hz0 hz1 hz2 rfl (by decide) u8 n _ rfl hown ⟨_, 0, none⟩ 1 1 [.int .i64 k] rfl rfl (cell_one_new _ _ _) (by simp [Value.oneCell']) (by unfold maxLen; omega) (by omega) (by simp; omega) ?_; intro v' w3 hown3 hgr3 _; have HP := Lib.hid (HTa.out.grown hgr3 (own_put (zs := ints (wl F t k)) (by rw [HN.out]; exact hown3))); clear hown3 hgr3))
          go_roundg (ww * hh - (k + 1))
          case measure => omega
          case rel => exact ⟨k + 1, by omega, rfl, by go_num, by rw [HTk.out]; exact HP.out⟩
        · have HSk := Lib.hid (wl_skip hgt)
          by_cases h1 : 0 ≤ F k
          · have hd : decide (F k ≤ t) = false := by
              rw [decide_eq_false_iff_not]
              intro h
              exact hgt ⟨h1, h⟩
            clear hgt
            go_wp2_with fail
            go_roundg (ww * hh - (k + 1))
            case measure => omega
            case rel => exact ⟨k + 1, by omega, rfl, by go_num, by rw [HSk.out]; exact HS2.out⟩
          · have hd : decide (0 ≤ F k) = false := by simpa using h1
            clear hgt
            go_wp2_with fail
            go_roundg (ww * hh - (k + 1))
            case measure => omega
            case rel => exact ⟨k + 1, by omega, rfl, by go_num, by rw [HSk.out]; exact HS2.out⟩
    · obtain rfl : k = ww * hh := by omega
      have hnC : ¬ ww * hh < m.C.length := by omega
      go_wp2_with fail
      go_ret2
      exact ⟨_, rfl, HS.out.own, HS.out.b⟩

/-- What stands in the program's loop. -/
structure Wi (w : World) (box : Array Value) (gt : Nat) (tm : Nat → Int) (v : Value) (zs : List Int) (wr : World) : Prop where
  fa : Fa w box gt tm wr
  own : OwnI wr w.heap.size v zs
theorem Wi.below {w : World} {box : Array Value} {gt : Nat} {tm : Nat → Int} {v : Value} {zs : List Int} {wr w' : World} (h : Wi w box gt tm v zs wr) (hb : Below wr.heap.size wr w') : Wi w box gt tm v zs w' := ⟨h.fa.later hb, h.own.below hb⟩
theorem Wi.alloc {w : World} {box : Array Value} {gt : Nat} {tm : Nat → Int} {v : Value} {zs : List Int} {wr : World} (h : Wi w box gt tm v zs wr) (o : Obj) : Wi w box gt tm v zs (wr.alloc o) := h.below ((Below.refl _ _).alloc (Nat.le_refl _) _)
theorem Wi.grown {w : World} {box : Array Value} {gt : Nat} {tm : Nat → Int} {v v' : Value} {zs zs' : List Int} {wr w' : World} (h : Wi w box gt tm v zs wr) (hg : wr.grownBy w' v.ownBlock) (ho : OwnI w' w.heap.size v' zs') : Wi w box gt tm v' zs' w' :=
  ⟨⟨h.fa.b.grown hg h.fa.b.size (fun k e => (h.own.lt k e).1), blk_grown h.fa.box hg (own_ne h.own h.fa.box (by decide)), blk_grown h.fa.tms hg (own_ne h.own h.fa.tms (by decide))⟩, ho⟩
theorem fa_row {w : World} {box : Array Value} {gt : Nat} {tm : Nat → Int} {wr : World} (h : Fa w box gt tm wr) : Wi w box gt tm (.slice (some ⟨wr.heap.size, 0, none⟩) 0 0) [] (wr.alloc (.cells #[] 3)) :=
  ⟨h.later ((Below.refl _ _).alloc (Nat.le_refl _) _), ownI_nil wr w h.b.size⟩

set_option maxRecDepth 20000 in
set_option maxHeartbeats 4000000 in
theorem impl_ask (m : Mp) (ww hh : Nat) (g : GoodM m ww hh) (i : Nat) (hi : Opn m (ww * hh) i) (t : Int) (ht : 0 ≤ t) (F : Nat → Int) (hF : IsD m (stp m) i F) (a b : Option Addr) (ca cb : Nat) (w : World) (hr : IRow w a m.R) (hc : IRow w b m.C) :
    Calls Try.prog 32 #[.agg #[.int .i64 m.W, .int .i64 m.H, .slice a m.R.length ca, .slice b m.C.length cb], .int .i64 i, .int .i64 t] w (NPost w (ints (wl F t (ww * hh))) true) := by
  obtain ⟨t0, hi0, hz0, hz1, hz2⟩ := info_parts iInfo
  obtain ⟨hR, hC⟩ := lens g
  have n36 := g.n36
  have n1 := g.n1
  have HB := Lib.hid (show Below w.heap.size w ((w.alloc (.cells #[.int .i64 m.W, .int .i64 m.H, .slice a m.R.length ca, .slice b m.C.length cb] 26)).alloc (.cells #[.int .i64 i] 3)) from ((Below.refl _ _).alloc (Nat.le_refl _) _).alloc (by simp) _)
  have HZ := Lib.hid (irow_one (w.alloc (.cells #[.int .i64 m.W, .int .i64 m.H, .slice a m.R.length ca, .slice b m.C.length cb] 26)) (i : Nat) (w.heap.size + 1) (by simp))
  have HK := Lib.hid (show Blk ((w.alloc (.cells #[.int .i64 m.W, .int .i64 m.H, .slice a m.R.length ca, .slice b m.C.length cb] 26)).alloc (.cells #[.int .i64 i] 3)) w.heap.size 26 #[.int .i64 m.W, .int .i64 m.H, .slice a m.R.length ca, .slice b m.C.length cb] from (Blk.new w 26 #[.int .i64 m.W, .int .i64 m.H, .slice a m.R.length ca, .slice b m.C.length cb]).alloc _)
  have HG := Lib.hid g
  have HR := Lib.hid hr
  have HC := Lib.hid hc
  have HI := Lib.hid hi
  have HD := Lib.hid hF
  have HFb := Lib.hid (fun c => hF.bd g hi (wts_from g) c)
  have HA := Lib.hid (show allO m [(i : Nat)] = true from by rw [allO_one]; exact ask_split g hi hi)
  have HCl := Lib.hid (show m.C.length = ww * hh from g.C)
  have hnt : decide (t < 0) = false := by simpa using ht
  clear hr hc hi g hF
  go_enter Try.func32, Try.ntmps32
  go_wp2_with fail
  refine (areopen_any m a b ca cb _ 1 [(i : Nat)] _ hR hC (RowAt.below HR.out HB.out) (RowAt.below HC.out HB.out) HZ.out (by simp)).mono ?_
  rw [HA.out]
  rintro e w1 ⟨rfl, hb1⟩
  have HB1 := Lib.hid (HB.out.trans (hb1.mono HB.out.size))
  have HK1 := Lib.hid (HK.out.later hb1)
  clear hb1 HB HK HZ HA
  obtain ⟨p0, p1, p2, p3, -⟩ := HK1.out.four
  go_wp2_with fail
  refine (TmsI.from_any m ww hh HG.out a b ca cb i _ (RowAt.below HR.out HB1.out) (RowAt.below HC.out HB1.out) HI.out F HD.out).mono ?_
  rintro e w2 ⟨rfl, hb2⟩
  have HS2 := Lib.hid (show Fa w #[.int .i64 m.W, .int .i64 m.H, .slice a m.R.length ca, .slice b m.C.length cb] w2.heap.size (fun c => tmOf (F c)) ((w2.alloc (.cells (timeCs fun _ => 0) 81)).setCells w2.heap.size 0 (timeL fun c => tmOf (F c))) from by
    have hb := (HB1.out.trans (hb2.mono HB1.out.size))
    have hn := stored_new w2 (fun c => tmOf (F c))
    exact ⟨hb.trans (hn.2.mono hb.size), (HK1.out.later hb2).later hn.2, hn.1⟩)
  have HTh := Lib.hid (there_new w2)
  clear hb2 p0 p1 p2 p3 HB1 HK1
  dsimp only
  go_step
  go_step
  go_step
  go_step
  refine wpList_store_mid rfl 81 (.tmp 8) (.tmp 23) rfl w2.heap.size 0 (timeL fun c => tmOf (F c)).toArray rfl rfl (by rw [timeS_len]; exact HTh.out) (by rw [timeS_len]; exact info_times) (all_oneCell_toArray timeL_one) ?_
  obtain ⟨w3, hw3⟩ : ∃ w3, ((w2.alloc (.cells (timeCs fun _ => 0) 81)).setCells w2.heap.size 0 (timeL fun c => tmOf (F c))) = w3 := ⟨_, rfl⟩
  rw [hw3] at HS2
  change wpList _ _ _ _ _ ((w2.alloc (.cells (timeCs fun _ => 0) 81)).setCells w2.heap.size 0 (timeL fun c => tmOf (F c)))
  rw [hw3]
  obtain ⟨gt, hgt⟩ : ∃ gt, w2.heap.size = gt := ⟨_, rfl⟩
  rw [hgt] at HS2 ⊢
  clear hw3 hgt HTh
  have HS3 := Lib.hid (fa_row HS2.out)
  obtain ⟨nC, hnC⟩ : ∃ n : Nat, n = m.C.length := ⟨_, rfl⟩
  have hnn : nC = ww * hh := hnC.trans HCl.out
  obtain ⟨q0, q1, q2, q3, -⟩ := HS2.out.box.four
  have hlt0 := HS2.out.box.lt
  rw [← hnC] at q3
  subst hnn
  have HN := Lib.hid hnC
  clear hnC HS2
  go_wp2_with fail
  go_loopg [28, 9] (ww * hh) (fun q c v wr => ∃ k : Nat, k ≤ ww * hh ∧ q = ww * hh - k ∧ c = .int .i64 k ∧ Wi w #[.int .i64 m.W, .int .i64 m.H, .slice a m.R.length ca, .slice b m.C.length cb] gt (fun c => tmOf (F c)) v (ints (wl F t k)) wr)
  case atStart => exact ⟨0, Nat.zero_le _, rfl, rfl, HS3.out⟩
  case round =>
    clear HS3 q0 q1 q2 q3
    obtain ⟨k, hk, hq, rfl, hS⟩ := hrel
    have HS := Lib.hid hS
    clear hS
    by_cases hlt : k < ww * hh
    · obtain ⟨s1, s2⟩ := time_cell HS.out.fa.tms (j := k) (by omega)
      have hk36 : (k : Int) < 36 := by omega
      obtain ⟨x, hx⟩ : ∃ x, F k = x := ⟨_, rfl⟩
      have HX := Lib.hid hx
      have hb := HFb.out k
      rw [hx] at s1 hb
      clear hx
      by_cases hneg : x < 0
      · rw [show tmOf x = 9223372036854775807 from if_pos hneg] at s1
        have HSk := Lib.hid (wl_skip (F := F) (t := t) (k := k) (by rw [HX.out]; omega))
        go_wp2_with fail
        go_roundg (ww * hh - (k + 1))
        case measure => omega
        case rel => exact ⟨k + 1, by omega, rfl, by go_num, by rw [HSk.out]; exact HS.out⟩
      · rw [show tmOf x = x from if_neg hneg] at s1
        have hne : (x != 9223372036854775807) = true := by rw [bne_iff_ne]; omega
        by_cases hle : x ≤ t
        · have HTk := Lib.hid (wl_take (F := F) (t := t) (k := k) (by rw [HX.out]; omega))
          obtain ⟨n, hn⟩ : ∃ n, (ints (wl F t k)).length = n := ⟨_, rfl⟩
          have hn36 := wl_len F t k
          have hown := HS.out.own.below ((Below.refl _ _).alloc (Nat.le_refl _) (.cells #[.int .i64 k] 3))
          unfold OwnI at hown
          rw [hn] at hown hn36
          have HTa := Lib.hid (HS.out.alloc (.cells #[.int .i64 k] 3))
          have hsz := HS.out.fa.b.size
          have HNn := Lib.hid hn
          clear hn
          go_wp2_with (at_builtin; (refine wpList_append_own _ rfl (.tmp 42) (.tmp 44) 24 rfl w.heap.size 3 t0 (.int .i64 0) 1 8 Try.underlying24 hi0 hz0 hz1 hz2 rfl (by decide) u9 n _ rfl hown ⟨_, 0, none⟩ 1 1 [.int .i64 k] rfl rfl (cell_one_new _ _ _) (by simp [Value.oneCell']) (by unfold maxLen; omega) (by omega) (by simp; omega) ?_; intro v' w3 hown3 hgr3 _; have HP := Lib.hid (HTa.out.grown hgr3 (own_put (zs := ints (wl F t k)) (by rw [HNn.out]; exact hown3))); clear hown3 hgr3))
          go_roundg (ww * hh - (k + 1))
          case measure => omega
          case rel => exact ⟨k + 1, by omega, rfl, by go_num, by rw [HTk.out]; exact HP.out⟩
        · have HSk := Lib.hid (wl_skip (F := F) (t := t) (k := k) (by rw [HX.out]; omega))
          have hd : decide (x ≤ t) = false := by simpa using hle
          clear hle
          go_wp2_with fail
          go_roundg (ww * hh - (k + 1))
          case measure => omega
          case rel => exact ⟨k + 1, by omega, rfl, by go_num, by rw [HSk.out]; exact HS.out⟩
    · obtain rfl : k = ww * hh := by omega
      go_wp2_with fail
      go_ret2
      exact ⟨_, rfl, HS.out.own, HS.out.fa.b⟩

/-- The answer. -/
theorem both (m : Mp) (T : Nat → Nat → Int) (hT : TT m T) (p t : Int) : ∃ (zs : List Int) (ok : Bool), zs.length ≤ 36 ∧ (ok = (askB m p p && decide (0 ≤ t))) ∧ (ok = false → zs = []) ∧
    (ok = true → ∃ ww hh i F, GoodM m ww hh ∧ p = (i : Nat) ∧ Opn m (ww * hh) i ∧ IsD m (stp m) i F ∧ zs = ints (wl F t (ww * hh))) ∧
    (∀ a b ca cb w, m.R.length ≤ maxLen → m.C.length ≤ maxLen → IRow w a m.R → IRow w b m.C → Calls Try.prog 33 #[.agg #[.int .i64 m.W, .int .i64 m.H, .slice a m.R.length ca, .slice b m.C.length cb], .int .i64 p, .int .i64 t] w (NPost w zs ok)) ∧
    (∀ a b ca cb w, m.R.length ≤ maxLen → m.C.length ≤ maxLen → IRow w a m.R → IRow w b m.C → Calls Try.prog 32 #[.agg #[.int .i64 m.W, .int .i64 m.H, .slice a m.R.length ca, .slice b m.C.length cb], .int .i64 p, .int .i64 t] w (NPost w zs ok)) := by
  by_cases h : askB m p p = false ∨ t < 0
  · refine ⟨[], false, by simp, ?_, fun _ => rfl, (fun e => by cases e), fun a b ca cb w hR hC hr hc => spec_no m p t h a b ca cb w hR hC hr hc, fun a b ca cb w hR hC hr hc => impl_no m p t h a b ca cb w hR hC hr hc⟩
    rcases h with h | h
    · rw [h]; rfl
    · rw [decide_eq_false (by omega)]; simp
  · have ha : askB m p p = true := by
      cases e : askB m p p with
      | true => rfl
      | false => exact absurd (.inl e) h
    have ht : 0 ≤ t := by
      by_cases e : 0 ≤ t
      · exact e
      · exact absurd (.inr (by omega)) h
    obtain ⟨hok, h1, _⟩ := askB_of ha
    obtain ⟨ww, hh, g⟩ := good_of hok
    obtain ⟨i, rfl, hi⟩ := opB_of g h1
    obtain ⟨F, hF⟩ := isD_ex g hi (wts_from g)
    have hl := wl_len F t (ww * hh)
    have n36 := g.n36
    exact ⟨_, true, by omega, by rw [ha, decide_eq_true ht]; rfl, (fun e => by cases e), fun _ => ⟨ww, hh, i, F, g, rfl, hi, hF, rfl⟩, fun a b ca cb w _ _ hr hc => spec_ask m T ww hh g hT i hi t ht F hF a b ca cb w hr hc, fun a b ca cb w _ _ hr hc => impl_ask m ww hh g i hi t ht F hF a b ca cb w hr hc⟩
theorem both_v (m : Mp) (p t : Int) : ∃ (zs : List Int) (ok : Bool), zs.length ≤ 36 ∧
    (∀ a b ca cb w, m.R.length ≤ maxLen → m.C.length ≤ maxLen → IRow w a m.R → IRow w b m.C → Calls Try.prog 33 #[.agg #[.int .i64 m.W, .int .i64 m.H, .slice a m.R.length ca, .slice b m.C.length cb], .int .i64 p, .int .i64 t] w (NPost w zs ok)) ∧
    (∀ a b ca cb w, m.R.length ≤ maxLen → m.C.length ≤ maxLen → IRow w a m.R → IRow w b m.C → Calls Try.prog 32 #[.agg #[.int .i64 m.W, .int .i64 m.H, .slice a m.R.length ca, .slice b m.C.length cb], .int .i64 p, .int .i64 t] w (NPost w zs ok)) := by
  obtain ⟨T, hT⟩ := tt_ex m
  obtain ⟨zs, ok, h0, -, -, -, h1, h2⟩ := both m T hT p t
  exact ⟨zs, ok, h0, h1, h2⟩
end Go.Proofs.Ytjngnjokbnklfaa.WinI
