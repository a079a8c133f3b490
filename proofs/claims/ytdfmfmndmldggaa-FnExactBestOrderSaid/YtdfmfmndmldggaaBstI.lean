/- BestRoute: the program. -/
import Derived.Test.YtdfmfmndmldggaaWinI
import Derived.Test.YtdfmfmndmldggaaBstM
import Derived.Deep.RegionHeld3
namespace Go.Proofs.Ytdfmfmndmldggaa.BstI
open Go.RowKit Lb IntS MapS MapV High Cells StepT StpF SpecB DjkB OpnI TmsI LtI FarI WinI
open Go.Proofs.Ytdfmfmndmldggaa.BfoB (oL oL_len oL_at own_at own_cell own_put Rw)
set_option linter.unusedSimpArgs false
set_option linter.unusedVariables false

set_option maxHeartbeats 1000000 in
theorem impl_no (m : Mp) (p q : Int) (ha : askB m p q = false) (a b : Option Addr) (ca cb : Nat) (w : World) (hR : m.R.length ≤ maxLen) (hC : m.C.length ≤ maxLen) (hr : IRow w a m.R) (hc : IRow w b m.C) :
    Calls Try.prog 90 #[.agg #[.int .i64 m.W, .int .i64 m.H, .slice a m.R.length ca, .slice b m.C.length cb], .int .i64 p, .int .i64 q] w (NPost w [] false) := by
  have HB := Lib.hid (show Below w.heap.size w ((w.alloc (.cells #[.int .i64 m.W, .int .i64 m.H, .slice a m.R.length ca, .slice b m.C.length cb] 26)).alloc (.cells #[.int .i64 p, .int .i64 q] 3)) from ((Below.refl _ _).alloc (Nat.le_refl _) _).alloc (by simp) _)
  have HZ := Lib.hid (irow_two (w.alloc (.cells #[.int .i64 m.W, .int .i64 m.H, .slice a m.R.length ca, .slice b m.C.length cb] 26)) p q (w.heap.size + 1) (by simp))
  rw [← allO_two] at ha
  have HA := Lib.hid ha
  clear ha
  go_enter Try.func90, Try.ntmps90
  go_wp2_with fail
  refine (areopen_any m a b ca cb _ 2 [p, q] _ hR hC (RowAt.below hr HB.out) (RowAt.below hc HB.out) HZ.out (by simp)).mono ?_
  rw [HA.out]
  rintro e w1 ⟨rfl, hb1⟩
  have HB1 := Lib.hid (HB.out.trans (hb1.mono HB.out.size))
  clear hb1
  go_wp2_with fail
  go_ret2
  exact ⟨_, rfl, ownI_nil w1 w HB1.out.size, HB1.out.alloc HB1.out.size _⟩

/-- A row of one number, new. -/
theorem own_one (w : World) (base : Nat) (z : Int) (h : base ≤ w.heap.size) : OwnI (w.alloc (.cells #[.int .i64 z] 3)) base (.slice (some ⟨w.heap.size, 0, none⟩) 1 1) [z] :=
  ⟨by simp, .inr ⟨w.heap.size, 1, #[.int .i64 z], rfl, h, heap_alloc_new w _, Nat.le_refl _, by decide, rfl, by simp⟩⟩
theorem fa_one {w : World} {box : Array Value} {gt : Nat} {tm : Nat → Int} {wr : World} (h : Fa w box gt tm wr) (z : Nat) : Wi w box gt tm (.slice (some ⟨wr.heap.size, 0, none⟩) 1 1) (ints [z]) (wr.alloc (.cells #[.int .i64 z] 3)) :=
  ⟨h.later ((Below.refl _ _).alloc (Nat.le_refl _) _), own_one wr w.heap.size z h.b.size⟩
/-- What the walk reads in the drawn region. -/
theorem wi_keep {w : World} {x0 x1 x2 x3 : Value} {gt : Nat} {tm : Nat → Int} {v : Value} {zs : List Int} {wr : World} (h : Wi w #[x0, x1, x2, x3] gt tm v zs wr) {c y : Nat} (hc : c < 36) (hy : y < 36) {t u : Int} (ht : tm c = t) (hu : tm y = u) :
    wr.cell? ⟨gt, c, none⟩ = some (.int .i64 t) ∧ wr.cell? ⟨gt, y, none⟩ = some (.int .i64 u) ∧ wr.cell? ⟨w.heap.size, 0, none⟩ = some x0 ∧ wr.cell? ⟨w.heap.size, 1, none⟩ = some x1 ∧ wr.cell? ⟨w.heap.size, 2, none⟩ = some x2 ∧ wr.cell? ⟨w.heap.size, 3, none⟩ = some x3 := by
  obtain ⟨p0, p1, p2, p3, -⟩ := h.fa.box.four
  subst ht hu
  exact ⟨(time_cell h.fa.tms hc).1, (time_cell h.fa.tms hy).1, p0, p1, p2, p3⟩

set_option maxRecDepth 100000 in
set_option maxHeartbeats 8000000 in
theorem impl_ask (m : Mp) (ww hh : Nat) (j : Nat) (D : Nat → Int) (tg : Tgt m ww hh j D) (i : Nat) (hi : Opn m (ww * hh) i) (a b : Option Addr) (ca cb : Nat) (w : World) (hr : IRow w a m.R) (hc : IRow w b m.C) :
    Calls Try.prog 90 #[.agg #[.int .i64 m.W, .int .i64 m.H, .slice a m.R.length ca, .slice b m.C.length cb], .int .i64 i, .int .i64 j] w fun e w' => (D i < 0 ∧ NPost w [] false e w') ∨ (0 ≤ D i ∧ ∃ k, Best m D i j k ∧ NPost w (ints (rt m D i k)) true e w') := by
  obtain ⟨t0, hi0, hz0, hz1, hz2⟩ := info_parts iInfo
  have g := tg.g
  obtain ⟨hR, hC⟩ := lens g
  have n36 := g.n36
  have n1 := g.n1
  have HB := Lib.hid (show Below w.heap.size w ((w.alloc (.cells #[.int .i64 m.W, .int .i64 m.H, .slice a m.R.length ca, .slice b m.C.length cb] 26)).alloc (.cells #[.int .i64 i, .int .i64 j] 3)) from ((Below.refl _ _).alloc (Nat.le_refl _) _).alloc (by simp) _)
  have HZ := Lib.hid (irow_two (w.alloc (.cells #[.int .i64 m.W, .int .i64 m.H, .slice a m.R.length ca, .slice b m.C.length cb] 26)) (i : Nat) (j : Nat) (w.heap.size + 1) (by simp))
  have HK := Lib.hid (show Blk ((w.alloc (.cells #[.int .i64 m.W, .int .i64 m.H, .slice a m.R.length ca, .slice b m.C.length cb] 26)).alloc (.cells #[.int .i64 i, .int .i64 j] 3)) w.heap.size 26 #[.int .i64 m.W, .int .i64 m.H, .slice a m.R.length ca, .slice b m.C.length cb] from (Blk.new w 26 #[.int .i64 m.W, .int .i64 m.H, .slice a m.R.length ca, .slice b m.C.length cb]).alloc _)
  have HG := Lib.hid g
  have HTg := Lib.hid tg
  have HR := Lib.hid hr
  have HC := Lib.hid hc
  have HDb := Lib.hid (fun c => tg.D.bd g tg.ho (wts_to g) c)
  have HA := Lib.hid (show allO m [(i : Nat), (j : Nat)] = true from by rw [allO_two]; exact ask_split g hi tg.ho)
  have hil : i < ww * hh := hi.1
  have hi36 : i < 36 := by omega
  clear hr hc hi g tg
  go_enter Try.func90, Try.ntmps90
  go_wp2_with fail
  refine (areopen_any m a b ca cb _ 2 [(i : Nat), (j : Nat)] _ hR hC (RowAt.below HR.out HB.out) (RowAt.below HC.out HB.out) HZ.out (by simp)).mono ?_
  rw [HA.out]
  rintro e w1 ⟨rfl, hb1⟩
  have HB1 := Lib.hid (HB.out.trans (hb1.mono HB.out.size))
  have HK1 := Lib.hid (HK.out.later hb1)
  clear hb1 HB HK HZ HA
  obtain ⟨p0, p1, p2, p3, -⟩ := HK1.out.four
  go_wp2_with fail
  refine (TmsI.to_any m ww hh HG.out a b ca cb j _ (RowAt.below HR.out HB1.out) (RowAt.below HC.out HB1.out) HTg.out.ho D HTg.out.D).mono ?_
  rintro e w2 ⟨rfl, hb2⟩
  have HS2 := Lib.hid (show Fa w #[.int .i64 m.W, .int .i64 m.H, .slice a m.R.length ca, .slice b m.C.length cb] w2.heap.size (fun c => tmOf (D c)) ((w2.alloc (.cells (timeCs fun _ => 0) 111)).setCells w2.heap.size 0 (timeL fun c => tmOf (D c))) from by
    have hb := (HB1.out.trans (hb2.mono HB1.out.size))
    have hn := stored_new w2 (fun c => tmOf (D c))
    exact ⟨hb.trans (hn.2.mono hb.size), (HK1.out.later hb2).later hn.2, hn.1⟩)
  have HTh := Lib.hid (there_new w2)
  clear hb2 p0 p1 p2 p3 HB1 HK1
  dsimp only
  go_step
  go_step
  go_step
  go_step
  refine wpList_store_mid rfl 111 (.tmp 8) (.tmp 22) rfl w2.heap.size 0 (timeL fun c => tmOf (D c)).toArray rfl rfl (by rw [timeS_len]; exact HTh.out) (by rw [timeS_len]; exact info_times) (all_oneCell_toArray timeL_one) ?_
  obtain ⟨w3, hw3⟩ : ∃ w3, ((w2.alloc (.cells (timeCs fun _ => 0) 111)).setCells w2.heap.size 0 (timeL fun c => tmOf (D c))) = w3 := ⟨_, rfl⟩
  rw [hw3] at HS2
  change wpList _ _ _ _ _ ((w2.alloc (.cells (timeCs fun _ => 0) 111)).setCells w2.heap.size 0 (timeL fun c => tmOf (D c)))
  rw [hw3]
  obtain ⟨gt, hgt⟩ : ∃ gt, w2.heap.size = gt := ⟨_, rfl⟩
  rw [hgt] at HS2 ⊢
  clear hw3 hgt HTh
  obtain ⟨s1, s2⟩ := time_cell HS2.out.tms (j := i) hi36
  by_cases hneg : D i < 0
  · rw [show tmOf (D i) = 9223372036854775807 from if_pos hneg] at s1
    have HNg := Lib.hid hneg
    clear hneg
    go_wp2_with fail
    go_ret2
    exact .inl ⟨HNg.out, _, rfl, ownI_nil w3 w HS2.out.b.size, HS2.out.b.alloc HS2.out.b.size _⟩
  · rw [show tmOf (D i) = D i from if_neg hneg] at s1
    have hdi := HDb.out i
    obtain ⟨x, hx⟩ : ∃ x, D i = x := ⟨_, rfl⟩
    have HNg := Lib.hid (show 0 ≤ D i by omega)
    rw [hx] at s1 hdi
    have hne : (x == 9223372036854775807) = false := by rw [beq_eq_false_iff_ne]; omega
    have HX := Lib.hid hx
    have HS3 := Lib.hid (fa_one HS2.out i)
    clear hneg hx
    go_wp2_with fail
    go_loopg [10, 9] ((D i).toNat) (fun q c v wr => ∃ k : Nat, q = (D (tr m D i k)).toNat ∧ c = .int .i64 (tr m D i k : Nat) ∧ OnWay m D i j k ∧ Wi w #[.int .i64 m.W, .int .i64 m.H, .slice a m.R.length ca, .slice b m.C.length cb] gt (fun c => tmOf (D c)) v (ints (rt m D i k)) wr)
    case atStart => exact ⟨0, rfl, rfl, .start HNg.out, HS3.out⟩
    case round =>
      clear HS3 s1 s2 HS2
      obtain ⟨k, hq, rfl, hw, hS⟩ := hrel
      have HWy := Lib.hid hw
      have HS := Lib.hid hS
      obtain ⟨c, hc⟩ : ∃ c, tr m D i k = c := ⟨_, rfl⟩
      have HCe := Lib.hid hc
      have hDc := hw.pos
      have hsum := hw.sum
      rw [hc] at hq hDc hsum
      rw [hc]
      have hco := HTg.out.D.opn HG.out HTg.out.ho hDc
      have hcl : c < ww * hh := hco.1
      have hc36 : c < 36 := by omega
      have HQ := Lib.hid hq
      clear hw hS hc hq hco
      by_cases hend : c = j
      · subst hend
        go_wp2_with fail
        go_ret2
        exact .inr ⟨HNg.out, k, ⟨HWy.out, HCe.out⟩, _, rfl, HS.out.own, HS.out.fa.b⟩
      · have hend2 : ((c : Int) == (j : Int)) = false := by rw [beq_eq_false_iff_ne]; omega
        have hend3 : ((c : Int) != (j : Int)) = true := by rw [bne_iff_ne]; omega
        obtain ⟨p0, p1, p2, p3, -⟩ := HS.out.fa.box.four
        have HEn := Lib.hid hend
        clear hend
        go_wp2_with fail
        refine (impl_next m ww hh HG.out a b ca cb c _ (RowAt.below HC.out HS.out.fa.b) hcl).mono ?_
        rintro e w4 ⟨⟨v8, rfl, ho8⟩, hb4⟩
        obtain ⟨a8, c8, rfl, -, -⟩ := OwnI.slice ho8
        rw [ints_length] at ho8 ⊢
        have HS4 := Lib.hid (HS.out.below hb4)
        have HV4 := Lib.hid (BfoB.irow_of ho8)
        have hnl := nx_length m c
        clear ho8 hb4 p0 p1 p2 p3
        go_wp2_with fail
        go_loopg [38, 10] (nx m c).length (fun q i8 cc wr => ∃ (r : Nat), r ≤ (nx m c).length ∧ q = (nx m c).length - r ∧ i8 = .int .i64 r ∧ cc = .int .i64 c ∧ (∀ q, q < r → q < (nx m c).length → stB m D c ((nx m c).getD q 0) = false) ∧ Wi w #[.int .i64 m.W, .int .i64 m.H, .slice a m.R.length ca, .slice b m.C.length cb] gt (fun c => tmOf (D c)) u9 (ints (rt m D i k)) wr ∧ IRow wr a8 (ints (nx m c)))
        case atStart => exact ⟨0, Nat.zero_le _, rfl, rfl, rfl, (fun q hq => by omega), HS4.out, HV4.out⟩
        case round =>
          clear HS4 HV4 HS
          obtain ⟨r, hr, hq2, rfl, rfl, hno, hS, hV⟩ := hrel
          have HNo := Lib.hid hno
          have HS := Lib.hid hS
          have HV := Lib.hid hV
          clear hno hS hV
          by_cases hrl : r < (nx m c).length
          · obtain ⟨y, hy⟩ : ∃ y, (nx m c).getD r 0 = y := ⟨_, rfl⟩
            have hym : y ∈ nx m c := by rw [← hy]; exact getD_mem hrl
            have hyl : y < ww * hh := (nx_lt HG.out hcl hym).1
            have hy36 : y < 36 := by omega
            have hDy := (HTg.out.D.step hDc hym).1
            have hDyb := HDb.out y
            have hDcb := HDb.out c
            obtain ⟨hw1, hw2⟩ := stp_bd HG.out hcl (nx_lt HG.out hcl hym)
            have g8 : ∃ b8 o8, a8 = some ⟨b8, o8, none⟩ ∧ wr.cell? ⟨b8, o8 + r, none⟩ = some (.int .i64 (y : Nat)) := by
              rcases HV.out with h0 | ⟨b8, o8, e8, h8⟩
              · rw [ints_length] at h0; omega
              · exact ⟨b8, o8, e8, by rw [h8 r (by rw [ints_length]; exact hrl)]; show some (Value.int .i64 (zAt (ints (nx m c)) r)) = _; rw [zAt_ints _ _ hrl, hy]⟩
            obtain ⟨b8, o8, rfl, g8⟩ := g8
            have e1 : tmOf (D c) = D c := if_neg (by omega)
            have e2 : tmOf (D y) = D y := if_neg (by omega)
            obtain ⟨u, hu⟩ : ∃ u, D c = u := ⟨_, rfl⟩
            obtain ⟨v, hv⟩ : ∃ v, D y = v := ⟨_, rfl⟩
            obtain ⟨s, hs⟩ : ∃ s, stp m c y = s := ⟨_, rfl⟩
            have HE1 := Lib.hid (e1.trans hu)
            have HE2 := Lib.hid (e2.trans hv)
            rw [hu] at hDcb hDc hsum
            rw [hv] at hDyb hDy
            rw [hs] at hw1 hw2
            have hwr : IntKind.i64.wrap (s + v) = s + v := IntWalk.i64_in _ (by omega)
            have hy0 : (0 : Int) ≤ (y : Int) := by omega
            have hyi : (y : Int) < 36 := by omega
            have hx0 : (0 : Int) ≤ (c : Int) := by omega
            have hxi : (c : Int) < 36 := by omega
            have HY := Lib.hid hy
            have HU := Lib.hid hu
            have HVv := Lib.hid hv
            have HSs := Lib.hid hs
            have HSt := Lib.hid (fun W (H : Below w.heap.size w W) => impl_step m ww hh HG.out a b ca cb c y W (RowAt.below HR.out H) (RowAt.below HC.out H) hcl hyl)
            rw [hs] at HSt
            have HS0 := HS
            clear hu hv hs hy hym e1 e2
            have HS := Lib.hid (HS.out.below (Below.refl _ _).drew)
            have HV := Lib.hid (RowAt.below HV.out (Below.refl _ _).drew)
            go_upto_region 12 with (fail)
            clear g8
            go_region_held3 (fun W : World => W.cell? ⟨gt, c, none⟩ = some (.int .i64 u) ∧ W.cell? ⟨gt, y, none⟩ = some (.int .i64 v) ∧ W.cell? ⟨w.heap.size, 0, none⟩ = some (.int .i64 m.W) ∧ W.cell? ⟨w.heap.size, 1, none⟩ = some (.int .i64 m.H) ∧ W.cell? ⟨w.heap.size, 2, none⟩ = some (.slice a m.R.length ca) ∧ W.cell? ⟨w.heap.size, 3, none⟩ = some (.slice b m.C.length cb)) (first | with_reducible exact wi_keep HS.out hc36 hy36 HE1.out HE2.out) (first
              | (go_at_call 84; refine (HSt.out _ HS.out.fa.b).mono ?_; rintro e w5 ⟨rfl, hb5⟩; have HS5 := Lib.hid (HS.out.below hb5); have HV5 := Lib.hid (RowAt.below HV.out hb5); clear hb5; have HS := HS5; have HV := HV5))
            by_cases hok : s + v = u
            · have HF := Lib.hid (find_first (p := stB m D c) HNo.out hrl (by unfold stB; rw [HY.out, HSs.out, HVv.out, HU.out]; exact decide_eq_true hok))
              have hb : (s + v == u) = true := by simpa using hok
              have HNx := Lib.hid (HWy.out.next HTg.out (by rw [HCe.out]; exact HEn.out))
              have HTr := Lib.hid (show tr m D i (k + 1) = y from by show nxt m D (tr m D i k) = y; unfold nxt; rw [HCe.out, HF.out, HY.out]; rfl)
              have hrl2 := rt_len m D i k
              have HRt := Lib.hid (show ints (rt m D i (k + 1)) = ints (rt m D i k) ++ [(y : Int)] from by rw [rt_succ, HTr.out]; simp [ints])
              obtain ⟨n, hn⟩ : ∃ n, (ints (rt m D i k)).length = n := ⟨_, rfl⟩
              have hn36 : n = k + 1 := by rw [← hn, ints_length, hrl2]
              have hown := HS.out.own.below ((Below.refl _ _).alloc (Nat.le_refl _) (.cells #[.int .i64 y] 3))
              unfold OwnI at hown
              rw [hn] at hown
              have HTa := Lib.hid (HS.out.alloc (.cells #[.int .i64 y] 3))
              have hsz := HS.out.fa.b.size
              have HNn := Lib.hid hn
              have hdi3 := HDb.out i
              have h63 : n + 1 ≤ maxLen := by unfold maxLen; omega
              have h64 : (n + 1) * 8 ≤ 140737488355328 := by omega
              clear hn hok hrl2 hn36
              go_wp2_with (at_builtin; (refine wpList_append_own _ rfl (.tmp 56) (.tmp 58) 24 rfl w.heap.size 3 t0 (.int .i64 0) 1 8 Try.underlying24 hi0 hz0 hz1 hz2 rfl (by decide) u9 n _ rfl hown ⟨_, 0, none⟩ 1 1 [.int .i64 y] rfl rfl (cell_one_new _ _ _) (by simp [Value.oneCell']) h63 h64 (by simp; omega) ?_; intro v' w3 hown3 hgr3 _; have HP := Lib.hid (HTa.out.grown hgr3 (own_put (zs := ints (rt m D i k)) (by rw [HNn.out]; exact hown3))); clear hown3 hgr3))
              go_roundg ((D (tr m D i (k + 1))).toNat)
              case measure =>
                have h1 := HNx.out.2
                have h2 := HQ.out
                rw [HCe.out] at h1
                omega
              case rel => exact ⟨k + 1, rfl, by rw [HTr.out], HNx.out.1, by rw [HRt.out]; exact HP.out⟩
            · have hb : (s + v == u) = false := by simpa using hok
              have HNo2 := Lib.hid (show ∀ q, q < r + 1 → q < (nx m c).length → stB m D c ((nx m c).getD q 0) = false from fun q hq hl => by
                by_cases e : q = r
                · subst e
                  unfold stB
                  rw [HY.out, HSs.out, HVv.out, HU.out]
                  exact decide_eq_false hok
                · exact HNo.out q (by omega) hl)
              clear hok
              go_wp2_with fail
              go_roundg ((nx m c).length - (r + 1))
              case measure => omega
              case rel => exact ⟨r + 1, by omega, rfl, by go_num, rfl, HNo2.out, HS.out, HV.out⟩
          · exfalso
            obtain ⟨z, hz, _⟩ := HTg.out.next hDc HEn.out
            rw [find_none fun q hq => HNo.out q (by omega) hq] at hz
            cases hz
end Go.Proofs.Ytdfmfmndmldggaa.BstI
