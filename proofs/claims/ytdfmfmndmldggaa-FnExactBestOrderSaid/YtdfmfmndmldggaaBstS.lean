/- BestRoute: the model. -/
import Derived.Test.YtdfmfmndmldggaaBstI
namespace Go.Proofs.Ytdfmfmndmldggaa.BstS
open Go.RowKit Lb IntS MapS MapV High Cells StepT StpF SpecB DjkB OpnI TmsI LtI FarI WinI BstI
open Go.Proofs.Ytdfmfmndmldggaa.BfoB (oL oL_len oL_at own_at own_cell own_put Rw)
set_option linter.unusedSimpArgs false
set_option linter.unusedVariables false

/-- The row of times, and the row that grows. -/
structure Sp (w : World) (box : Array Value) (n gq cq : Nat) (o : Nat → Int) (bo : Nat) (v : Value) (zs : List Int) (wr : World) : Prop where
  rw_ : Rw w box (.slice (some ⟨gq, 0, none⟩) n cq) (oL n o) wr
  own : OwnI wr bo v zs
  lt : gq < bo
  hb : w.heap.size ≤ bo
theorem Sp.below {w : World} {box : Array Value} {n gq cq : Nat} {o : Nat → Int} {bo : Nat} {v : Value} {zs : List Int} {wr w' : World} (h : Sp w box n gq cq o bo v zs wr) (hb : Below wr.heap.size wr w') : Sp w box n gq cq o bo v zs w' := ⟨h.rw_.below hb, h.own.below hb, h.lt, h.hb⟩
theorem Sp.alloc {w : World} {box : Array Value} {n gq cq : Nat} {o : Nat → Int} {bo : Nat} {v : Value} {zs : List Int} {wr : World} (h : Sp w box n gq cq o bo v zs wr) (ob : Obj) : Sp w box n gq cq o bo v zs (wr.alloc ob) := h.below ((Below.refl _ _).alloc (Nat.le_refl _) _)
theorem Sp.grown {w : World} {box : Array Value} {n gq cq : Nat} {o : Nat → Int} {bo : Nat} {v v' : Value} {zs zs' : List Int} {wr w' : World} (h : Sp w box n gq cq o bo v zs wr) (hg : wr.grownBy w' v.ownBlock) (ho : OwnI w' bo v' zs') : Sp w box n gq cq o bo v' zs' w' :=
  ⟨⟨h.rw_.b.grown hg h.rw_.b.size (fun k e => Nat.le_trans h.hb (h.own.lt k e).1), blk_grown h.rw_.box hg (own_ne h.own h.rw_.box (by decide)), own_grown h.rw_.own hg (fun x y hx hy => by
    obtain rfl : gq = x := by simpa [Value.ownBlock] using hx
    have h1 := (h.own.lt y hy).1
    have h2 := h.lt
    omega)⟩, ho, h.lt, h.hb⟩
theorem Sp.keep {w : World} {x0 x1 x2 x3 : Value} {n gq cq : Nat} {o : Nat → Int} {bo : Nat} {v : Value} {zs : List Int} {wr : World} (h : Sp w #[x0, x1, x2, x3] n gq cq o bo v zs wr) {c y : Nat} (hc : c < n) (hy : y < n) {t u : Int} (ht : o c = t) (hu : o y = u) :
    wr.cell? ⟨gq, c, none⟩ = some (.int .i64 t) ∧ wr.cell? ⟨gq, y, none⟩ = some (.int .i64 u) ∧ wr.cell? ⟨w.heap.size, 0, none⟩ = some x0 ∧ wr.cell? ⟨w.heap.size, 1, none⟩ = some x1 ∧ wr.cell? ⟨w.heap.size, 2, none⟩ = some x2 ∧ wr.cell? ⟨w.heap.size, 3, none⟩ = some x3 := by
  obtain ⟨p0, p1, p2, p3, -⟩ := h.rw_.box.four
  have h1 := (own_cell h.rw_.own (j := c) (by rw [oL_len]; exact hc)).1
  have h2 := (own_cell h.rw_.own (j := y) (by rw [oL_len]; exact hy)).1
  rw [oL_at _ hc, ht] at h1
  rw [oL_at _ hy, hu] at h2
  exact ⟨h1, h2, p0, p1, p2, p3⟩

set_option maxRecDepth 100000 in
set_option maxHeartbeats 8000000 in
theorem best_any (m : Mp) (ww hh : Nat) (j : Nat) (D : Nat → Int) (tg : Tgt m ww hh j D) (i : Nat) (hD : 0 ≤ D i) (a b : Option Addr) (ca cb : Nat) (w : World) (hr : IRow w a m.R) (hc : IRow w b m.C) :
    Calls Try.prog 93 #[.agg #[.int .i64 m.W, .int .i64 m.H, .slice a m.R.length ca, .slice b m.C.length cb], .int .i64 i, .int .i64 j] w fun e w' => (∃ v k, e = .returned v ∧ Best m D i j k ∧ OwnI w' w.heap.size v (ints (rt m D i k))) ∧ Below w.heap.size w w' := by
  obtain ⟨t0, hi0, hz0, hz1, hz2⟩ := info_parts iInfo
  have g := tg.g
  have n36 := g.n36
  have n1 := g.n1
  have HB := Lib.hid ((Below.refl w.heap.size w).alloc (Nat.le_refl _) (.cells #[.int .i64 m.W, .int .i64 m.H, .slice a m.R.length ca, .slice b m.C.length cb] 26))
  have HK := Lib.hid (Blk.new w 26 #[.int .i64 m.W, .int .i64 m.H, .slice a m.R.length ca, .slice b m.C.length cb])
  have HG := Lib.hid g
  have HTg := Lib.hid tg
  have HR := Lib.hid hr
  have HC := Lib.hid hc
  have HNg := Lib.hid hD
  have HDb := Lib.hid (fun c => tg.D.bd g tg.ho (wts_to g) c)
  clear hr hc g tg hD
  go_enter Try.func93, Try.ntmps93
  go_wp2_with fail
  refine (BfoS.to_any m ww hh HG.out a b ca cb j _ (RowAt.below HR.out HB.out) (RowAt.below HC.out HB.out) HTg.out.ho D HTg.out.D).mono ?_
  rintro e w2 ⟨⟨vq, rfl, ho⟩, hb2⟩
  obtain ⟨gq, cq, rfl⟩ := own_at ho (by rw [oL_len]; omega)
  rw [oL_len] at ho ⊢
  have HRw := Lib.hid (show Rw w #[.int .i64 m.W, .int .i64 m.H, .slice a m.R.length ca, .slice b m.C.length cb] (.slice (some ⟨gq, 0, none⟩) (ww * hh) cq) (oL (ww * hh) D) w2 from ⟨HB.out.trans (hb2.mono HB.out.size), HK.out.later hb2, rebase ho HB.out.size⟩)
  have HS3 := Lib.hid (show Sp w #[.int .i64 m.W, .int .i64 m.H, .slice a m.R.length ca, .slice b m.C.length cb] (ww * hh) gq cq D w2.heap.size (.slice (some ⟨w2.heap.size, 0, none⟩) 1 1) (ints [i]) (w2.alloc (.cells #[.int .i64 i] 3)) from
    ⟨HRw.out.alloc _, own_one w2 w2.heap.size i (Nat.le_refl _), (HRw.out.own.lt gq (by simp [Value.ownBlock])).2, HRw.out.b.size⟩)
  obtain ⟨bo, hbo⟩ : ∃ bo, bo = w2.heap.size := ⟨_, rfl⟩
  have hs2 := HRw.out.b.size
  rw [← hbo] at HS3 hs2
  have HBo := Lib.hid hbo
  clear ho hb2 HB HK HRw hbo
  go_wp2_with fail
  go_loopg [9, 8] ((D i).toNat) (fun q c v wr => ∃ k : Nat, q = (D (tr m D i k)).toNat ∧ c = .int .i64 (tr m D i k : Nat) ∧ OnWay m D i j k ∧ Sp w #[.int .i64 m.W, .int .i64 m.H, .slice a m.R.length ca, .slice b m.C.length cb] (ww * hh) gq cq D bo v (ints (rt m D i k)) wr)
  case atStart => exact ⟨0, rfl, rfl, .start HNg.out, by rw [HBo.out] at HS3 ⊢; exact HS3.out⟩
  case round =>
    clear HS3 HBo
    obtain ⟨k, hq, rfl, hw, hS⟩ := hrel
    have HWy := Lib.hid hw
    have HS := Lib.hid hS
    obtain ⟨c, hc⟩ : ∃ c, tr m D i k = c := ⟨_, rfl⟩
    have HCe := Lib.hid hc
    have hDc := hw.pos
    have hsum := hw.sum
    rw [hc] at hq hDc hsum
    rw [hc]
    have hco := HTg.out.D.opn HG.out HTg.out.ho hDc
    have hcl : c < ww * hh := hco.1
    have HQ := Lib.hid hq
    clear hw hS hc hq hco
    by_cases hend : c = j
    · subst hend
      go_wp2_with fail
      go_ret
      exact ⟨⟨_, k, rfl, ⟨HWy.out, HCe.out⟩, rebase HS.out.own HS.out.hb⟩, HS.out.rw_.b⟩
    · have hend2 : ((c : Int) == (j : Int)) = false := by rw [beq_eq_false_iff_ne]; omega
      have hend3 : ((c : Int) != (j : Int)) = true := by rw [bne_iff_ne]; omega
      obtain ⟨p0, p1, p2, p3, -⟩ := HS.out.rw_.box.four
      have HEn := Lib.hid hend
      clear hend
      go_wp2_with fail
      refine (spec_next m ww hh HG.out a b ca cb c _ (RowAt.below HC.out HS.out.rw_.b) hcl).mono ?_
      rintro e w4 ⟨⟨v8, rfl, ho8⟩, hb4⟩
      obtain ⟨a8, c8, rfl, -, -⟩ := OwnI.slice ho8
      rw [ints_length] at ho8 ⊢
      have HS4 := Lib.hid (HS.out.below hb4)
      have HV4 := Lib.hid (BfoB.irow_of ho8)
      have hnl := nx_length m c
      clear ho8 hb4 p0 p1 p2 p3
      go_wp2_with fail
      go_loopg [11, 9] (nx m c).length (fun q i8 cc wr => ∃ (r : Nat), r ≤ (nx m c).length ∧ q = (nx m c).length - r ∧ i8 = .int .i64 r ∧ cc = .int .i64 c ∧ (∀ q, q < r → q < (nx m c).length → stB m D c ((nx m c).getD q 0) = false) ∧ Sp w #[.int .i64 m.W, .int .i64 m.H, .slice a m.R.length ca, .slice b m.C.length cb] (ww * hh) gq cq D bo u8 (ints (rt m D i k)) wr ∧ IRow wr a8 (ints (nx m c)))
      case atStart => exact ⟨0, Nat.zero_le _, rfl, rfl, rfl, (fun q hq => by omega), HS4.out, HV4.out⟩
      case round =>
        clear HS4 HV4 HS
        obtain ⟨r, hr, hq2, rfl, rfl, hno, hS, hV⟩ := hrel
        have HNo := Lib.hid hno
        have HS := Lib.hid hS
        have HV := Lib.hid hV
        clear hno hS hV
        by_cases hrl : r < (nx m c).length
        · obtain ⟨y, hy⟩ : ∃ y, (nx m c).getD r 0 = y := ⟨_, rfl⟩
          have hym : y ∈ nx m c := by rw [← hy]; exact getD_mem hrl
          have hyl : y < ww * hh := (nx_lt HG.out hcl hym).1
          have hDy := (HTg.out.D.step hDc hym).1
          have hDyb := HDb.out y
          have hDcb := HDb.out c
          obtain ⟨hw1, hw2⟩ := stp_bd HG.out hcl (nx_lt HG.out hcl hym)
          have g8 : ∃ b8 o8, a8 = some ⟨b8, o8, none⟩ ∧ wr.cell? ⟨b8, o8 + r, none⟩ = some (.int .i64 (y : Nat)) := by
            rcases HV.out with h0 | ⟨b8, o8, e8, h8⟩
            · rw [ints_length] at h0; omega
            · exact ⟨b8, o8, e8, by rw [h8 r (by rw [ints_length]; exact hrl)]; show some (Value.int .i64 (zAt (ints (nx m c)) r)) = _; rw [zAt_ints _ _ hrl, hy]⟩
          obtain ⟨b8, o8, rfl, g8⟩ := g8
          obtain ⟨u, hu⟩ : ∃ u, D c = u := ⟨_, rfl⟩
          obtain ⟨v, hv⟩ : ∃ v, D y = v := ⟨_, rfl⟩
          obtain ⟨s, hs⟩ : ∃ s, stp m c y = s := ⟨_, rfl⟩
          rw [hu] at hDcb hDc hsum
          rw [hv] at hDyb hDy
          rw [hs] at hw1 hw2
          have hwr : IntKind.i64.wrap (v + s) = v + s := IntWalk.i64_in _ (by omega)
          have hy0 : (0 : Int) ≤ (y : Int) := by omega
          have hyi : (y : Int) < (ww : Int) * (hh : Int) := by rw [← Int.natCast_mul]; omega
          have hx0 : (0 : Int) ≤ (c : Int) := by omega
          have hxi : (c : Int) < (ww : Int) * (hh : Int) := by rw [← Int.natCast_mul]; omega
          have HY := Lib.hid hy
          have HU := Lib.hid hu
          have HVv := Lib.hid hv
          have HSs := Lib.hid hs
          have HSt := Lib.hid (fun W (H : Below w.heap.size w W) => spec_step m ww hh HG.out a b ca cb c y W (RowAt.below HR.out H) (RowAt.below HC.out H) hcl hyl)
          rw [hs] at HSt
          clear hu hv hs hy hym
          have HS := Lib.hid (HS.out.below (Below.refl _ _).drew)
          have HV := Lib.hid (RowAt.below HV.out (Below.refl _ _).drew)
          go_upto_region 10 with (fail)
          clear g8
          go_region_held3 (fun W : World => W.cell? ⟨gq, c, none⟩ = some (.int .i64 u) ∧ W.cell? ⟨gq, y, none⟩ = some (.int .i64 v) ∧ W.cell? ⟨w.heap.size, 0, none⟩ = some (.int .i64 m.W) ∧ W.cell? ⟨w.heap.size, 1, none⟩ = some (.int .i64 m.H) ∧ W.cell? ⟨w.heap.size, 2, none⟩ = some (.slice a m.R.length ca) ∧ W.cell? ⟨w.heap.size, 3, none⟩ = some (.slice b m.C.length cb)) (first | with_reducible exact HS.out.keep hcl hyl HU.out HVv.out) (first
            | (go_at_call 115; refine (HSt.out _ HS.out.rw_.b).mono ?_; rintro e w5 ⟨rfl, hb5⟩; have HS5 := Lib.hid (HS.out.below hb5); have HV5 := Lib.hid (RowAt.below HV.out hb5); clear hb5; have HS := HS5; have HV := HV5))
          by_cases hok : s + v = u
          · have HF := Lib.hid (find_first (p := stB m D c) HNo.out hrl (by unfold stB; rw [HY.out, HSs.out, HVv.out, HU.out]; exact decide_eq_true hok))
            have hb : (v + s == u) = true := by rw [beq_iff_eq]; omega
            have HNx := Lib.hid (HWy.out.next HTg.out (by rw [HCe.out]; exact HEn.out))
            have HTr := Lib.hid (show tr m D i (k + 1) = y from by show nxt m D (tr m D i k) = y; unfold nxt; rw [HCe.out, HF.out, HY.out]; rfl)
            have hrl2 := rt_len m D i k
            have HRt := Lib.hid (show ints (rt m D i (k + 1)) = ints (rt m D i k) ++ [(y : Int)] from by rw [rt_succ, HTr.out]; simp [ints])
            obtain ⟨n, hn⟩ : ∃ n, (ints (rt m D i k)).length = n := ⟨_, rfl⟩
            have hn36 : n = k + 1 := by rw [← hn, ints_length, hrl2]
            have hown := HS.out.own.below ((Below.refl _ _).alloc (Nat.le_refl _) (.cells #[.int .i64 y] 3))
            unfold OwnI at hown
            rw [hn] at hown
            have HTa := Lib.hid (HS.out.alloc (.cells #[.int .i64 y] 3))
            have hsz := HS.out.rw_.b.size
            have hbw : bo ≤ w5.heap.size + 1 := by
              have h1 := (HS.out.own.lt)
              obtain ⟨a9, c9, e9, _, h9⟩ := OwnI.slice HS.out.own
              cases a9 with
              | none =>
                exfalso
                have := HS.out.own.2
                rw [e9] at this
                rcases this with ⟨_, h0⟩ | ⟨g', c', cur, hv', _⟩
                · rw [hn] at h0; omega
                · cases hv'
              | some x9 => have := h9 x9 rfl; omega
            have HNn := Lib.hid hn
            have hdi3 := HDb.out i
            have h63 : n + 1 ≤ maxLen := by unfold maxLen; omega
            have h64 : (n + 1) * 8 ≤ 140737488355328 := by omega
            clear hn hok hrl2 hn36
            go_wp2_with (at_builtin; (refine wpList_append_own _ rfl (.tmp 57) (.tmp 59) 24 rfl bo 3 t0 (.int .i64 0) 1 8 Try.underlying24 hi0 hz0 hz1 hz2 rfl (by decide) u8 n _ rfl hown ⟨_, 0, none⟩ 1 1 [.int .i64 y] rfl rfl (cell_one_new _ _ _) (by simp [Value.oneCell']) h63 h64 (by simp; omega) ?_; intro v' w3 hown3 hgr3 _; have HP := Lib.hid (HTa.out.grown hgr3 (own_put (zs := ints (rt m D i k)) (by rw [HNn.out]; exact hown3))); clear hown3 hgr3))
            go_roundg ((D (tr m D i (k + 1))).toNat)
            case measure =>
              have h1 := HNx.out.2
              have h2 := HQ.out
              rw [HCe.out] at h1
              omega
            case rel => exact ⟨k + 1, rfl, by rw [HTr.out], HNx.out.1, by rw [HRt.out]; exact HP.out⟩
          · have hb : (v + s == u) = false := by rw [beq_eq_false_iff_ne]; omega
            have HNo2 := Lib.hid (show ∀ q, q < r + 1 → q < (nx m c).length → stB m D c ((nx m c).getD q 0) = false from fun q hq hl => by
              by_cases e : q = r
              · subst e
                unfold stB
                rw [HY.out, HSs.out, HVv.out, HU.out]
                exact decide_eq_false hok
              · exact HNo.out q (by omega) hl)
            clear hok
            go_wp2_with fail
            go_roundg ((nx m c).length - (r + 1))
            case measure => omega
            case rel => exact ⟨r + 1, by omega, rfl, by go_num, rfl, HNo2.out, HS.out, HV.out⟩
        · exfalso
          obtain ⟨z, hz, _⟩ := HTg.out.next hDc HEn.out
          rw [find_none fun q hq => HNo.out q (by omega) hq] at hz
          cases hz

/-- The program alone. -/
theorem bothI (m : Mp) (T : Nat → Nat → Int) (hT : TT m T) (p q : Int) : ∃ (zs : List Int) (ok : Bool), zs.length ≤ 1000 ∧ ok = ltB m T p q ∧ (ok = false → zs = []) ∧
    (ok = true → ∃ ww hh i j k, p = (i : Nat) ∧ q = (j : Nat) ∧ Opn m (ww * hh) i ∧ Tgt m ww hh j (T j) ∧ 0 ≤ T j i ∧ Best m (T j) i j k ∧ zs = ints (rt m (T j) i k)) ∧
    (∀ a b ca cb w, m.R.length ≤ maxLen → m.C.length ≤ maxLen → IRow w a m.R → IRow w b m.C → Calls Try.prog 90 #[.agg #[.int .i64 m.W, .int .i64 m.H, .slice a m.R.length ca, .slice b m.C.length cb], .int .i64 p, .int .i64 q] w (NPost w zs ok)) := by
  cases ha : askB m p q with
  | false => exact ⟨[], false, by simp, (lt_no ha).1.symm, fun _ => rfl, (fun e => by cases e), fun a b ca cb w hR hC hr hc => impl_no m p q ha a b ca cb w hR hC hr hc⟩
  | true =>
    obtain ⟨hok, h1, h2⟩ := askB_of ha
    obtain ⟨ww, hh, g⟩ := good_of hok
    obtain ⟨i, rfl, hi⟩ := opB_of g h1
    obtain ⟨j, rfl, hj⟩ := opB_of g h2
    have tg : Tgt m ww hh j (T j) := ⟨g, hj, hT ww hh g j hj⟩
    by_cases hneg : T j i < 0
    · refine ⟨[], false, by simp, (lt_far hneg).1.symm, fun _ => rfl, (fun e => by cases e), fun a b ca cb w _ _ hr hc => (impl_ask m ww hh j (T j) tg i hi a b ca cb w hr hc).mono ?_⟩
      · rintro e w' (h | ⟨h, _⟩)
        · exact h.2
        · omega
    · obtain ⟨k, hk⟩ := best_ex tg (i := i) (by omega)
      have hkl : k ≤ 972 := by
        have h3 := hk.1.sum
        have h4 := hk.1.pos
        have h5 := tt_bd g hT hj i
        omega
      refine ⟨ints (rt m (T j) i k), true, by rw [ints_length, rt_len]; omega, (lt_yes ha (by omega)).1.symm, (fun e => by cases e), fun _ => ⟨ww, hh, i, j, k, rfl, rfl, hi, tg, by omega, hk, rfl⟩, fun a b ca cb w _ _ hr hc => (impl_ask m ww hh j (T j) tg i hi a b ca cb w hr hc).mono ?_⟩
      · rintro e w' (h | ⟨_, l, hl, h⟩)
        · omega
        · rw [hl.unique hk] at h; exact h
end Go.Proofs.Ytdfmfmndmldggaa.BstS
