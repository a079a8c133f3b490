/- Whether a list of Controls is valid: the program's text. -/
import Derived.Test.YtdfmfmndmldggaaCoM
import Derived.Test.YtdfmfmndmldggaaRtI
namespace Go.Proofs.Ytdfmfmndmldggaa.CoA
open Go.RowKit Lb IntS CtK CoM DjkB
open RtI (Sn)
open OpnI (opB opB_iff opB_of)
set_option linter.unusedSimpArgs false
set_option linter.unusedVariables false

set_option maxHeartbeats 1000000 in
theorem iscode_any (x : Int) (w : World) : Calls Try.prog 121 #[.int .i64 x] w fun e w' => e = .returned (.bool (decide (31 ≤ x ∧ x ≤ 99))) ∧ w' = w := by
  by_cases h1 : 31 ≤ x
  · obtain ⟨d, hd⟩ : ∃ d, decide (x ≤ 99) = d := ⟨_, rfl⟩
    have HE := Lib.hid (show decide (31 ≤ x ∧ x ≤ 99) = d from by rw [← hd]; simp [h1])
    have h1' : decide (31 ≤ x) = true := decide_eq_true h1
    rw [HE.out]
    clear h1 HE
    go_enter Try.func121, Try.ntmps121
    go_wp2
    go_ret
    exact ⟨rfl, rfl⟩
  · have HE := Lib.hid (show decide (31 ≤ x ∧ x ≤ 99) = false from decide_eq_false (fun h => h1 h.1))
    have h1' : decide (31 ≤ x) = false := decide_eq_false h1
    rw [HE.out]
    clear h1 HE
    go_enter Try.func121, Try.ntmps121
    go_wp2
    go_ret
    exact ⟨rfl, rfl⟩

set_option maxRecDepth 20000 in
set_option maxHeartbeats 4000000 in
theorem impl_any (m : Mp) (cs : List Ct) (hl : cs.length ≤ maxLen) (hR : m.R.length ≤ maxLen) (hC : m.C.length ≤ maxLen) (a b : Option Addr) (ca cb : Nat) (ad : Option Addr) (cap : Nat) (w : World) (hr : IRow w a m.R) (hc : IRow w b m.C) (hl' : Row w ad cs) :
    Calls Try.prog 97 #[.agg #[.int .i64 m.W, .int .i64 m.H, .slice a m.R.length ca, .slice b m.C.length cb], .slice ad cs.length cap] w fun e w' => e = .returned (.bool (goodB m cs)) ∧ Below w.heap.size w w' := by
  unfold maxLen at hl
  have H := Lib.hid hl'
  have HR := Lib.hid hr
  have HC := Lib.hid hc
  have HB0 := Lib.hid ((Below.refl w.heap.size w).alloc (Nat.le_refl _) (.cells #[.int .i64 m.W, .int .i64 m.H, .slice a m.R.length ca, .slice b m.C.length cb] 26))
  have HK0 := Lib.hid (MapS.Blk.new w 26 #[.int .i64 m.W, .int .i64 m.H, .slice a m.R.length ca, .slice b m.C.length cb])
  obtain ⟨n, hn⟩ : ∃ n, cs.length = n := ⟨_, rfl⟩
  have HN := Lib.hid hn
  rw [hn] at hl ⊢
  obtain ⟨gb, hgb⟩ : ∃ g, goodB m cs = g := ⟨_, rfl⟩
  have HG := Lib.hid hgb
  rw [hgb]
  obtain ⟨om, hom⟩ : ∃ o, okB m = o := ⟨_, rfl⟩
  have HOm := Lib.hid hom
  have c1 := Lib.hid (fun w hr hc => hom ▸ MapV.impl_any m a b ca cb w hR hC hr hc)
  clear hr hc hl' hn hgb hom
  go_enter Try.func97, Try.ntmps97
  go_wp2_with fail
  refine (c1.out _ (RowAt.below HR.out HB0.out) (RowAt.below HC.out HB0.out)).mono ?_
  rintro e w1 ⟨rfl, hb⟩
  have HB1 := Lib.hid (HB0.out.trans (hb.mono (by simp)))
  have HK1 := Lib.hid (HK0.out.later hb)
  clear hb HB0 HK0
  cases om with
  | false =>
    have h1 : gb = false := by rw [← HG.out]; exact good_map HOm.out
    subst h1
    go_wp2
    go_ret
    exact ⟨rfl, HB1.out⟩
  | true =>
  by_cases hlong : n ≤ 10
  case neg =>
    have h1 : gb = false := by rw [← HG.out]; exact good_long (by rw [HN.out]; exact hlong)
    subst h1
    go_wp2
    go_ret
    exact ⟨rfl, HB1.out⟩
  obtain ⟨ww, hh, g⟩ := good_of (okB_iff.1 HOm.out)
  have HGm := Lib.hid g
  have n36 := g.n36
  clear g
  have HS1 := Lib.hid (show Sn w #[.int .i64 m.W, .int .i64 m.H, .slice a m.R.length ca, .slice b m.C.length cb] w1.heap.size (tkB cs 0) (w1.alloc (.cells (bitCs fun _ => false) 122)) from by
    rw [tk_zero]
    exact ⟨HB1.out.alloc (Nat.le_of_lt HK1.out.lt) _, HK1.out.alloc _, MapS.Blk.new w1 122 (bitCs fun _ => false), HK1.out.lt⟩)
  obtain ⟨G, hG⟩ : ∃ G, w1.heap.size = G := ⟨_, rfl⟩
  rw [hG] at HS1
  clear HB1 HK1
  go_wp2
  try rw [hG]
  go_loopw [18] (fun i wr => ∃ k : Nat, k ≤ n ∧ i = .int .i64 k ∧ (∀ j, j < k → FitP m cs j) ∧ Sn w #[.int .i64 m.W, .int .i64 m.H, .slice a m.R.length ca, .slice b m.C.length cb] G (tkB cs k) wr) (fun i _ => n - (intOf i).toNat)
  case atStart => exact ⟨0, Nat.zero_le _, rfl, (fun j hj => absurd hj (Nat.not_lt_zero _)), HS1.out⟩
  case round =>
    clear HS1
    obtain ⟨k, hk, rfl, hall, hS⟩ := hrel
    have HA := Lib.hid hall
    have HS := Lib.hid hS
    clear hall hS
    by_cases hlt : k < n
    · obtain ⟨b1, off, rfl, c0, d0⟩ := (H.out.later HS.out.b).cells (i := k) (by rw [HN.out]; exact hlt)
      obtain ⟨y, hy⟩ : ∃ y, at_ cs k = y := ⟨_, rfl⟩
      rw [hy] at c0 d0
      have HY := Lib.hid hy
      have HR2 := Lib.hid (H.out.later HS.out.b)
      have HK2 := Lib.hid (Bk.Blk.new wr 70 #[.int .i64 y.co, .int .i64 y.ce])
      have HS2 := Lib.hid (HS.out.later ((Below.refl _ _).alloc (Nat.le_refl _) (.cells #[.int .i64 y.co, .int .i64 y.ce] 70)))
      obtain ⟨B, hBq⟩ : ∃ B, wr.heap.size = B := ⟨_, rfl⟩
      obtain ⟨z, hz⟩ : ∃ z, (at_ cs (k - 1)).co = z := ⟨_, rfl⟩
      have HZ := Lib.hid hz
      have Hprev := Lib.hid (show 0 < k → (wr.alloc (.cells #[.int .i64 y.co, .int .i64 y.ce] 70)).cell? ⟨b1, off + (k - 1) * 2, none⟩ = some (.int .i64 z) from fun h0 => by
        obtain ⟨b', off', e, d0, -⟩ := (HR2.out.later ((Below.refl wr.heap.size wr).alloc (Nat.le_refl _) (.cells #[.int .i64 y.co, .int .i64 y.ce] 70))).cells (i := k - 1) (by rw [HN.out]; omega)
        cases e
        rw [← hz]; exact d0)
      clear hy hz
      go_upto_region 7 with (fail)
      obtain ⟨⟨e0, e1⟩, -⟩ := blk_cells HK2.out
      obtain ⟨m0, m1, m2, m3, -⟩ := HS2.out.box.four
      generalize wr.alloc (.cells #[.int .i64 y.co, .int .i64 y.ce] 70) = wz at *
      rw [hBq] at HK2 e0 e1
      try rw [hBq]
      clear hBq c0 d0
      obtain ⟨ok, hok⟩ : ∃ o, decide (31 ≤ y.co ∧ y.co ≤ 99) = o := ⟨_, rfl⟩
      have C1 := Lib.hid (fun w => hok ▸ iscode_any y.co w)
      have HOk := Lib.hid hok
      clear hok
      cases ok with
      | false =>
        have h1 : gb = false := by rw [← HG.out]; exact good_no (by rw [HN.out]; exact hlt) (fun f => by have h := f.1.1; rw [HY.out] at h; exact absurd h (of_decide_eq_false HOk.out))
        subst h1
        go_wp2_with fail
        refine (C1.out _).mono ?_
        rintro e w2 ⟨rfl, rfl⟩
        go_wp2
        go_ret
        exact ⟨rfl, HS2.out.b⟩
      | true =>
      obtain ⟨oo, hoo⟩ : ∃ o, opB m y.ce = o := ⟨_, rfl⟩
      have C2 := Lib.hid (fun w hc => hoo ▸ OpnI.impl_open m ww hh HGm.out y.ce a b ca cb w hc)
      have HOo := Lib.hid hoo
      clear hoo
      cases oo with
      | false =>
        have h1 : gb = false := by rw [← HG.out]; exact good_no (by rw [HN.out]; exact hlt) (fun f => by have h := f.1.2.1; rw [HY.out, HOo.out] at h; cases h)
        subst h1
        go_wp2_with fail
        refine (C1.out _).mono ?_
        rintro e w2 ⟨rfl, rfl⟩
        go_wp2_with fail
        refine (C2.out _ (RowAt.below HC.out HS2.out.b)).mono ?_
        rintro e w3 ⟨rfl, hb⟩
        have HB3 := Lib.hid (HS2.out.b.trans (hb.mono HS2.out.b.size))
        clear hb
        go_wp2
        go_ret
        exact ⟨rfl, HB3.out⟩
      | true =>
      obtain ⟨q, hq, hqo⟩ := opB_of HGm.out HOo.out
      have hq36 : q < 36 := Nat.lt_of_lt_of_le hqo.1 n36
      obtain ⟨yc, hyc⟩ : ∃ z, y.co = z := ⟨_, rfl⟩
      have HYc := Lib.hid hyc
      have HQ := Lib.hid hq
      rw [hyc] at C1 e0
      rw [hq] at C2 e1
      clear hqo hyc hq
      have hq0 : (0 : Int) ≤ (q : Int) := by omega
      have hq1 : (q : Int) < 36 := by omega
      obtain ⟨tk, htk⟩ : ∃ t, tkB cs k q = t := ⟨_, rfl⟩
      have HT := Lib.hid htk
      go_wp2_with fail
      refine (C1.out _).mono ?_
      rintro e w2 ⟨rfl, rfl⟩
      go_wp2_with fail
      refine (C2.out _ (RowAt.below HC.out HS2.out.b)).mono ?_
      rintro e w3 ⟨rfl, hb⟩
      have HS3 := Lib.hid (HS2.out.later hb)
      replace e0 := (hb.cell (World.block_lt_of_cell? _ _ e0)).trans e0
      replace e1 := (hb.cell (World.block_lt_of_cell? _ _ e1)).trans e1
      have Hp3 := Lib.hid (fun h0 : 0 < k => (hb.cell (World.block_lt_of_cell? _ _ (Hprev.out h0))).trans (Hprev.out h0))
      clear hb m0 m1 m2 m3 HS2 HK2 Hprev
      obtain ⟨s1, s2⟩ := bit_cell HS3.out.bits hq36
      rw [htk] at s1
      clear htk
      cases tk with
      | true =>
        have h1 : gb = false := by rw [← HG.out]; exact good_no (by rw [HN.out]; exact hlt) (fun f => by
          have h := f.2
          rw [HY.out, HQ.out] at h
          rw [tk_of.2 h] at HT
          exact Bool.noConfusion HT.out)
        subst h1
        go_wp2
        go_ret
        exact ⟨rfl, HS3.out.b⟩
      | false =>
      by_cases hk0 : 0 < k
      · have hp := Hp3.out hk0
        have hkd : decide (0 < (k : Int)) = true := decide_eq_true (by omega)
        have hwk : IntKind.i64.wrap ((k : Int) - 1) = ((k - 1 : Nat) : Int) := by rw [IntWalk.i64_in _ (by omega)]; omega
        have hkn0 : (0 : Int) ≤ ((k - 1 : Nat) : Int) := by omega
        have hkn1 : ((k - 1 : Nat) : Int) < (n : Int) := by omega
        by_cases hlt2 : z < yc
        · have hge : decide (yc ≤ z) = false := decide_eq_false (by omega)
          have HF := Lib.hid (show FitP m cs k from by
            unfold FitP
            rw [HY.out, HZ.out]
            refine ⟨⟨of_decide_eq_true HOk.out, HOo.out, fun _ => by rw [HYc.out]; exact hlt2⟩, ?_⟩
            rw [HQ.out]
            exact tk_of.1 HT.out)
          have HS4 := Lib.hid (show Sn w #[.int .i64 m.W, .int .i64 m.H, .slice a m.R.length ca, .slice b m.C.length cb] G (tkB cs (k + 1)) (w3.drew.setCell ⟨G, q, none⟩ (.bool true)) from by
            have h := (HS3.out.later (Below.refl _ _).drew).bit q
            have e : setT (tkB cs k) q = tkB cs (k + 1) := by funext c; rw [tk_succ cs k q (by rw [HY.out]; exact HQ.out)]; rfl
            rw [e] at h
            exact h)
          clear hlt2
          go_upto_region 9 with (fail)
          go_region
          go_wp2
          go_roundw
          case rel => exact ⟨k + 1, by omega, by go_num, all_succ (p := fun j => FitP m cs j) HA.out HF.out, HS4.out⟩
          case measure => simp [intOf]; omega
        · have hge : decide (yc ≤ z) = true := decide_eq_true (by omega)
          have h1 : gb = false := by rw [← HG.out]; exact good_no (by rw [HN.out]; exact hlt) (fun f => by have h := f.1.2.2 hk0; rw [HY.out, HZ.out, HYc.out] at h; exact hlt2 h)
          subst h1
          clear hlt2
          go_upto_region 9 with (fail)
          go_region
          go_wp2
          go_ret
          exact ⟨rfl, HS3.out.b.drew⟩
      · have hkd : decide (0 < (k : Int)) = false := decide_eq_false (by omega)
        have HF := Lib.hid (show FitP m cs k from by
          unfold FitP
          rw [HY.out, HZ.out]
          refine ⟨⟨of_decide_eq_true HOk.out, HOo.out, fun h => absurd h hk0⟩, ?_⟩
          rw [HQ.out]
          exact tk_of.1 HT.out)
        have HS4 := Lib.hid (show Sn w #[.int .i64 m.W, .int .i64 m.H, .slice a m.R.length ca, .slice b m.C.length cb] G (tkB cs (k + 1)) (w3.drew.setCell ⟨G, q, none⟩ (.bool true)) from by
          have h := (HS3.out.later (Below.refl _ _).drew).bit q
          have e : setT (tkB cs k) q = tkB cs (k + 1) := by funext c; rw [tk_succ cs k q (by rw [HY.out]; exact HQ.out)]; rfl
          rw [e] at h
          exact h)
        go_upto_region 9 with (fail)
        go_region
        go_wp2
        go_roundw
        case rel => exact ⟨k + 1, by omega, by go_num, all_succ (p := fun j => FitP m cs j) HA.out HF.out, HS4.out⟩
        case measure => simp [intOf]; omega
    · obtain rfl : k = n := by omega
      have h1 : gb = true := by rw [← HG.out]; exact good_all HOm.out (by rw [HN.out]; exact hlong) (by rw [HN.out]; exact HA.out)
      subst h1
      go_wp2
      go_ret
      exact ⟨rfl, HS.out.b⟩

end Go.Proofs.Ytdfmfmndmldggaa.CoA
