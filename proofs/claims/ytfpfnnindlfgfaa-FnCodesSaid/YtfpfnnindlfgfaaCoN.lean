/- NearestControl: both texts. -/
import Derived.Test.YtfpfnnindlfgfaaCoC
import Derived.Test.YtfpfnnindlfgfaaCoD
namespace Go.Proofs.Ytfpfnnindlfgfaa.CoN
open Go.RowKit Lb IntS CtK CoM CoD CoC
open OpnI (opB opB_iff opB_of)
open Bk (Blk)
set_option linter.unusedSimpArgs false
set_option linter.unusedVariables false

theorem good_cell {m : Mp} {cs : List Ct} {ww hh : Nat} (h : goodB m cs = true) (g : GoodM m ww hh) {i : Nat} (hi : i < cs.length) : ∃ p : Nat, (at_ cs i).ce = (p : Int) ∧ p < ww * hh := by
  obtain ⟨q, hq, h3⟩ := opB_of g (good_open h hi)
  exact ⟨q, hq, h3.1⟩
def ceN (cs : List Ct) (k : Nat) : Nat := (at_ cs k).ce.toNat
/-- The nearest of the first 'k'. -/
def nrI (ww c : Nat) (cs : List Ct) : Nat → Nat
  | 0 => 0
  | k + 1 => if apN ww c (ceN cs k) < apN ww c (ceN cs (nrI ww c cs k)) then k else nrI ww c cs k
theorem nr_lt (ww c : Nat) (cs : List Ct) (hn : 0 < cs.length) : ∀ k, k ≤ cs.length → nrI ww c cs k < cs.length
  | 0, _ => hn
  | k + 1, h => by
    rw [nrI]
    split
    · omega
    · exact nr_lt ww c cs hn k (by omega)
theorem nr_yes {ww c : Nat} {cs : List Ct} {k : Nat} (h : apN ww c (ceN cs k) < apN ww c (ceN cs (nrI ww c cs k))) : nrI ww c cs (k + 1) = k := if_pos h
theorem nr_no {ww c : Nat} {cs : List Ct} {k : Nat} (h : ¬ apN ww c (ceN cs k) < apN ww c (ceN cs (nrI ww c cs k))) : nrI ww c cs (k + 1) = nrI ww c cs k := if_neg h
theorem nr_one (ww c : Nat) (cs : List Ct) : nrI ww c cs 1 = 0 := by
  show nrI ww c cs (0 + 1) = 0
  rw [nrI]
  exact if_neg (Nat.lt_irrefl _)
/-- What NearestControl answers. -/
def nrB (m : Mp) (cs : List Ct) (c : Int) : Bool := goodB m cs && (decide (0 ≤ c ∧ c < (m.C.length : Int)) && decide (0 < cs.length))
def nrZ (m : Mp) (cs : List Ct) (c : Int) : Int := if nrB m cs c then (at_ cs (nrI m.W.toNat c.toNat cs cs.length)).co else 0

set_option maxRecDepth 20000 in
set_option maxHeartbeats 4000000 in
theorem near_impl (m : Mp) (cs : List Ct) (hl : cs.length ≤ 1048576) (hR : m.R.length ≤ maxLen) (hC : m.C.length ≤ maxLen) (x : Int) (a b : Option Addr) (ca cb : Nat) (ad : Option Addr) (cap : Nat) (w : World) (h : Rd m cs a b ad w) :
    Calls Try.prog 57 #[.agg #[.int .i64 m.W, .int .i64 m.H, .slice a m.R.length ca, .slice b m.C.length cb], .slice ad cs.length cap, .int .i64 x] w (ZPost w (nrZ m cs x) (nrB m cs x)) := by
  have HB := Lib.hid ((Below.refl w.heap.size w).alloc (Nat.le_refl _) (.cells #[.int .i64 m.W, .int .i64 m.H, .slice a m.R.length ca, .slice b m.C.length cb] 26))
  have HK := Lib.hid (Blk.new w 26 #[.int .i64 m.W, .int .i64 m.H, .slice a m.R.length ca, .slice b m.C.length cb])
  have HR := Lib.hid h
  obtain ⟨g, hg⟩ : ∃ g, goodB m cs = g := ⟨_, rfl⟩
  have c1 := Lib.hid (fun w h => hg ▸ impl_good m cs hl hR hC a b ca cb ad cap w h)
  have HG := Lib.hid hg
  obtain ⟨ok, hok⟩ : ∃ o, nrB m cs x = o := ⟨_, rfl⟩
  obtain ⟨z, hz⟩ : ∃ z, nrZ m cs x = z := ⟨_, rfl⟩
  have HO := Lib.hid hok
  have HZ := Lib.hid hz
  rw [hok, hz]
  obtain ⟨n, hn⟩ : ∃ n, cs.length = n := ⟨_, rfl⟩
  have HN := Lib.hid hn
  rw [hn] at hl c1 ⊢
  have hbad : ok = false → z = 0 := fun e => by rw [← hz]; unfold nrZ; rw [hok, e]; rfl
  have HBAD := Lib.hid hbad
  clear h hg hok hz hn hbad
  go_enter Try.func57, Try.ntmps57
  go_wp2_with fail
  refine (c1.out _ (HR.out.later HB.out)).mono ?_
  rintro e w1 ⟨rfl, hb⟩
  have HB1 := Lib.hid (HB.out.trans (hb.mono HB.out.size))
  have HK1 := Lib.hid (HK.out.later hb)
  clear hb HB HK
  cases g with
  | false =>
    have h1 : ok = false := by rw [← HO.out]; unfold nrB; rw [HG.out]; rfl
    obtain rfl := HBAD.out h1
    subst h1
    go_wp2
    go_ret2
    exact ⟨rfl, HB1.out⟩
  | true =>
  obtain ⟨p0, p1, p2, p3, -⟩ := MapS.Blk.four HK1.out
  by_cases hin : 0 ≤ x ∧ x < (m.C.length : Int)
  case neg =>
    have h1 : ok = false := by rw [← HO.out]; unfold nrB; rw [decide_eq_false hin]; simp
    obtain rfl := HBAD.out h1
    subst h1
    have HI := Lib.hid (show x < 0 ∨ (m.C.length : Int) ≤ x from by omega)
    clear hin
    go_wp2_with fail
    refine (Cells.cell_no m a b ca cb x _ HI.out hC).mono ?_
    rintro e w2 ⟨rfl, hb⟩
    have HB2 := Lib.hid (HB1.out.trans (hb.mono HB1.out.size))
    clear hb
    go_wp2
    go_ret2
    exact ⟨rfl, HB2.out⟩
  obtain ⟨c, rfl⟩ : ∃ c : Nat, x = (c : Int) := ⟨x.toNat, by omega⟩
  have hcl : c < m.C.length := by omega
  obtain ⟨ww, hh, gm⟩ := good_of (good_ok HG.out)
  have HGm := Lib.hid gm
  have hcn : c < ww * hh := by rw [← gm.C]; exact hcl
  have hW : m.W.toNat = ww := by rw [congrArg Mp.W (Cells.mp_eq gm)]; rfl
  by_cases hn0 : 0 < n
  case neg =>
    have h1 : ok = false := by rw [← HO.out]; unfold nrB; rw [HN.out, decide_eq_false hn0]; simp
    obtain rfl := HBAD.out h1
    obtain rfl : n = 0 := by omega
    subst h1
    clear hin hn0 gm hW
    go_wp2_with fail
    refine (Cells.cell_yes m a b ca cb c _ hcl hC).mono ?_
    rintro e w2 ⟨rfl, hb⟩
    have HB2 := Lib.hid (HB1.out.trans (hb.mono HB1.out.size))
    clear hb
    go_wp2
    go_ret2
    exact ⟨rfl, HB2.out⟩
  have h1 : ok = true := by rw [← HO.out]; unfold nrB; rw [HG.out, HN.out, decide_eq_true hin, decide_eq_true hn0]; rfl
  have HZ2 := Lib.hid (show (at_ cs (nrI ww c cs n)).co = z from by rw [← HZ.out]; unfold nrZ; rw [HO.out, h1, HN.out, hW]; rfl)
  have hnz : (n == 0) = false := by simpa using (by omega : n ≠ 0)
  have hnz2 : ((n : Int) == 0) = false := by simpa using (by omega : n ≠ 0)
  have hnz3 : ¬ n = 0 := by omega
  subst h1
  clear hin gm hW
  go_wp2_with fail
  refine (Cells.cell_yes m a b ca cb c _ hcl hC).mono ?_
  rintro e w2 ⟨rfl, hb⟩
  have HB2 := Lib.hid (HB1.out.trans (hb.mono HB1.out.size))
  have HK2 := Lib.hid (HK1.out.later hb)
  clear hb HB1 HK1 p0 p1 p2 p3
  obtain ⟨b1, off, hadr, c0, d0⟩ := (HR.out.later HB2.out).l.cells (i := 0) (by rw [HN.out]; exact hn0)
  subst hadr
  rw [Nat.zero_mul, Nat.add_zero] at c0 d0
  obtain ⟨y, hy⟩ : ∃ y, at_ cs 0 = y := ⟨_, rfl⟩
  rw [hy] at c0 d0
  have HB3 := Lib.hid (HB2.out.alloc HB2.out.size (.cells #[.int .i64 y.co, .int .i64 y.ce] 58))
  have HK3 := Lib.hid (HK2.out.alloc (.cells #[.int .i64 y.co, .int .i64 y.ce] 58))
  obtain ⟨G, hG⟩ : ∃ G, w2.heap.size = G := ⟨_, rfl⟩
  have HN3 := Lib.hid (show Blk (w2.alloc (.cells #[.int .i64 y.co, .int .i64 y.ce] 58)) G 58 #[.int .i64 (at_ cs (nrI ww c cs 0)).co, .int .i64 (at_ cs (nrI ww c cs 0)).ce] from by
    have h := Blk.new w2 58 #[.int .i64 y.co, .int .i64 y.ce]
    rw [← hy, hG] at h
    rw [← hy]
    exact h)
  have HGw := Lib.hid (show w.heap.size < G from hG ▸ HK2.out.lt)
  clear HB2 HK2 hy
  go_wp2
  try rw [hG]
  clear hG c0 d0
  go_loopw [31] (fun i wr => ∃ k : Nat, k ≤ n ∧ i = .int .i64 k ∧ Below w.heap.size w wr ∧ Blk wr w.heap.size 26 #[.int .i64 m.W, .int .i64 m.H, .slice a m.R.length ca, .slice b m.C.length cb] ∧ Blk wr G 58 #[.int .i64 (at_ cs (nrI ww c cs k)).co, .int .i64 (at_ cs (nrI ww c cs k)).ce]) (fun i _ => n - (intOf i).toNat)
  case atStart => exact ⟨0, Nat.zero_le _, rfl, HB3.out, HK3.out, HN3.out⟩
  case round =>
    clear HB3 HK3 HN3
    obtain ⟨k, hk, rfl, hB, hK, hNb⟩ := hrel
    have HB := Lib.hid hB
    have HKm := Lib.hid hK
    have HNb := Lib.hid hNb
    clear hB hK hNb
    by_cases hlt : k < n
    · obtain ⟨b1, off, e, c0, d0⟩ := (HR.out.later HB.out).l.cells (i := k) (by rw [HN.out]; exact hlt)
      cases e
      obtain ⟨y, hy⟩ : ∃ y, at_ cs k = y := ⟨_, rfl⟩
      rw [hy] at c0 d0
      obtain ⟨v, hv⟩ : ∃ v, at_ cs (nrI ww c cs k) = v := ⟨_, rfl⟩
      rw [hv] at HNb
      have HY := Lib.hid hy
      have HV := Lib.hid hv
      obtain ⟨p, hp1, hp2⟩ := good_cell HG.out HGm.out (show k < cs.length by rw [HN.out]; exact hlt)
      obtain ⟨q, hq1, hq2⟩ := good_cell HG.out HGm.out (nr_lt ww c cs (by rw [HN.out]; exact hn0) k (by rw [HN.out]; exact hk))
      have HE1 := Lib.hid (show ceN cs k = p from by unfold ceN; rw [hp1]; rfl)
      have HE2 := Lib.hid (show ceN cs (nrI ww c cs k) = q from by unfold ceN; rw [hq1]; rfl)
      rw [hy] at hp1
      rw [hv] at hq1
      have HP := Lib.hid hp1
      have HQ := Lib.hid hq1
      obtain ⟨r, hr⟩ : ∃ r, apN ww c p = r := ⟨_, rfl⟩
      obtain ⟨s, hs⟩ : ∃ s, apN ww c q = s := ⟨_, rfl⟩
      have C1 := Lib.hid (fun w => hr ▸ dist_any m ww hh HGm.out c p hcn hp2 a b ca cb w)
      have C2 := Lib.hid (fun w => hs ▸ dist_any m ww hh HGm.out c q hcn hq2 a b ca cb w)
      have HRs := Lib.hid (show (apN ww c (ceN cs k) < apN ww c (ceN cs (nrI ww c cs k))) ↔ r < s from by rw [HE1.out, HE2.out, hr, hs])
      have HB2 := Lib.hid (HB.out.alloc HB.out.size (.cells #[.int .i64 y.co, .int .i64 y.ce] 58))
      have HK2 := Lib.hid (HKm.out.alloc (.cells #[.int .i64 y.co, .int .i64 y.ce] 58))
      have HN2 := Lib.hid (HNb.out.alloc (.cells #[.int .i64 y.co, .int .i64 y.ce] 58))
      have HC2 := Lib.hid (Blk.new wr 58 #[.int .i64 y.co, .int .i64 y.ce])
      obtain ⟨Y, hY⟩ : ∃ Y, wr.heap.size = Y := ⟨_, rfl⟩
      clear hy hv hp1 hq1 hr hs
      go_upto_region 7 with (fail)
      have hGY : G < Y := by rw [← hY]; exact HNb.out.lt
      generalize wr.alloc (.cells #[.int .i64 y.co, .int .i64 y.ce] 58) = wz at *
      rw [hY] at HC2
      try rw [hY]
      clear hY c0 d0
      obtain ⟨p0, p1, p2, p3, -⟩ := MapS.Blk.four HK2.out
      obtain ⟨⟨-, e1⟩, -⟩ := blk_cells HC2.out
      obtain ⟨⟨-, f1⟩, -⟩ := blk_cells HN2.out
      rw [HP.out] at e1
      rw [HQ.out] at f1
      refine wp_region_noPanic ?_
      refine wp_region_held_drew (S := (fun Wx : World => Wx.cell? ⟨Y, 1, none⟩ = some (.int .i64 (p : Int)) ∧ Wx.cell? ⟨G, 1, none⟩ = some (.int .i64 (q : Int)) ∧ Wx.cell? ⟨w.heap.size, 0, none⟩ = some (.int .i64 m.W) ∧ Wx.cell? ⟨w.heap.size, 1, none⟩ = some (.int .i64 m.H) ∧ Wx.cell? ⟨w.heap.size, 2, none⟩ = some (.slice a m.R.length ca) ∧ Wx.cell? ⟨w.heap.size, 3, none⟩ = some (.slice b m.C.length cb))) (by kernel_rfl) ⟨e1, f1, p0, p1, p2, p3⟩ (fun hHeld => ?_)
      refine wpAnyH_take (i := 0) (oi := _) (v := ?_) rfl (by kernel_rfl) (by kernel_rfl) (by kernel_rfl) (fun _ _ _ h => h) (Or.inl ⟨by rfl, ?_⟩) (by assumption) ?_; rotate_left; focus (intro W hSw; (try dsimp only at hSw); go_simp; (first | done | with_reducible rfl))
      (try simp only [List.getElem_toArray, List.getElem_cons_succ, List.getElem_cons_zero, Act.put, List.setIfInBounds_toArray, List.set_cons_zero, List.set_cons_succ])
      refine wpAnyH_take (i := 1) (oi := _) (v := ?_) rfl (by kernel_rfl) (by kernel_rfl) (by kernel_rfl) (fun _ _ _ h => h) (Or.inl ⟨by rfl, ?_⟩) (by assumption) ?_; rotate_left; focus (intro W hSw; (try dsimp only at hSw); go_simp; (first | done | with_reducible rfl))
      (try simp only [List.getElem_toArray, List.getElem_cons_succ, List.getElem_cons_zero, Act.put, List.setIfInBounds_toArray, List.set_cons_zero, List.set_cons_succ])
      refine wpAnyH_take (i := 2) (oi := _) (v := ?_) rfl (by kernel_rfl) (by kernel_rfl) (by kernel_rfl) (fun _ _ _ h => h) (Or.inl ⟨by rfl, ?_⟩) (by assumption) ?_; rotate_left; focus (intro W hSw; (try dsimp only at hSw); go_simp; (first | done | with_reducible rfl))
      (try simp only [List.getElem_toArray, List.getElem_cons_succ, List.getElem_cons_zero, Act.put, List.setIfInBounds_toArray, List.set_cons_zero, List.set_cons_succ])
      refine wpAnyH_take (i := 3) (oi := _) (v := ?_) rfl (by kernel_rfl) (by kernel_rfl) (by kernel_rfl) (fun _ _ _ h => h) (Or.inl ⟨by rfl, ?_⟩) (by assumption) ?_; rotate_left; focus (intro W hSw; (try dsimp only at hSw); go_simp; (first | done | with_reducible rfl))
      (try simp only [List.getElem_toArray, List.getElem_cons_succ, List.getElem_cons_zero, Act.put, List.setIfInBounds_toArray, List.set_cons_zero, List.set_cons_succ])
      refine wpAnyH_take (i := 5) (oi := _) (v := ?_) rfl (by kernel_rfl) (by kernel_rfl) (by kernel_rfl) (fun _ _ _ h => h) (Or.inl ⟨by rfl, ?_⟩) (by assumption) ?_; rotate_left; focus (intro W hSw; (try dsimp only at hSw); go_simp; (first | done | with_reducible rfl))
      (try simp only [List.getElem_toArray, List.getElem_cons_succ, List.getElem_cons_zero, Act.put, List.setIfInBounds_toArray, List.set_cons_zero, List.set_cons_succ])
      refine wpAnyH_take (i := 6) (oi := _) (v := ?_) rfl (by kernel_rfl) (by kernel_rfl) (by kernel_rfl) (fun _ _ _ h => h) (Or.inl ⟨by rfl, ?_⟩) (by assumption) ?_; rotate_left; focus (intro W hSw; (try dsimp only at hSw); go_simp; (first | done | with_reducible rfl))
      (try simp only [List.getElem_toArray, List.getElem_cons_succ, List.getElem_cons_zero, Act.put, List.setIfInBounds_toArray, List.set_cons_zero, List.set_cons_succ])
      refine wpAnyH_take (i := 7) (oi := _) (v := ?_) rfl (by kernel_rfl) (by kernel_rfl) (by kernel_rfl) (fun _ _ _ h => h) (Or.inl ⟨by rfl, ?_⟩) (by assumption) ?_; rotate_left; focus (intro W hSw; (try dsimp only at hSw); go_simp; (first | done | with_reducible rfl))
      (try simp only [List.getElem_toArray, List.getElem_cons_succ, List.getElem_cons_zero, Act.put, List.setIfInBounds_toArray, List.set_cons_zero, List.set_cons_succ])
      refine wpAnyH_take (i := 8) (oi := _) (v := ?_) rfl (by kernel_rfl) (by kernel_rfl) (by kernel_rfl) (fun _ _ _ h => h) (Or.inl ⟨by rfl, ?_⟩) (by assumption) ?_; rotate_left; focus (intro W hSw; (try dsimp only at hSw); go_simp; (first | done | with_reducible rfl))
      (try simp only [List.getElem_toArray, List.getElem_cons_succ, List.getElem_cons_zero, Act.put, List.setIfInBounds_toArray, List.set_cons_zero, List.set_cons_succ])
      refine wpAnyH_ready (rs := [4]) (by kernel_rfl) (by simp) ?_
      refine AllReadyH.cons (o := _) rfl (fun K hK => ?_) AllReadyH.nil
      go_simp
      go_at_call 113
      refine (C1.out _).mono ?_
      rintro e w4 ⟨rfl, hb⟩
      have HB4 := Lib.hid (HB2.out.drew.trans (hb.mono HB2.out.size))
      have HK4 := Lib.hid ((show Blk wz.drew w.heap.size 26 #[.int .i64 m.W, .int .i64 m.H, .slice a m.R.length ca, .slice b m.C.length cb] from HK2.out).later hb)
      have HN4 := Lib.hid ((show Blk wz.drew G 58 #[.int .i64 v.co, .int .i64 v.ce] from HN2.out).later hb)
      have HC4 := Lib.hid ((show Blk wz.drew Y 58 #[.int .i64 y.co, .int .i64 y.ce] from HC2.out).later hb)
      have tr : ∀ {ad : Addr} {v : Value}, wz.cell? ad = some v → w4.cell? ad = some v := fun {ad v} h => (hb.cell (World.block_lt_of_cell? wz.drew _ h)).trans h
      replace e1 := tr e1
      replace f1 := tr f1
      replace p0 := tr p0
      replace p1 := tr p1
      replace p2 := tr p2
      replace p3 := tr p3
      clear tr hb HB2 HK2 HN2 HC2
      go_wp2_with fail
      refine hK.out _ _ ⟨e1, f1, p0, p1, p2, p3⟩ (fun hsB => ?_)
      clear hK K hHeld
      refine wpAnyH_ready (rs := [9]) (by kernel_rfl) (by simp) ?_
      refine AllReadyH.cons (o := _) rfl (fun K hK => ?_) AllReadyH.nil
      go_simp
      go_at_call 113
      refine (C2.out _).mono ?_
      rintro e w5 ⟨rfl, hb⟩
      have HB5 := Lib.hid (HB4.out.trans (hb.mono HB4.out.size))
      have HK5 := Lib.hid (HK4.out.later hb)
      have HN5 := Lib.hid (HN4.out.later hb)
      have HC5 := Lib.hid (HC4.out.later hb)
      have tr : ∀ {ad : Addr} {v : Value}, w4.cell? ad = some v → w5.cell? ad = some v := fun {ad v} h => (hb.cell (World.block_lt_of_cell? w4 _ h)).trans h
      go_wp2_with fail
      refine hK.out _ _ ⟨tr e1, tr f1, tr p0, tr p1, tr p2, tr p3⟩ (fun hsA => ?_)
      clear hsB hK K tr hb HB4 HK4 HN4 HC4 e1 f1 p0 p1 p2 p3
      refine wpAnyH_take (i := 10) (oi := _) (v := ?_) rfl (by kernel_rfl) (by kernel_rfl) (by kernel_rfl) (fun _ _ _ h => h) (Or.inl ⟨by rfl, ?_⟩) (by assumption) ?_; rotate_left; focus (intro W hSw; (try dsimp only at hSw); go_simp; (first | done | with_reducible rfl))
      (try simp only [List.getElem_toArray, List.getElem_cons_succ, List.getElem_cons_zero, Act.put, List.setIfInBounds_toArray, List.set_cons_zero, List.set_cons_succ])
      refine wpAnyH_done (by kernel_rfl) ?_ _
      refine NoPanic.normal ?_
      (try simp only [List.getElem_toArray, List.getElem_cons_succ, List.getElem_cons_zero, Act.put, List.setIfInBounds_toArray, List.set_cons_zero, List.set_cons_succ])
      clear hsA
      by_cases hrs : r < s
      · have hd : decide ((r : Int) < (s : Int)) = true := decide_eq_true (by omega)
        have hd2 : decide (r < s) = true := decide_eq_true hrs
        have HI := Lib.hid (nr_yes (HRs.out.2 hrs))
        have HP5 := Lib.hid (blk_all HN5.out y)
        obtain ⟨⟨e0, e1⟩, -⟩ := blk_cells HC5.out
        obtain ⟨⟨f0, f1⟩, g0, g1⟩ := blk_cells HN5.out
        go_wp2
        go_roundw
        case rel => exact ⟨k + 1, by omega, by go_num, HB5.out.trans ((HP5.out.2 _ (Nat.le_of_lt HGw.out)).mono (Nat.le_refl _)), (HK5.out.far (p := ⟨G, 0, none⟩) (by have := HGw.out; show w.heap.size ≠ G; omega) _).far (p := ⟨G, 1, none⟩) (by have := HGw.out; show w.heap.size ≠ G; omega) _, by rw [HI.out, HY.out]; exact HP5.out.1⟩
        case measure => simp [intOf]; omega
      · have hd : decide ((r : Int) < (s : Int)) = false := decide_eq_false (by omega)
        have hd2 : decide (r < s) = false := decide_eq_false hrs
        have HI := Lib.hid (nr_no (fun h => hrs (HRs.out.1 h)))
        go_wp2
        go_roundw
        case rel => exact ⟨k + 1, by omega, by go_num, HB5.out, HK5.out, by rw [HI.out, HV.out]; exact HN5.out⟩
        case measure => simp [intOf]; omega
    · obtain rfl : k = n := by omega
      obtain ⟨⟨f0, -⟩, -⟩ := blk_cells HNb.out
      rw [HZ2.out] at f0
      go_wp2
      go_ret2
      exact ⟨rfl, HB.out⟩

set_option maxRecDepth 20000 in
set_option maxHeartbeats 4000000 in
theorem near_spec (m : Mp) (cs : List Ct) (hl : cs.length ≤ 1048576) (hR : m.R.length ≤ maxLen) (hC : m.C.length ≤ maxLen) (x : Int) (a b : Option Addr) (ca cb : Nat) (ad : Option Addr) (cap : Nat) (w : World) (h : Rd m cs a b ad w) :
    Calls Try.prog 58 #[.agg #[.int .i64 m.W, .int .i64 m.H, .slice a m.R.length ca, .slice b m.C.length cb], .slice ad cs.length cap, .int .i64 x] w (ZPost w (nrZ m cs x) (nrB m cs x)) := by
  have HB := Lib.hid ((Below.refl w.heap.size w).alloc (Nat.le_refl _) (.cells #[.int .i64 m.W, .int .i64 m.H, .slice a m.R.length ca, .slice b m.C.length cb] 26))
  have HK := Lib.hid (Blk.new w 26 #[.int .i64 m.W, .int .i64 m.H, .slice a m.R.length ca, .slice b m.C.length cb])
  have HR := Lib.hid h
  obtain ⟨g, hg⟩ : ∃ g, goodB m cs = g := ⟨_, rfl⟩
  have c1 := Lib.hid (fun w h => hg ▸ spec_good m cs hl hR hC a b ca cb ad cap w h)
  have HG := Lib.hid hg
  obtain ⟨ok, hok⟩ : ∃ o, nrB m cs x = o := ⟨_, rfl⟩
  obtain ⟨z, hz⟩ : ∃ z, nrZ m cs x = z := ⟨_, rfl⟩
  have HO := Lib.hid hok
  have HZ := Lib.hid hz
  rw [hok, hz]
  obtain ⟨n, hn⟩ : ∃ n, cs.length = n := ⟨_, rfl⟩
  have HN := Lib.hid hn
  rw [hn] at hl c1 ⊢
  have hbad : ok = false → z = 0 := fun e => by rw [← hz]; unfold nrZ; rw [hok, e]; rfl
  have HBAD := Lib.hid hbad
  clear h hg hok hz hn hbad
  go_enter Try.func58, Try.ntmps58
  go_wp2_with fail
  refine (c1.out _ (HR.out.later HB.out)).mono ?_
  rintro e w1 ⟨rfl, hb⟩
  have HB1 := Lib.hid (HB.out.trans (hb.mono HB.out.size))
  have HK1 := Lib.hid (HK.out.later hb)
  clear hb HB HK
  cases g with
  | false =>
    have h1 : ok = false := by rw [← HO.out]; unfold nrB; rw [HG.out]; rfl
    obtain rfl := HBAD.out h1
    subst h1
    go_wp2
    go_ret2
    exact ⟨rfl, HB1.out⟩
  | true =>
  obtain ⟨p0, p1, p2, p3, -⟩ := MapS.Blk.four HK1.out
  obtain ⟨ww, hh, gm⟩ := good_of (good_ok HG.out)
  have HGm := Lib.hid gm
  have hCn : m.C.length = ww * hh := gm.C
  have hW : m.W.toNat = ww := by rw [congrArg Mp.W (Cells.mp_eq gm)]; rfl
  obtain ⟨ic, hic⟩ : ∃ i, decide (0 ≤ x ∧ x < (ww * hh : Nat)) = i := ⟨_, rfl⟩
  have c2 := Lib.hid (fun w => hic ▸ Cells.scell m ww hh HGm.out a b ca cb x w)
  have HIc := Lib.hid (show decide (0 ≤ x ∧ x < (m.C.length : Int)) = ic from by rw [hCn]; exact hic)
  have HCn := Lib.hid hCn
  clear gm hic hCn
  cases ic with
  | false =>
    have h1 : ok = false := by rw [← HO.out]; unfold nrB; rw [HIc.out]; simp
    obtain rfl := HBAD.out h1
    subst h1
    clear hW
    go_wp2_with fail
    refine (c2.out _).mono ?_
    rintro e w2 ⟨rfl, hb⟩
    have HB2 := Lib.hid (HB1.out.trans (hb.mono HB1.out.size))
    clear hb
    go_wp2
    go_ret2
    exact ⟨rfl, HB2.out⟩
  | true =>
  have hin := of_decide_eq_true HIc.out
  obtain ⟨c, rfl⟩ : ∃ c : Nat, x = (c : Int) := ⟨x.toNat, by omega⟩
  have hcn : c < ww * hh := by rw [← HCn.out]; omega
  by_cases hn0 : 0 < n
  case neg =>
    have h1 : ok = false := by rw [← HO.out]; unfold nrB; rw [HN.out, decide_eq_false hn0]; simp
    obtain rfl := HBAD.out h1
    obtain rfl : n = 0 := by omega
    subst h1
    clear hin hn0 hW
    go_wp2_with fail
    refine (c2.out _).mono ?_
    rintro e w2 ⟨rfl, hb⟩
    have HB2 := Lib.hid (HB1.out.trans (hb.mono HB1.out.size))
    clear hb
    go_wp2
    go_ret2
    exact ⟨rfl, HB2.out⟩
  have h1 : ok = true := by rw [← HO.out]; unfold nrB; rw [HG.out, HN.out, HIc.out, decide_eq_true hn0]; rfl
  have HZ2 := Lib.hid (show (at_ cs (nrI ww c cs n)).co = z from by rw [← HZ.out]; unfold nrZ; rw [HO.out, h1, HN.out, hW]; rfl)
  have hnz : (n == 0) = false := by simpa using (by omega : n ≠ 0)
  have hnz2 : ((n : Int) == 0) = false := by simpa using (by omega : n ≠ 0)
  have hnz3 : ¬ n = 0 := by omega
  subst h1
  clear hin hW
  go_wp2_with fail
  refine (c2.out _).mono ?_
  rintro e w2 ⟨rfl, hb⟩
  have HB2 := Lib.hid (HB1.out.trans (hb.mono HB1.out.size))
  have HK2 := Lib.hid (HK1.out.later hb)
  clear hb HB1 HK1 p0 p1 p2 p3
  go_wp2
  go_loopw [9, 8] (fun i bi wr => ∃ k : Nat, 1 ≤ k ∧ k ≤ n ∧ i = .int .i64 k ∧ bi = .int .i64 (nrI ww c cs k : Nat) ∧ Below w.heap.size w wr ∧ Blk wr w.heap.size 26 #[.int .i64 m.W, .int .i64 m.H, .slice a m.R.length ca, .slice b m.C.length cb]) (fun i _ _ => n - (intOf i).toNat)
  case atStart => exact ⟨1, Nat.le_refl _, hn0, rfl, by rw [nr_one]; rfl, HB2.out, HK2.out⟩
  case round =>
    clear HB2 HK2
    obtain ⟨k, hk1, hk, rfl, rfl, hB, hK⟩ := hrel
    have HB := Lib.hid hB
    have HKm := Lib.hid hK
    clear hB hK
    obtain ⟨bi, hbi⟩ : ∃ b, nrI ww c cs k = b := ⟨_, rfl⟩
    have hbn : bi < n := by rw [← hbi, ← HN.out]; exact nr_lt ww c cs (by rw [HN.out]; exact hn0) k (by rw [HN.out]; exact hk)
    rw [hbi]
    have HBi := Lib.hid hbi
    clear hbi
    by_cases hlt : k < n
    · obtain ⟨b1, off, rfl, c0, d0⟩ := (HR.out.later HB.out).l.cells (i := k) (by rw [HN.out]; exact hlt)
      obtain ⟨b', off', e, c2', d2⟩ := (HR.out.later HB.out).l.cells (i := bi) (by rw [HN.out]; exact hbn)
      cases e
      obtain ⟨p, hp1, hp2⟩ := good_cell HG.out HGm.out (show k < cs.length by rw [HN.out]; exact hlt)
      obtain ⟨q, hq1, hq2⟩ := good_cell HG.out HGm.out (show bi < cs.length by rw [HN.out]; exact hbn)
      have HE1 := Lib.hid (show ceN cs k = p from by unfold ceN; rw [hp1]; rfl)
      have HE2 := Lib.hid (show ceN cs bi = q from by unfold ceN; rw [hq1]; rfl)
      rw [hp1] at d0
      rw [hq1] at d2
      obtain ⟨r, hr⟩ : ∃ r, apN ww p c = r := ⟨_, rfl⟩
      obtain ⟨s, hs⟩ : ∃ s, apN ww q c = s := ⟨_, rfl⟩
      have C1 := Lib.hid (fun w => hr ▸ apart_any m ww hh HGm.out p c hp2 hcn a b ca cb w)
      have C2 := Lib.hid (fun w => hs ▸ apart_any m ww hh HGm.out q c hq2 hcn a b ca cb w)
      have HRs := Lib.hid (show (apN ww c (ceN cs k) < apN ww c (ceN cs (nrI ww c cs k))) ↔ r < s from by rw [HBi.out, HE1.out, HE2.out, apN_comm ww c p, apN_comm ww c q, hr, hs])
      obtain ⟨p0, p1, p2, p3, -⟩ := MapS.Blk.four HKm.out
      have hkk0 : (0 : Int) ≤ (k : Int) := by omega
      have hkk1 : (k : Int) < (n : Int) := by omega
      have hbb0 : (0 : Int) ≤ (bi : Int) := by omega
      have hbb1 : (bi : Int) < (n : Int) := by omega
      clear hp1 hq1 hr hs c0 c2'
      go_upto_region 7 with (fail)
      refine wp_region_noPanic ?_
      refine wp_region_held_drew (S := (fun Wx : World => Wx.cell? ⟨b1, off + k * 2 + 1, none⟩ = some (.int .i64 (p : Int)) ∧ Wx.cell? ⟨b1, off + bi * 2 + 1, none⟩ = some (.int .i64 (q : Int)) ∧ Wx.cell? ⟨w.heap.size, 0, none⟩ = some (.int .i64 m.W) ∧ Wx.cell? ⟨w.heap.size, 1, none⟩ = some (.int .i64 m.H) ∧ Wx.cell? ⟨w.heap.size, 2, none⟩ = some (.slice a m.R.length ca) ∧ Wx.cell? ⟨w.heap.size, 3, none⟩ = some (.slice b m.C.length cb))) (by kernel_rfl) ⟨d0, d2, p0, p1, p2, p3⟩ (fun hHeld => ?_)
      refine wpAnyH_take (i := 0) (oi := _) (v := ?_) rfl (by kernel_rfl) (by kernel_rfl) (by kernel_rfl) (fun _ _ _ h => h) (Or.inl ⟨by rfl, ?_⟩) (by assumption) ?_; rotate_left; focus (intro W hSw; (try dsimp only at hSw); go_simp; (first | done | with_reducible rfl))
      (try simp only [List.getElem_toArray, List.getElem_cons_succ, List.getElem_cons_zero, Act.put, List.setIfInBounds_toArray, List.set_cons_zero, List.set_cons_succ])
      refine wpAnyH_take (i := 1) (oi := _) (v := ?_) rfl (by kernel_rfl) (by kernel_rfl) (by kernel_rfl) (fun _ _ _ h => h) (Or.inl ⟨by rfl, ?_⟩) (by assumption) ?_; rotate_left; focus (intro W hSw; (try dsimp only at hSw); go_simp; (first | done | with_reducible rfl))
      (try simp only [List.getElem_toArray, List.getElem_cons_succ, List.getElem_cons_zero, Act.put, List.setIfInBounds_toArray, List.set_cons_zero, List.set_cons_succ])
      refine wpAnyH_take (i := 2) (oi := _) (v := ?_) rfl (by kernel_rfl) (by kernel_rfl) (by kernel_rfl) (fun _ _ _ h => h) (Or.inl ⟨by rfl, ?_⟩) (by assumption) ?_; rotate_left; focus (intro W hSw; (try dsimp only at hSw); go_simp; (first | done | with_reducible rfl))
      (try simp only [List.getElem_toArray, List.getElem_cons_succ, List.getElem_cons_zero, Act.put, List.setIfInBounds_toArray, List.set_cons_zero, List.set_cons_succ])
      refine wpAnyH_take (i := 3) (oi := _) (v := ?_) rfl (by kernel_rfl) (by kernel_rfl) (by kernel_rfl) (fun _ _ _ h => h) (Or.inl ⟨by rfl, ?_⟩) (by assumption) ?_; rotate_left; focus (intro W hSw; (try dsimp only at hSw); go_simp; (first | done | with_reducible rfl))
      (try simp only [List.getElem_toArray, List.getElem_cons_succ, List.getElem_cons_zero, Act.put, List.setIfInBounds_toArray, List.set_cons_zero, List.set_cons_succ])
      refine wpAnyH_take (i := 4) (oi := _) (v := ?_) rfl (by kernel_rfl) (by kernel_rfl) (by kernel_rfl) (fun _ _ _ h => h) (Or.inl ⟨by rfl, ?_⟩) (by assumption) ?_; rotate_left; focus (intro W hSw; (try dsimp only at hSw); go_simp; (first | done | with_reducible rfl))
      (try simp only [List.getElem_toArray, List.getElem_cons_succ, List.getElem_cons_zero, Act.put, List.setIfInBounds_toArray, List.set_cons_zero, List.set_cons_succ])
      refine wpAnyH_take (i := 5) (oi := _) (v := ?_) rfl (by kernel_rfl) (by kernel_rfl) (by kernel_rfl) (fun _ _ _ h => h) (Or.inl ⟨by rfl, ?_⟩) (by assumption) ?_; rotate_left; focus (intro W hSw; (try dsimp only at hSw); go_simp; (first | done | with_reducible rfl))
      (try simp only [List.getElem_toArray, List.getElem_cons_succ, List.getElem_cons_zero, Act.put, List.setIfInBounds_toArray, List.set_cons_zero, List.set_cons_succ])
      refine wpAnyH_take (i := 6) (oi := _) (v := ?_) rfl (by kernel_rfl) (by kernel_rfl) (by kernel_rfl) (fun _ _ _ h => h) (Or.inl ⟨by rfl, ?_⟩) (by assumption) ?_; rotate_left; focus (intro W hSw; (try dsimp only at hSw); go_simp; (first | done | with_reducible rfl))
      (try simp only [List.getElem_toArray, List.getElem_cons_succ, List.getElem_cons_zero, Act.put, List.setIfInBounds_toArray, List.set_cons_zero, List.set_cons_succ])
      refine wpAnyH_take (i := 8) (oi := _) (v := ?_) rfl (by kernel_rfl) (by kernel_rfl) (by kernel_rfl) (fun _ _ _ h => h) (Or.inl ⟨by rfl, ?_⟩) (by assumption) ?_; rotate_left; focus (intro W hSw; (try dsimp only at hSw); go_simp; (first | done | with_reducible rfl))
      (try simp only [List.getElem_toArray, List.getElem_cons_succ, List.getElem_cons_zero, Act.put, List.setIfInBounds_toArray, List.set_cons_zero, List.set_cons_succ])
      refine wpAnyH_take (i := 9) (oi := _) (v := ?_) rfl (by kernel_rfl) (by kernel_rfl) (by kernel_rfl) (fun _ _ _ h => h) (Or.inl ⟨by rfl, ?_⟩) (by assumption) ?_; rotate_left; focus (intro W hSw; (try dsimp only at hSw); go_simp; (first | done | with_reducible rfl))
      (try simp only [List.getElem_toArray, List.getElem_cons_succ, List.getElem_cons_zero, Act.put, List.setIfInBounds_toArray, List.set_cons_zero, List.set_cons_succ])
      refine wpAnyH_take (i := 10) (oi := _) (v := ?_) rfl (by kernel_rfl) (by kernel_rfl) (by kernel_rfl) (fun _ _ _ h => h) (Or.inl ⟨by rfl, ?_⟩) (by assumption) ?_; rotate_left; focus (intro W hSw; (try dsimp only at hSw); go_simp; (first | done | with_reducible rfl))
      (try simp only [List.getElem_toArray, List.getElem_cons_succ, List.getElem_cons_zero, Act.put, List.setIfInBounds_toArray, List.set_cons_zero, List.set_cons_succ])
      refine wpAnyH_take (i := 11) (oi := _) (v := ?_) rfl (by kernel_rfl) (by kernel_rfl) (by kernel_rfl) (fun _ _ _ h => h) (Or.inl ⟨by rfl, ?_⟩) (by assumption) ?_; rotate_left; focus (intro W hSw; (try dsimp only at hSw); go_simp; (first | done | with_reducible rfl))
      (try simp only [List.getElem_toArray, List.getElem_cons_succ, List.getElem_cons_zero, Act.put, List.setIfInBounds_toArray, List.set_cons_zero, List.set_cons_succ])
      refine wpAnyH_take (i := 12) (oi := _) (v := ?_) rfl (by kernel_rfl) (by kernel_rfl) (by kernel_rfl) (fun _ _ _ h => h) (Or.inl ⟨by rfl, ?_⟩) (by assumption) ?_; rotate_left; focus (intro W hSw; (try dsimp only at hSw); go_simp; (first | done | with_reducible rfl))
      (try simp only [List.getElem_toArray, List.getElem_cons_succ, List.getElem_cons_zero, Act.put, List.setIfInBounds_toArray, List.set_cons_zero, List.set_cons_succ])
      refine wpAnyH_take (i := 13) (oi := _) (v := ?_) rfl (by kernel_rfl) (by kernel_rfl) (by kernel_rfl) (fun _ _ _ h => h) (Or.inl ⟨by rfl, ?_⟩) (by assumption) ?_; rotate_left; focus (intro W hSw; (try dsimp only at hSw); go_simp; (first | done | with_reducible rfl))
      (try simp only [List.getElem_toArray, List.getElem_cons_succ, List.getElem_cons_zero, Act.put, List.setIfInBounds_toArray, List.set_cons_zero, List.set_cons_succ])
      refine wpAnyH_take (i := 14) (oi := _) (v := ?_) rfl (by kernel_rfl) (by kernel_rfl) (by kernel_rfl) (fun _ _ _ h => h) (Or.inl ⟨by rfl, ?_⟩) (by assumption) ?_; rotate_left; focus (intro W hSw; (try dsimp only at hSw); go_simp; (first | done | with_reducible rfl))
      (try simp only [List.getElem_toArray, List.getElem_cons_succ, List.getElem_cons_zero, Act.put, List.setIfInBounds_toArray, List.set_cons_zero, List.set_cons_succ])
      refine wpAnyH_ready (rs := [7]) (by kernel_rfl) (by simp) ?_
      refine AllReadyH.cons (o := _) rfl (fun K hK => ?_) AllReadyH.nil
      go_simp
      go_at_call 114
      refine (C1.out _).mono ?_
      rintro e w4 ⟨rfl, hb⟩
      have HB4 := Lib.hid (HB.out.drew.trans (hb.mono HB.out.size))
      have HK4 := Lib.hid ((show Blk wr.drew w.heap.size 26 #[.int .i64 m.W, .int .i64 m.H, .slice a m.R.length ca, .slice b m.C.length cb] from HKm.out).later hb)
      have tr : ∀ {ad : Addr} {v : Value}, wr.cell? ad = some v → w4.cell? ad = some v := fun {ad v} h => (hb.cell (World.block_lt_of_cell? wr.drew _ h)).trans h
      replace d0 := tr d0
      replace d2 := tr d2
      replace p0 := tr p0
      replace p1 := tr p1
      replace p2 := tr p2
      replace p3 := tr p3
      clear tr hb
      go_wp2_with fail
      refine hK.out _ _ ⟨d0, d2, p0, p1, p2, p3⟩ (fun hsB => ?_)
      clear hK K hHeld
      refine wpAnyH_ready (rs := [15]) (by kernel_rfl) (by simp) ?_
      refine AllReadyH.cons (o := _) rfl (fun K hK => ?_) AllReadyH.nil
      go_simp
      go_at_call 114
      refine (C2.out _).mono ?_
      rintro e w5 ⟨rfl, hb⟩
      have HB5 := Lib.hid (HB4.out.trans (hb.mono HB4.out.size))
      have HK5 := Lib.hid (HK4.out.later hb)
      have tr : ∀ {ad : Addr} {v : Value}, w4.cell? ad = some v → w5.cell? ad = some v := fun {ad v} h => (hb.cell (World.block_lt_of_cell? w4 _ h)).trans h
      go_wp2_with fail
      refine hK.out _ _ ⟨tr d0, tr d2, tr p0, tr p1, tr p2, tr p3⟩ (fun hsA => ?_)
      clear hsB hK K tr hb HB4 HK4 d0 d2 p0 p1 p2 p3
      refine wpAnyH_take (i := 16) (oi := _) (v := ?_) rfl (by kernel_rfl) (by kernel_rfl) (by kernel_rfl) (fun _ _ _ h => h) (Or.inl ⟨by rfl, ?_⟩) (by assumption) ?_; rotate_left; focus (intro W hSw; (try dsimp only at hSw); go_simp; (first | done | with_reducible rfl))
      (try simp only [List.getElem_toArray, List.getElem_cons_succ, List.getElem_cons_zero, Act.put, List.setIfInBounds_toArray, List.set_cons_zero, List.set_cons_succ])
      refine wpAnyH_done (by kernel_rfl) ?_ _
      refine NoPanic.normal ?_
      (try simp only [List.getElem_toArray, List.getElem_cons_succ, List.getElem_cons_zero, Act.put, List.setIfInBounds_toArray, List.set_cons_zero, List.set_cons_succ])
      clear hsA
      by_cases hrs : r < s
      · have hd : decide ((r : Int) < (s : Int)) = true := decide_eq_true (by omega)
        have hd2 : decide (r < s) = true := decide_eq_true hrs
        have HI := Lib.hid (nr_yes (HRs.out.2 hrs))
        go_wp2
        go_roundw
        case rel => exact ⟨k + 1, by omega, by omega, by go_num, by rw [HI.out], HB5.out, HK5.out⟩
        case measure => simp [intOf]; omega
      · have hd : decide ((r : Int) < (s : Int)) = false := decide_eq_false (by omega)
        have hd2 : decide (r < s) = false := decide_eq_false hrs
        have HI := Lib.hid (nr_no (fun h => hrs (HRs.out.1 h)))
        go_wp2
        go_roundw
        case rel => exact ⟨k + 1, by omega, by omega, by go_num, by rw [HI.out, HBi.out], HB5.out, HK5.out⟩
        case measure => simp [intOf]; omega
    · obtain rfl : k = n := by omega
      obtain ⟨b1, off, rfl, c0, d0⟩ := (HR.out.later HB.out).l.cells (i := bi) (by rw [HN.out]; exact hbn)
      rw [← HBi.out, HZ2.out, HBi.out] at c0
      have hbb0 : (0 : Int) ≤ (bi : Int) := by omega
      have hbb1 : (bi : Int) < (k : Int) := by omega
      go_wp2
      go_ret2
      exact ⟨rfl, HB.out⟩

/-- NearestControl: both. -/
theorem near (m : Mp) (hR : m.R.length ≤ maxLen) (hC : m.C.length ≤ maxLen) (cs : List Ct) (hf : ∀ i, i < cs.length → Is (at_ cs i)) (hl : cs.length ≤ 1048576) (x : Int) (hx : (Lit.int IntKind.i64 x).wf = true) : ∃ (z : Int) (ok : Bool),
    (∀ a b ca cb ad cap w, IRow w a m.R → IRow w b m.C → cs.length ≤ cap → Row w ad cs → Calls Try.prog 58 #[.agg #[.int .i64 m.W, .int .i64 m.H, .slice a m.R.length ca, .slice b m.C.length cb], .slice ad cs.length cap, .int .i64 x] w fun e w' => e = .returned (.tuple #[.int .i64 z, .bool ok]) ∧ Below w.heap.size w w') ∧
    (∀ a b ca cb ad cap w, IRow w a m.R → IRow w b m.C → cs.length ≤ cap → Row w ad cs → Calls Try.prog 57 #[.agg #[.int .i64 m.W, .int .i64 m.H, .slice a m.R.length ca, .slice b m.C.length cb], .slice ad cs.length cap, .int .i64 x] w fun e w' => e = .returned (.tuple #[.int .i64 z, .bool ok]) ∧ Below w.heap.size w w') :=
  ⟨_, _, fun a b ca cb ad cap w h1 h2 _ h3 => near_spec m cs hl hR hC x a b ca cb ad cap w ⟨h1, h2, h3⟩, fun a b ca cb ad cap w h1 h2 _ h3 => near_impl m cs hl hR hC x a b ca cb ad cap w ⟨h1, h2, h3⟩⟩

end Go.Proofs.Ytfpfnnindlfgfaa.CoN
