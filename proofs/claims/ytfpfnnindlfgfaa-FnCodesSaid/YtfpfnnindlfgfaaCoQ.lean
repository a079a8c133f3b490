/- CloseControls and ConfusableCodes: both texts. -/
import Derived.Test.YtfpfnnindlfgfaaCoC
import Derived.Test.YtfpfnnindlfgfaaCoD
import Derived.Test.YtfpfnnindlfgfaaCoL
import Derived.Test.YtfpfnnindlfgfaaPrP
import Derived.Test.YtfpfnnindlfgfaaA3
import Derived.Test.YtfpfnnindlfgfaaFnEn
import Derived.Deep.AppendLies
namespace Go.Proofs.Ytfpfnnindlfgfaa.CoQ
open Go.RowKit Lb IntS CtK CoM CoD CoL CoC PrP
open OpnI (opB opB_iff opB_of)
open Bk (Blk)
set_option linter.unusedSimpArgs false
set_option linter.unusedVariables false

/-- The cells of a valid list lie in the map. -/
theorem good_cell {m : Mp} {cs : List Ct} {ww hh : Nat} (h : goodB m cs = true) (g : GoodM m ww hh) {i : Nat} (hi : i < cs.length) : ∃ p : Nat, (at_ cs i).ce = (p : Int) ∧ p < ww * hh := by
  obtain ⟨q, hq, h3⟩ := opB_of g (good_open h hi)
  exact ⟨q, hq, h3.1⟩
theorem good_num {m : Mp} {cs : List Ct} (h : goodB m cs = true) {i : Nat} (hi : i < cs.length) : ∃ p : Nat, (at_ cs i).co = (p : Int) ∧ 31 ≤ p ∧ p ≤ 99 := by
  obtain ⟨h1, h2⟩ := good_code h hi
  exact ⟨(at_ cs i).co.toNat, by omega, by omega, by omega⟩
theorem PrK_ne {w : World} {base n : Nat} {v : Value} {xs : List Value} {A : Nat} {cs : Array Value} (h : w.ownsRow base 59 2 v n xs) (hb : Blk w A 26 cs) : v.ownBlock ≠ some A := by
  intro e
  rcases h.2 with ⟨rfl, _⟩ | ⟨g, cap, cur, rfl, _, hg, _⟩
  · cases e
  · have h1 : g = A := by simpa [Value.ownBlock] using e
    subst h1
    unfold Blk at hb
    rw [hg] at hb
    simp at hb
/-- The tests. -/
def clB (ww : Nat) (D : Int) (x y : Ct) : Bool := decide ((apN ww x.ce.toNat y.ce.toNat : Int) < D)
def cfB (x y : Ct) : Bool := lkN x.co.toNat y.co.toNat
def PPost (w : World) (zs : List Pr) (ok : Bool) (e : Ending) (w' : World) : Prop := ∃ v, e = .returned (.tuple #[v, .bool ok]) ∧ PrK.Own w' w.heap.size v zs ∧ Below w.heap.size w w'
theorem own_none (w : World) (b : Nat) (hb : b ≤ w.heap.size) : PrK.Own (w.alloc (.cells #[] 59)) b (.slice (some ⟨w.heap.size, 0, none⟩) 0 0) [] := World.ownsRow_made w #[] 0 hb (Nat.zero_le _) rfl
/-- What they answer. -/
def clO (m : Mp) (cs : List Ct) (D : Int) : Bool := goodB m cs && decide (0 ≤ D)
def clL (m : Mp) (cs : List Ct) (D : Int) : List Pr := if clO m cs D then allP (clB m.W.toNat D) cs cs.length else []
def cfL (m : Mp) (cs : List Ct) : List Pr := if goodB m cs then allP cfB cs cs.length else []
theorem all_short (p : Ct → Ct → Bool) {m : Mp} {cs : List Ct} (h : goodB m cs = true) : (allP p cs cs.length).length ≤ 100 := by
  have h1 := all_len p cs cs.length
  have h2 := good_len h
  exact Nat.le_trans h1 (Nat.mul_le_mul h2 h2)
theorem cl_len (m : Mp) (cs : List Ct) (D : Int) : (clL m cs D).length ≤ 100 := by
  unfold clL clO
  cases h : goodB m cs with
  | false => simp
  | true =>
    split
    · exact all_short _ h
    · simp
theorem cf_len (m : Mp) (cs : List Ct) : (cfL m cs).length ≤ 100 := by
  unfold cfL
  cases h : goodB m cs with
  | false => simp
  | true => simpa using all_short cfB h

set_option maxRecDepth 20000 in
set_option maxHeartbeats 2000000 in
theorem clo_any (m : Mp) (ww hh : Nat) (g : GoodM m ww hh) (x y : Ct) (p q : Nat) (hx : x.ce = (p : Int)) (hy : y.ce = (q : Int)) (hp : p < ww * hh) (hq : q < ww * hh) (D : Int) (a b : Option Addr) (ca cb : Nat) (bm bd : Nat) (w : World)
    (hm : Blk w bm 26 #[.int .i64 m.W, .int .i64 m.H, .slice a m.R.length ca, .slice b m.C.length cb]) (hd : Blk w bd 3 #[.int .i64 D]) :
    Calls Try.prog 112 #[.agg #[.int .i64 x.co, .int .i64 x.ce], .agg #[.int .i64 y.co, .int .i64 y.ce], .pointer (some ⟨bm, 0, none⟩), .pointer (some ⟨bd, 0, none⟩)] w fun e w' => e = .returned (.bool (clB ww D x y)) ∧ Below w.heap.size w w' := by
  obtain ⟨r, hr⟩ : ∃ r, apN ww p q = r := ⟨_, rfl⟩
  have C1 := Lib.hid (fun w => hr ▸ dist_any m ww hh g p q hp hq a b ca cb w)
  have HE := Lib.hid (show clB ww D x y = decide ((r : Int) < D) from by unfold clB; rw [hx, hy, ← hr]; rfl)
  rw [HE.out]
  have HB := Lib.hid (((Below.refl w.heap.size w).alloc (Nat.le_refl _) (.cells #[.int .i64 x.co, .int .i64 x.ce] 58)).alloc (by simp) (.cells #[.int .i64 y.co, .int .i64 y.ce] 58))
  obtain ⟨⟨-, e1⟩, -⟩ := blk_cells ((Blk.new w 58 #[.int .i64 x.co, .int .i64 x.ce]).alloc (.cells #[.int .i64 y.co, .int .i64 y.ce] 58))
  obtain ⟨⟨-, f1⟩, -⟩ := blk_cells (show Blk ((w.alloc (.cells #[.int .i64 x.co, .int .i64 x.ce] 58)).alloc (.cells #[.int .i64 y.co, .int .i64 y.ce] 58)) (w.heap.size + 1) 58 #[.int .i64 y.co, .int .i64 y.ce] from by simpa using Blk.new (w.alloc (.cells #[.int .i64 x.co, .int .i64 x.ce] 58)) 58 #[.int .i64 y.co, .int .i64 y.ce])
  obtain ⟨p0, p1, p2, p3, -⟩ := MapS.Blk.four ((hm.alloc (.cells #[.int .i64 x.co, .int .i64 x.ce] 58)).alloc (.cells #[.int .i64 y.co, .int .i64 y.ce] 58))
  have d0 := ((hd.alloc (.cells #[.int .i64 x.co, .int .i64 x.ce] 58)).alloc (.cells #[.int .i64 y.co, .int .i64 y.ce] 58)).cell 0 rfl
  have HX := Lib.hid hx
  have HY := Lib.hid hy
  clear hm hd hr HE hx hy
  go_enter Try.func112, Try.ntmps112
  go_upto_region 1 with (fail)
  generalize (w.alloc (.cells #[.int .i64 x.co, .int .i64 x.ce] 58)).alloc (.cells #[.int .i64 y.co, .int .i64 y.ce] 58) = wz at *
  rw [HX.out] at e1
  rw [HY.out] at f1
  refine wp_region_noPanic ?_
  refine wp_region_held_drew (S := (fun Wx : World => Wx.cell? ⟨w.heap.size, 1, none⟩ = some (.int .i64 (p : Int)) ∧ Wx.cell? ⟨w.heap.size + 1, 1, none⟩ = some (.int .i64 (q : Int)) ∧ Wx.cell? ⟨bm, 0, none⟩ = some (.int .i64 m.W) ∧ Wx.cell? ⟨bm, 1, none⟩ = some (.int .i64 m.H) ∧ Wx.cell? ⟨bm, 2, none⟩ = some (.slice a m.R.length ca) ∧ Wx.cell? ⟨bm, 3, none⟩ = some (.slice b m.C.length cb) ∧ Wx.cell? ⟨bd, 0, none⟩ = some (.int .i64 D))) (by kernel_rfl) ⟨e1, f1, p0, p1, p2, p3, d0⟩ (fun hHeld => ?_)
  refine wpAnyH_take (i := 0) (oi := _) (v := ?_) rfl (by kernel_rfl) (by kernel_rfl) (by kernel_rfl) (fun _ _ _ h => h) (Or.inl ⟨by rfl, ?_⟩) (by assumption) ?_; rotate_left; focus (intro W hSw; (try dsimp only at hSw); go_simp; (first | done | with_reducible rfl))
  (try simp only [List.getElem_toArray, List.getElem_cons_succ, List.getElem_cons_zero, Act.put, List.setIfInBounds_toArray, List.set_cons_zero, List.set_cons_succ])
  refine wpAnyH_take (i := 1) (oi := _) (v := ?_) rfl (by kernel_rfl) (by kernel_rfl) (by kernel_rfl) (fun _ _ _ h => h) (Or.inl ⟨by rfl, ?_⟩) (by assumption) ?_; rotate_left; focus (intro W hSw; (try dsimp only at hSw); go_simp; (first | done | with_reducible rfl))
  (try simp only [List.getElem_toArray, List.getElem_cons_succ, List.getElem_cons_zero, Act.put, List.setIfInBounds_toArray, List.set_cons_zero, List.set_cons_succ])
  refine wpAnyH_take (i := 2) (oi := _) (v := ?_) rfl (by kernel_rfl) (by kernel_rfl) (by kernel_rfl) (fun _ _ _ h => h) (Or.inl ⟨by rfl, ?_⟩) (by assumption) ?_; rotate_left; focus (intro W hSw; (try dsimp only at hSw); go_simp; (first | done | with_reducible rfl))
  (try simp only [List.getElem_toArray, List.getElem_cons_succ, List.getElem_cons_zero, Act.put, List.setIfInBounds_toArray, List.set_cons_zero, List.set_cons_succ])
  refine wpAnyH_take (i := 3) (oi := _) (v := ?_) rfl (by kernel_rfl) (by kernel_rfl) (by kernel_rfl) (fun _ _ _ h => h) (Or.inl ⟨by rfl, ?_⟩) (by assumption) ?_; rotate_left; focus (intro W hSw; (try dsimp only at hSw); go_simp; (first | done | with_reducible rfl))
  (try simp only [List.getElem_toArray, List.getElem_cons_succ, List.getElem_cons_zero, Act.put, List.setIfInBounds_toArray, List.set_cons_zero, List.set_cons_succ])
  refine wpAnyH_take (i := 4) (oi := _) (v := ?_) rfl (by kernel_rfl) (by kernel_rfl) (by kernel_rfl) (fun _ _ _ h => h) (Or.inl ⟨by rfl, ?_⟩) (by assumption) ?_; rotate_left; focus (intro W hSw; (try dsimp only at hSw); go_simp; (first | done | with_reducible rfl))
  (try simp only [List.getElem_toArray, List.getElem_cons_succ, List.getElem_cons_zero, Act.put, List.setIfInBounds_toArray, List.set_cons_zero, List.set_cons_succ])
  refine wpAnyH_take (i := 6) (oi := _) (v := ?_) rfl (by kernel_rfl) (by kernel_rfl) (by kernel_rfl) (fun _ _ _ h => h) (Or.inl ⟨by rfl, ?_⟩) (by assumption) ?_; rotate_left; focus (intro W hSw; (try dsimp only at hSw); go_simp; (first | done | with_reducible rfl))
  (try simp only [List.getElem_toArray, List.getElem_cons_succ, List.getElem_cons_zero, Act.put, List.setIfInBounds_toArray, List.set_cons_zero, List.set_cons_succ])
  refine wpAnyH_ready (rs := [5]) (by kernel_rfl) (by simp) ?_
  refine AllReadyH.cons (o := _) rfl (fun K hK => ?_) AllReadyH.nil
  go_simp
  go_at_call 113
  refine (C1.out _).mono ?_
  rintro e w2 ⟨rfl, hb⟩
  have HB2 := Lib.hid (HB.out.drew.trans (hb.mono HB.out.size))
  have tr : ∀ {ad : Addr} {v : Value}, wz.cell? ad = some v → w2.cell? ad = some v := fun {ad v} h => (hb.cell (World.block_lt_of_cell? wz.drew _ h)).trans h
  go_wp2_with fail
  refine hK.out _ _ ⟨tr e1, tr f1, tr p0, tr p1, tr p2, tr p3, tr d0⟩ (fun _ => ?_)
  clear hK K hHeld tr hb
  refine wpAnyH_take (i := 7) (oi := _) (v := ?_) rfl (by kernel_rfl) (by kernel_rfl) (by kernel_rfl) (fun _ _ _ h => h) (Or.inl ⟨by rfl, ?_⟩) (by assumption) ?_; rotate_left; focus (intro W hSw; (try dsimp only at hSw); go_simp; (first | done | with_reducible rfl))
  (try simp only [List.getElem_toArray, List.getElem_cons_succ, List.getElem_cons_zero, Act.put, List.setIfInBounds_toArray, List.set_cons_zero, List.set_cons_succ])
  refine wpAnyH_take (i := 8) (oi := _) (v := ?_) rfl (by kernel_rfl) (by kernel_rfl) (by kernel_rfl) (fun _ _ _ h => h) (Or.inl ⟨by rfl, ?_⟩) (by assumption) ?_; rotate_left; focus (intro W hSw; (try dsimp only at hSw); go_simp; (first | done | with_reducible rfl))
  (try simp only [List.getElem_toArray, List.getElem_cons_succ, List.getElem_cons_zero, Act.put, List.setIfInBounds_toArray, List.set_cons_zero, List.set_cons_succ])
  refine wpAnyH_done (by kernel_rfl) ?_ _
  refine NoPanic.normal ?_
  (try simp only [List.getElem_toArray, List.getElem_cons_succ, List.getElem_cons_zero, Act.put, List.setIfInBounds_toArray, List.set_cons_zero, List.set_cons_succ])
  go_wp2
  go_ret
  exact ⟨rfl, HB2.out⟩

set_option maxHeartbeats 1000000 in
theorem cfo_any (x y : Ct) (p q : Nat) (hx : x.co = (p : Int)) (hy : y.co = (q : Int)) (hp : p ≤ 99) (hq : q ≤ 99) (w : World) :
    Calls Try.prog 110 #[.agg #[.int .i64 x.co, .int .i64 x.ce], .agg #[.int .i64 y.co, .int .i64 y.ce]] w fun e w' => e = .returned (.bool (cfB x y)) ∧ Below w.heap.size w w' := by
  obtain ⟨r, hr⟩ : ∃ r, lkN p q = r := ⟨_, rfl⟩
  have C1 := Lib.hid (fun w => hr ▸ conf_any p q (by omega) (by omega) w)
  have HE := Lib.hid (show cfB x y = r from by unfold cfB; rw [hx, hy, ← hr]; rfl)
  rw [HE.out]
  have HB := Lib.hid (((Below.refl w.heap.size w).alloc (Nat.le_refl _) (.cells #[.int .i64 x.co, .int .i64 x.ce] 58)).alloc (by simp) (.cells #[.int .i64 y.co, .int .i64 y.ce] 58))
  obtain ⟨⟨e0, -⟩, -⟩ := blk_cells ((Blk.new w 58 #[.int .i64 x.co, .int .i64 x.ce]).alloc (.cells #[.int .i64 y.co, .int .i64 y.ce] 58))
  obtain ⟨⟨f0, -⟩, -⟩ := blk_cells (show Blk ((w.alloc (.cells #[.int .i64 x.co, .int .i64 x.ce] 58)).alloc (.cells #[.int .i64 y.co, .int .i64 y.ce] 58)) (w.heap.size + 1) 58 #[.int .i64 y.co, .int .i64 y.ce] from by simpa using Blk.new (w.alloc (.cells #[.int .i64 x.co, .int .i64 x.ce] 58)) 58 #[.int .i64 y.co, .int .i64 y.ce])
  have HX := Lib.hid hx
  have HY := Lib.hid hy
  clear hr HE hx hy
  go_enter Try.func110, Try.ntmps110
  go_upto_region 1 with (fail)
  generalize (w.alloc (.cells #[.int .i64 x.co, .int .i64 x.ce] 58)).alloc (.cells #[.int .i64 y.co, .int .i64 y.ce] 58) = wz at *
  rw [HX.out] at e0
  rw [HY.out] at f0
  go_wp2_with fail
  refine (C1.out _).mono ?_
  rintro e w2 ⟨rfl, hb⟩
  have HB2 := Lib.hid (HB.out.trans (hb.mono HB.out.size))
  clear hb
  go_wp2
  go_ret
  exact ⟨rfl, HB2.out⟩

set_option maxRecDepth 20000 in
set_option maxHeartbeats 2000000 in
theorem cl_impl (m : Mp) (cs : List Ct) (hl : cs.length ≤ 1048576) (hR : m.R.length ≤ maxLen) (hC : m.C.length ≤ maxLen) (D : Int) (a b : Option Addr) (ca cb : Nat) (ad : Option Addr) (cap : Nat) (w : World) (hcap : cs.length ≤ cap) (h : Rd m cs a b ad w) :
    Calls Try.prog 54 #[.agg #[.int .i64 m.W, .int .i64 m.H, .slice a m.R.length ca, .slice b m.C.length cb], .slice ad cs.length cap, .int .i64 D] w (PPost w (clL m cs D) (clO m cs D)) := by
  have HB := Lib.hid (((Below.refl w.heap.size w).alloc (Nat.le_refl _) (.cells #[.int .i64 m.W, .int .i64 m.H, .slice a m.R.length ca, .slice b m.C.length cb] 26)).alloc (by simp) (.cells #[.int .i64 D] 3))
  have HK := Lib.hid ((Blk.new w 26 #[.int .i64 m.W, .int .i64 m.H, .slice a m.R.length ca, .slice b m.C.length cb]).alloc (.cells #[.int .i64 D] 3))
  have HD := Lib.hid (show Blk ((w.alloc (.cells #[.int .i64 m.W, .int .i64 m.H, .slice a m.R.length ca, .slice b m.C.length cb] 26)).alloc (.cells #[.int .i64 D] 3)) (w.heap.size + 1) 3 #[.int .i64 D] from by simpa using Blk.new (w.alloc (.cells #[.int .i64 m.W, .int .i64 m.H, .slice a m.R.length ca, .slice b m.C.length cb] 26)) 3 #[.int .i64 D])
  have HR1 := Lib.hid ((h.later ((Below.refl w.heap.size w).alloc (Nat.le_refl _) (.cells #[.int .i64 m.W, .int .i64 m.H, .slice a m.R.length ca, .slice b m.C.length cb] 26))).later ((Below.refl _ _).alloc (Nat.le_refl _) (.cells #[.int .i64 D] 3)))
  obtain ⟨g, hg⟩ : ∃ g, goodB m cs = g := ⟨_, rfl⟩
  have c1 := Lib.hid (fun w h => hg ▸ impl_good m cs hl hR hC a b ca cb ad cap w h)
  have HG := Lib.hid hg
  obtain ⟨ok, hok⟩ : ∃ o, clO m cs D = o := ⟨_, rfl⟩
  obtain ⟨zs, hzs⟩ : ∃ z, clL m cs D = z := ⟨_, rfl⟩
  have HO := Lib.hid hok
  have HZ := Lib.hid hzs
  rw [hok, hzs]
  clear h hg hok hzs
  go_enter Try.func54, Try.ntmps54
  go_wp2_with fail
  refine (c1.out _ HR1.out).mono ?_
  rintro e w1 ⟨rfl, hb⟩
  have HB1 := Lib.hid (HB.out.trans (hb.mono HB.out.size))
  have HR2 := Lib.hid (HR1.out.later hb)
  have HK1 := Lib.hid (HK.out.later hb)
  have HD1 := Lib.hid (HD.out.later hb)
  clear hb HB HK HD HR1
  have hsz := HB1.out.size
  have d0 := HD1.out.cell 0 rfl
  cases g with
  | false =>
    have h1 : ok = false := by rw [← HO.out]; unfold clO; rw [HG.out]; rfl
    have h2 : zs = [] := by rw [← HZ.out]; unfold clL; rw [HO.out, h1]; rfl
    subst h1 h2
    go_wp2
    go_ret2
    exact ⟨_, rfl, own_none w1 w.heap.size hsz, HB1.out.alloc hsz _⟩
  | true =>
  by_cases hD : 0 ≤ D
  case neg =>
    have h1 : ok = false := by rw [← HO.out]; unfold clO; rw [decide_eq_false hD, Bool.and_false]
    have h2 : zs = [] := by rw [← HZ.out]; unfold clL; rw [HO.out, h1]; rfl
    have hd : decide (D < 0) = true := decide_eq_true (by omega)
    subst h1 h2
    clear hD
    go_wp2
    go_ret2
    exact ⟨_, rfl, own_none w1 w.heap.size hsz, HB1.out.alloc hsz _⟩
  have hd : decide (D < 0) = false := decide_eq_false (by omega)
  have h1 : ok = true := by rw [← HO.out]; unfold clO; rw [HG.out, decide_eq_true hD]; rfl
  obtain ⟨ww, hh, gm⟩ := good_of (good_ok HG.out)
  have hW : m.W.toNat = ww := by rw [congrArg Mp.W (Cells.mp_eq gm)]; rfl
  have h2 : allP (clB ww D) cs cs.length = zs := by rw [← HZ.out]; unfold clL; rw [HO.out, h1, hW]; rfl
  have c3 := Lib.hid (pairs_any 112 #[.pointer (some ⟨w.heap.size, 0, none⟩), .pointer (some ⟨w.heap.size + 1, 0, none⟩)] (clB ww D) w1 (fun args w => FnEn.enter_of Try.func112 (by kernel_rfl) rfl args w) cs
    (fun i k hik hk w' hb => by
      obtain ⟨p, hp1, hp2⟩ := good_cell HG.out gm (show i < cs.length by omega)
      obtain ⟨q, hq1, hq2⟩ := good_cell HG.out gm hk
      exact clo_any m ww hh gm _ _ p q hp1 hq1 hp2 hq2 D a b ca cb w.heap.size (w.heap.size + 1) w' (HK1.out.later hb) (HD1.out.later hb))
    ad cap hcap HR2.out.l (good_len HG.out))
  rw [h2] at c3
  subst h1
  clear h2 hW gm hD
  go_wp2_with fail
  refine c3.out.mono ?_
  rintro e w2 ⟨v, rfl, ho, hb⟩
  have HOw := Lib.hid ho
  have HB2 := Lib.hid (HB1.out.trans (hb.mono hsz))
  clear ho hb
  go_wp2
  go_ret2
  exact ⟨_, rfl, IntS.rebase HOw.out hsz, HB2.out⟩

set_option maxRecDepth 20000 in
set_option maxHeartbeats 2000000 in
theorem cf_impl (m : Mp) (cs : List Ct) (hl : cs.length ≤ 1048576) (hR : m.R.length ≤ maxLen) (hC : m.C.length ≤ maxLen) (a b : Option Addr) (ca cb : Nat) (ad : Option Addr) (cap : Nat) (w : World) (hcap : cs.length ≤ cap) (h : Rd m cs a b ad w) :
    Calls Try.prog 50 #[.agg #[.int .i64 m.W, .int .i64 m.H, .slice a m.R.length ca, .slice b m.C.length cb], .slice ad cs.length cap] w (PPost w (cfL m cs) (goodB m cs)) := by
  have HB := Lib.hid ((Below.refl w.heap.size w).alloc (Nat.le_refl _) (.cells #[.int .i64 m.W, .int .i64 m.H, .slice a m.R.length ca, .slice b m.C.length cb] 26))
  have HR1 := Lib.hid (h.later ((Below.refl w.heap.size w).alloc (Nat.le_refl _) (.cells #[.int .i64 m.W, .int .i64 m.H, .slice a m.R.length ca, .slice b m.C.length cb] 26)))
  obtain ⟨g, hg⟩ : ∃ g, goodB m cs = g := ⟨_, rfl⟩
  have c1 := Lib.hid (fun w h => hg ▸ impl_good m cs hl hR hC a b ca cb ad cap w h)
  have HG := Lib.hid hg
  obtain ⟨ok, hok⟩ : ∃ o, goodB m cs = o := ⟨_, rfl⟩
  obtain ⟨zs, hzs⟩ : ∃ z, cfL m cs = z := ⟨_, rfl⟩
  have HO := Lib.hid hok
  have HZ := Lib.hid hzs
  rw [hok, hzs]
  clear h hg hok hzs
  go_enter Try.func50, Try.ntmps50
  go_wp2_with fail
  refine (c1.out _ HR1.out).mono ?_
  rintro e w1 ⟨rfl, hb⟩
  have HB1 := Lib.hid (HB.out.trans (hb.mono HB.out.size))
  have HR2 := Lib.hid (HR1.out.later hb)
  clear hb HB HR1
  have hsz := HB1.out.size
  cases g with
  | false =>
    have h1 : ok = false := by rw [← HO.out]; rw [HG.out]
    have h2 : zs = [] := by rw [← HZ.out]; unfold cfL; rw [HG.out]; rfl
    subst h1 h2
    go_wp2
    go_ret2
    exact ⟨_, rfl, own_none w1 w.heap.size hsz, HB1.out.alloc hsz _⟩
  | true =>
  have h1 : ok = true := by rw [← HO.out, HG.out]
  have h2 : allP cfB cs cs.length = zs := by rw [← HZ.out]; unfold cfL; rw [HG.out]; rfl
  have c3 := Lib.hid (pairs_any 110 #[] cfB w1 (fun args w => FnEn.enter_of Try.func110 (by kernel_rfl) rfl args w) cs
    (fun i k hik hk w' hb => by
      obtain ⟨p, hp1, -, hp2⟩ := good_num HG.out (show i < cs.length by omega)
      obtain ⟨q, hq1, -, hq2⟩ := good_num HG.out hk
      exact cfo_any _ _ p q hp1 hq1 hp2 hq2 w')
    ad cap hcap HR2.out.l (good_len HG.out))
  rw [h2] at c3
  subst h1
  clear h2
  go_wp2_with fail
  refine c3.out.mono ?_
  rintro e w2 ⟨v, rfl, ho, hb⟩
  have HOw := Lib.hid ho
  have HB2 := Lib.hid (HB1.out.trans (hb.mono hsz))
  clear ho hb
  go_wp2
  go_ret2
  exact ⟨_, rfl, IntS.rebase HOw.out hsz, HB2.out⟩

set_option maxRecDepth 20000 in
set_option maxHeartbeats 4000000 in
theorem cl_spec (m : Mp) (cs : List Ct) (hl : cs.length ≤ 1048576) (hR : m.R.length ≤ maxLen) (hC : m.C.length ≤ maxLen) (D : Int) (a b : Option Addr) (ca cb : Nat) (ad : Option Addr) (cap : Nat) (w : World) (h : Rd m cs a b ad w) :
    Calls Try.prog 55 #[.agg #[.int .i64 m.W, .int .i64 m.H, .slice a m.R.length ca, .slice b m.C.length cb], .slice ad cs.length cap, .int .i64 D] w (PPost w (clL m cs D) (clO m cs D)) := by
  obtain ⟨t0, hi0, hz0, hz1, hz2⟩ := info_parts PrK.info
  have HB := Lib.hid (((Below.refl w.heap.size w).alloc (Nat.le_refl _) (.cells #[.int .i64 m.W, .int .i64 m.H, .slice a m.R.length ca, .slice b m.C.length cb] 26)).alloc (by simp) (.cells #[] 59))
  have HK := Lib.hid ((Blk.new w 26 #[.int .i64 m.W, .int .i64 m.H, .slice a m.R.length ca, .slice b m.C.length cb]).alloc (.cells #[] 59))
  have HOw := Lib.hid (own_none (w.alloc (.cells #[.int .i64 m.W, .int .i64 m.H, .slice a m.R.length ca, .slice b m.C.length cb] 26)) w.heap.size (by simp))
  have HR0 := Lib.hid h
  have HR1 := Lib.hid ((h.later ((Below.refl w.heap.size w).alloc (Nat.le_refl _) (.cells #[.int .i64 m.W, .int .i64 m.H, .slice a m.R.length ca, .slice b m.C.length cb] 26))).later ((Below.refl _ _).alloc (Nat.le_refl _) (.cells #[] 59)))
  obtain ⟨g, hg⟩ : ∃ g, goodB m cs = g := ⟨_, rfl⟩
  have c1 := Lib.hid (fun w h => hg ▸ spec_good m cs hl hR hC a b ca cb ad cap w h)
  have HG := Lib.hid hg
  obtain ⟨ok, hok⟩ : ∃ o, clO m cs D = o := ⟨_, rfl⟩
  obtain ⟨zs, hzs⟩ : ∃ z, clL m cs D = z := ⟨_, rfl⟩
  have HO := Lib.hid hok
  have HZ := Lib.hid hzs
  rw [hok, hzs]
  obtain ⟨n, hn⟩ : ∃ n, cs.length = n := ⟨_, rfl⟩
  have HN := Lib.hid hn
  rw [hn] at hl c1 ⊢
  clear h hg hok hzs hn
  go_enter Try.func55, Try.ntmps55
  go_wp2_with fail
  refine (c1.out _ HR1.out).mono ?_
  rintro e w1 ⟨rfl, hb⟩
  have HB1 := Lib.hid (HB.out.trans (hb.mono HB.out.size))
  have HK1 := Lib.hid (HK.out.later hb)
  have HOw1 := Lib.hid (HOw.out.below hb)
  obtain ⟨EB, hEB⟩ : ∃ E, (w.alloc (.cells #[.int .i64 m.W, .int .i64 m.H, .slice a m.R.length ca, .slice b m.C.length cb] 26)).heap.size = E := ⟨_, rfl⟩
  rw [hEB] at HOw1
  have hEB' : w.heap.size + 1 = EB := by rw [← hEB]; simp
  try rw [hEB]
  try rw [hEB']
  clear hb HB HK HR1 HOw hEB hEB'
  have hsz := HB1.out.size
  cases g with
  | false =>
    have h1 : ok = false := by rw [← HO.out]; unfold clO; rw [HG.out]; rfl
    have h2 : zs = [] := by rw [← HZ.out]; unfold clL; rw [HO.out, h1]; rfl
    subst h1 h2
    go_wp2
    go_ret2
    exact ⟨_, rfl, HOw1.out, HB1.out⟩
  | true =>
  by_cases hD : 0 ≤ D
  case neg =>
    have h1 : ok = false := by rw [← HO.out]; unfold clO; rw [decide_eq_false hD, Bool.and_false]
    have h2 : zs = [] := by rw [← HZ.out]; unfold clL; rw [HO.out, h1]; rfl
    have hd : decide (D < 0) = true := decide_eq_true (by omega)
    subst h1 h2
    clear hD
    go_wp2
    go_ret2
    exact ⟨_, rfl, HOw1.out, HB1.out⟩
  have hd : decide (D < 0) = false := decide_eq_false (by omega)
  have h1 : ok = true := by rw [← HO.out]; unfold clO; rw [HG.out, decide_eq_true hD]; rfl
  obtain ⟨ww, hh, gm⟩ := good_of (good_ok HG.out)
  have hW : m.W.toNat = ww := by rw [congrArg Mp.W (Cells.mp_eq gm)]; rfl
  have h2 : allP (clB ww D) cs n = zs := by rw [← HZ.out]; unfold clL; rw [HO.out, h1, hW, HN.out]; rfl
  have HZ2 := Lib.hid h2
  have HGm := Lib.hid gm
  have hn10 : n ≤ 10 := by rw [← HN.out]; exact good_len HG.out
  have HS1 := Lib.hid (show Gr w (.slice (some ⟨EB, 0, none⟩) 0 0) (allP (clB ww D) cs 0) w1 from ⟨HB1.out, HOw1.out⟩)
  subst h1
  clear h2 gm HOw1 hW hD
  go_wp2
  go_loopg [9, 10, 8] n (fun gk ii _ v wr => ∃ i : Nat, i ≤ n ∧ gk = n - i ∧ ii = .int .i64 i ∧ Gr w v (allP (clB ww D) cs i) wr ∧ Blk wr w.heap.size 26 #[.int .i64 m.W, .int .i64 m.H, .slice a m.R.length ca, .slice b m.C.length cb])
  case atStart => exact ⟨0, Nat.zero_le _, rfl, rfl, HS1.out, HK1.out⟩
  case round =>
    clear HS1 HK1 HB1 hsz
    obtain ⟨i, hi, hgk, rfl, hS, hK⟩ := hrel
    have HS := Lib.hid hS
    have HKm := Lib.hid hK
    clear hS hK
    by_cases hlt : i < n
    · have hlA := all_len (clB ww D) cs i
      rw [HN.out] at hlA
      have hlA' : (allP (clB ww D) cs i).length ≤ 100 := Nat.le_trans hlA (Nat.le_trans (Nat.mul_le_mul hi hn10) (Nat.mul_le_mul hn10 (Nat.le_refl _)))
      clear hlA
      go_wp2_with fail
      go_loopg [10, 8] (n - (i + 1)) (fun gk2 kk v wr => ∃ k : Nat, i + 1 ≤ k ∧ k ≤ n ∧ gk2 = n - k ∧ kk = .int .i64 k ∧ Gr w v (allP (clB ww D) cs i ++ rowP (clB ww D) cs i k) wr ∧ Blk wr w.heap.size 26 #[.int .i64 m.W, .int .i64 m.H, .slice a m.R.length ca, .slice b m.C.length cb])
      case atStart => exact ⟨i + 1, Nat.le_refl _, hlt, rfl, by go_num, by rw [row_none (clB ww D) cs i (i + 1) (Nat.le_refl _), List.append_nil]; exact HS.out, HKm.out⟩
      case round =>
        clear HS HKm
        obtain ⟨k, hik, hk, hgk2, rfl, hS, hK⟩ := hrel
        have HS := Lib.hid hS
        have HKm := Lib.hid hK
        clear hS hK
        by_cases hlt2 : k < n
        · obtain ⟨b1, off, rfl, x0, x1⟩ := HR0.out.l.cells (i := i) (by rw [HN.out]; exact hlt)
          obtain ⟨b', off', e, y0, y1⟩ := HR0.out.l.cells (i := k) (by rw [HN.out]; exact hlt2)
          cases e
          obtain ⟨p, hp1, hp2⟩ := good_cell HG.out HGm.out (show i < cs.length by rw [HN.out]; exact hlt)
          obtain ⟨q, hq1, hq2⟩ := good_cell HG.out HGm.out (show k < cs.length by rw [HN.out]; exact hlt2)
          obtain ⟨u, hu⟩ : ∃ u, (at_ cs i).co = u := ⟨_, rfl⟩
          obtain ⟨v, hv⟩ : ∃ u, (at_ cs k).co = u := ⟨_, rfl⟩
          rw [hu] at x0
          rw [hv] at y0
          rw [hp1] at x1
          rw [hq1] at y1
          have HF := Lib.hid (fun (wx : World) (hb : Below w.heap.size w wx) => (show wx.cell? ⟨b1, off + i * 2, none⟩ = some (.int .i64 u) ∧ wx.cell? ⟨b1, off + k * 2, none⟩ = some (.int .i64 v) ∧ wx.cell? ⟨b1, off + i * 2 + 1, none⟩ = some (.int .i64 (p : Int)) ∧ wx.cell? ⟨b1, off + k * 2 + 1, none⟩ = some (.int .i64 (q : Int)) from
            ⟨(hb.cell (World.block_lt_of_cell? _ _ x0)).trans x0, (hb.cell (World.block_lt_of_cell? _ _ y0)).trans y0, (hb.cell (World.block_lt_of_cell? _ _ x1)).trans x1, (hb.cell (World.block_lt_of_cell? _ _ y1)).trans y1⟩))
          obtain ⟨r, hr⟩ : ∃ r, apN ww p q = r := ⟨_, rfl⟩
          have C1 := Lib.hid (fun w => hr ▸ apart_any m ww hh HGm.out p q hp2 hq2 a b ca cb w)
          obtain ⟨o, ho⟩ : ∃ o, (clB ww D) (at_ cs i) (at_ cs k) = o := ⟨_, rfl⟩
          have HOo := Lib.hid (show (clB ww D) (at_ cs i) (at_ cs k) = o from ho)
          have HU := Lib.hid hu
          have HV := Lib.hid hv
          have hro : decide ((r : Int) < D) = o := by rw [← ho, ← hr]; unfold clB; rw [hp1, hq1]; rfl
          clear x0 x1 y0 y1 hp1 hq1 hu hv hr ho
          obtain ⟨k0, k1, k2, k3⟩ := HF.out wr HS.out.b
          obtain ⟨p0, p1, p2, p3, -⟩ := MapS.Blk.four HKm.out
          have hin0 : (0 : Int) ≤ (i : Int) := by omega
          have hin1 : (i : Int) < (n : Int) := by omega
          have hkn0 : (0 : Int) ≤ (k : Int) := by omega
          have hkn1 : (k : Int) < (n : Int) := by omega
          go_upto_region 10 with (fail)
          refine wp_region_noPanic ?_
          refine wp_region_held_drew (S := (fun Wx : World => Wx.cell? ⟨b1, off + i * 2 + 1, none⟩ = some (.int .i64 (p : Int)) ∧ Wx.cell? ⟨b1, off + k * 2 + 1, none⟩ = some (.int .i64 (q : Int)) ∧ Wx.cell? ⟨w.heap.size, 0, none⟩ = some (.int .i64 m.W) ∧ Wx.cell? ⟨w.heap.size, 1, none⟩ = some (.int .i64 m.H) ∧ Wx.cell? ⟨w.heap.size, 2, none⟩ = some (.slice a m.R.length ca) ∧ Wx.cell? ⟨w.heap.size, 3, none⟩ = some (.slice b m.C.length cb))) (by kernel_rfl) ⟨k2, k3, p0, p1, p2, p3⟩ (fun hHeld => ?_)
          refine wpAnyH_take (i := 0) (oi := _) (v := ?_) rfl (by kernel_rfl) (by kernel_rfl) (by kernel_rfl) (fun _ _ _ h => h) (Or.inl ⟨by rfl, ?_⟩) (by assumption) ?_; rotate_left; focus (intro W hSw; (try dsimp only at hSw); go_simp; (first | done | with_reducible rfl))
          (try simp only [List.getElem_toArray, List.getElem_cons_succ, List.getElem_cons_zero, Act.put, List.setIfInBounds_toArray, List.set_cons_zero, List.set_cons_succ])
          refine wpAnyH_take (i := 1) (oi := _) (v := ?_) rfl (by kernel_rfl) (by kernel_rfl) (by kernel_rfl) (fun _ _ _ h => h) (Or.inl ⟨by rfl, ?_⟩) (by assumption) ?_; rotate_left; focus (intro W hSw; (try dsimp only at hSw); go_simp; (first | done | with_reducible rfl))
          (try simp only [List.getElem_toArray, List.getElem_cons_succ, List.getElem_cons_zero, Act.put, List.setIfInBounds_toArray, List.set_cons_zero, List.set_cons_succ])
          refine wpAnyH_take (i := 2) (oi := _) (v := ?_) rfl (by kernel_rfl) (by kernel_rfl) (by kernel_rfl) (fun _ _ _ h => h) (Or.inl ⟨by rfl, ?_⟩) (by assumption) ?_; rotate_left; focus (intro W hSw; (try dsimp only at hSw); go_simp; (first | done | with_reducible rfl))
          (try simp only [List.getElem_toArray, List.getElem_cons_succ, List.getElem_cons_zero, Act.put, List.setIfInBounds_toArray, List.set_cons_zero, List.set_cons_succ])
          refine wpAnyH_take (i := 3) (oi := _) (v := ?_) rfl (by kernel_rfl) (by kernel_rfl) (by kernel_rfl) (fun _ _ _ h => h) (Or.inl ⟨by rfl, ?_⟩) (by assumption) ?_; rotate_left; focus (intro W hSw; (try dsimp only at hSw); go_simp; (first | done | with_reducible rfl))
          (try simp only [List.getElem_toArray, List.getElem_cons_succ, List.getElem_cons_zero, Act.put, List.setIfInBounds_toArray, List.set_cons_zero, List.set_cons_succ])
          refine wpAnyH_take (i := 4) (oi := _) (v := ?_) rfl (by kernel_rfl) (by kernel_rfl) (by kernel_rfl) (fun _ _ _ h => h) (Or.inl ⟨by rfl, ?_⟩) (by assumption) ?_; rotate_left; focus (intro W hSw; (try dsimp only at hSw); go_simp; (first | done | with_reducible rfl))
          (try simp only [List.getElem_toArray, List.getElem_cons_succ, List.getElem_cons_zero, Act.put, List.setIfInBounds_toArray, List.set_cons_zero, List.set_cons_succ])
          refine wpAnyH_take (i := 5) (oi := _) (v := ?_) rfl (by kernel_rfl) (by kernel_rfl) (by kernel_rfl) (fun _ _ _ h => h) (Or.inl ⟨by rfl, ?_⟩) (by assumption) ?_; rotate_left; focus (intro W hSw; (try dsimp only at hSw); go_simp; (first | done | with_reducible rfl))
          (try simp only [List.getElem_toArray, List.getElem_cons_succ, List.getElem_cons_zero, Act.put, List.setIfInBounds_toArray, List.set_cons_zero, List.set_cons_succ])
          refine wpAnyH_take (i := 6) (oi := _) (v := ?_) rfl (by kernel_rfl) (by kernel_rfl) (by kernel_rfl) (fun _ _ _ h => h) (Or.inl ⟨by rfl, ?_⟩) (by assumption) ?_; rotate_left; focus (intro W hSw; (try dsimp only at hSw); go_simp; (first | done | with_reducible rfl))
          (try simp only [List.getElem_toArray, List.getElem_cons_succ, List.getElem_cons_zero, Act.put, List.setIfInBounds_toArray, List.set_cons_zero, List.set_cons_succ])
          refine wpAnyH_take (i := 7) (oi := _) (v := ?_) rfl (by kernel_rfl) (by kernel_rfl) (by kernel_rfl) (fun _ _ _ h => h) (Or.inl ⟨by rfl, ?_⟩) (by assumption) ?_; rotate_left; focus (intro W hSw; (try dsimp only at hSw); go_simp; (first | done | with_reducible rfl))
          (try simp only [List.getElem_toArray, List.getElem_cons_succ, List.getElem_cons_zero, Act.put, List.setIfInBounds_toArray, List.set_cons_zero, List.set_cons_succ])
          refine wpAnyH_take (i := 8) (oi := _) (v := ?_) rfl (by kernel_rfl) (by kernel_rfl) (by kernel_rfl) (fun _ _ _ h => h) (Or.inl ⟨by rfl, ?_⟩) (by assumption) ?_; rotate_left; focus (intro W hSw; (try dsimp only at hSw); go_simp; (first | done | with_reducible rfl))
          (try simp only [List.getElem_toArray, List.getElem_cons_succ, List.getElem_cons_zero, Act.put, List.setIfInBounds_toArray, List.set_cons_zero, List.set_cons_succ])
          refine wpAnyH_take (i := 9) (oi := _) (v := ?_) rfl (by kernel_rfl) (by kernel_rfl) (by kernel_rfl) (fun _ _ _ h => h) (Or.inl ⟨by rfl, ?_⟩) (by assumption) ?_; rotate_left; focus (intro W hSw; (try dsimp only at hSw); go_simp; (first | done | with_reducible rfl))
          (try simp only [List.getElem_toArray, List.getElem_cons_succ, List.getElem_cons_zero, Act.put, List.setIfInBounds_toArray, List.set_cons_zero, List.set_cons_succ])
          refine wpAnyH_take (i := 10) (oi := _) (v := ?_) rfl (by kernel_rfl) (by kernel_rfl) (by kernel_rfl) (fun _ _ _ h => h) (Or.inl ⟨by rfl, ?_⟩) (by assumption) ?_; rotate_left; focus (intro W hSw; (try dsimp only at hSw); go_simp; (first | done | with_reducible rfl))
          (try simp only [List.getElem_toArray, List.getElem_cons_succ, List.getElem_cons_zero, Act.put, List.setIfInBounds_toArray, List.set_cons_zero, List.set_cons_succ])
          refine wpAnyH_take (i := 12) (oi := _) (v := ?_) rfl (by kernel_rfl) (by kernel_rfl) (by kernel_rfl) (fun _ _ _ h => h) (Or.inl ⟨by rfl, ?_⟩) (by assumption) ?_; rotate_left; focus (intro W hSw; (try dsimp only at hSw); go_simp; (first | done | with_reducible rfl))
          (try simp only [List.getElem_toArray, List.getElem_cons_succ, List.getElem_cons_zero, Act.put, List.setIfInBounds_toArray, List.set_cons_zero, List.set_cons_succ])
          refine wpAnyH_ready (rs := [11]) (by kernel_rfl) (by simp) ?_
          refine AllReadyH.cons (o := _) rfl (fun K hK => ?_) AllReadyH.nil
          go_simp
          go_at_call 114
          refine (C1.out _).mono ?_
          rintro e w2 ⟨rfl, hb⟩
          have HS2 := Lib.hid (show Gr w _ _ w2 from (HS.out.below (Below.refl _ _).drew).below hb)
          have HKm2 := Lib.hid (show Blk w2 w.heap.size 26 #[.int .i64 m.W, .int .i64 m.H, .slice a m.R.length ca, .slice b m.C.length cb] from (show Blk wr.drew w.heap.size 26 #[.int .i64 m.W, .int .i64 m.H, .slice a m.R.length ca, .slice b m.C.length cb] from HKm.out).later hb)
          obtain ⟨q0, q1, q2, q3, -⟩ := MapS.Blk.four HKm2.out
          obtain ⟨k0', k1', k2', k3'⟩ := HF.out w2 HS2.out.b
          clear hb
          go_wp2_with fail
          refine hK.out _ _ ⟨k2', k3', q0, q1, q2, q3⟩ (fun _ => ?_)
          clear hK K hHeld k0' k1' k2' k3' q0 q1 q2 q3
          refine wpAnyH_take (i := 13) (oi := _) (v := ?_) rfl (by kernel_rfl) (by kernel_rfl) (by kernel_rfl) (fun _ _ _ h => h) (Or.inl ⟨by rfl, ?_⟩) (by assumption) ?_; rotate_left; focus (intro W hSw; (try dsimp only at hSw); go_simp; (first | done | with_reducible rfl))
          (try simp only [List.getElem_toArray, List.getElem_cons_succ, List.getElem_cons_zero, Act.put, List.setIfInBounds_toArray, List.set_cons_zero, List.set_cons_succ])
          refine wpAnyH_done (by kernel_rfl) ?_ _
          refine NoPanic.normal ?_
          (try simp only [List.getElem_toArray, List.getElem_cons_succ, List.getElem_cons_zero, Act.put, List.setIfInBounds_toArray, List.set_cons_zero, List.set_cons_succ])
          clear p0 p1 p2 p3 k0 k1 k2 k3
          clear hro
          cases o with
          | false =>
            have HSk := Lib.hid (row_no (p := (clB ww D)) (cs := cs) (i := i) (k := k) HOo.out)
            go_wp2_with fail
            go_roundg (n - (k + 1))
            case measure => omega
            case rel => exact ⟨k + 1, by omega, by omega, rfl, by go_num, by rw [HSk.out]; exact HS2.out, HKm2.out⟩
          | true =>
            have HTk := Lib.hid (row_yes (p := (clB ww D)) (cs := cs) (i := i) (k := k) (by omega) HOo.out)
            obtain ⟨xs, hxs⟩ : ∃ xs, allP (clB ww D) cs i ++ rowP (clB ww D) cs i k = xs := ⟨_, rfl⟩
            have HXS := Lib.hid hxs
            rw [hxs] at HS2
            have hml : xs.length ≤ 111 := by
              rw [← hxs, List.length_append]
              have := row_len (clB ww D) cs i k
              omega
            obtain ⟨mm, hm⟩ : ∃ mm, xs.length = mm := ⟨_, rfl⟩
            rw [hm] at hml
            have HM := Lib.hid hm
            clear hm hxs hlA'
            have HG0 := Lib.hid (show A3.G3 w 59 2 w2 u8 mm (PrK.cells xs) from ⟨HS2.out.b, by have h := HS2.out.own; unfold PrK.Own at h; rw [HM.out] at h; exact h⟩)
            clear HS2
            go_upto_region 11 with (fail)
            refine wp_region_noPanic ?_
            refine wp_region_held_drew (S := (fun Wx : World => Wx.cell? ⟨b1, off + i * 2, none⟩ = some (.int .i64 u) ∧ Wx.cell? ⟨b1, off + k * 2, none⟩ = some (.int .i64 v) ∧ Wx.cell? ⟨b1, off + i * 2 + 1, none⟩ = some (.int .i64 (p : Int)) ∧ Wx.cell? ⟨b1, off + k * 2 + 1, none⟩ = some (.int .i64 (q : Int)))) (by kernel_rfl) (HF.out w2.drew HG0.out.b.drew) (fun hHeld => ?_)
            refine wpAnyH_take (i := 0) (oi := _) (v := ?_) rfl (by kernel_rfl) (by kernel_rfl) (by kernel_rfl) (fun _ _ _ h => h) (Or.inl ⟨by rfl, ?_⟩) (by assumption) ?_; rotate_left; focus (intro W hSw; (try dsimp only at hSw); go_simp; (first | done | with_reducible rfl))
            (try simp only [List.getElem_toArray, List.getElem_cons_succ, List.getElem_cons_zero, Act.put, List.setIfInBounds_toArray, List.set_cons_zero, List.set_cons_succ])
            refine wpAnyH_take (i := 1) (oi := _) (v := ?_) rfl (by kernel_rfl) (by kernel_rfl) (by kernel_rfl) (fun _ _ _ h => h) (Or.inl ⟨by rfl, ?_⟩) (by assumption) ?_; rotate_left; focus (intro W hSw; (try dsimp only at hSw); go_simp; (first | done | with_reducible rfl))
            (try simp only [List.getElem_toArray, List.getElem_cons_succ, List.getElem_cons_zero, Act.put, List.setIfInBounds_toArray, List.set_cons_zero, List.set_cons_succ])
            refine wpAnyH_take (i := 2) (oi := _) (v := ?_) rfl (by kernel_rfl) (by kernel_rfl) (by kernel_rfl) (fun _ _ _ h => h) (Or.inl ⟨by rfl, ?_⟩) (by assumption) ?_; rotate_left; focus (intro W hSw; (try dsimp only at hSw); go_simp; (first | done | with_reducible rfl))
            (try simp only [List.getElem_toArray, List.getElem_cons_succ, List.getElem_cons_zero, Act.put, List.setIfInBounds_toArray, List.set_cons_zero, List.set_cons_succ])
            refine wpAnyH_take (i := 3) (oi := _) (v := ?_) rfl (by kernel_rfl) (by kernel_rfl) (by kernel_rfl) (fun _ _ _ h => h) (Or.inl ⟨by rfl, ?_⟩) (by assumption) ?_; rotate_left; focus (intro W hSw; (try dsimp only at hSw); go_simp; (first | done | with_reducible rfl))
            (try simp only [List.getElem_toArray, List.getElem_cons_succ, List.getElem_cons_zero, Act.put, List.setIfInBounds_toArray, List.set_cons_zero, List.set_cons_succ])
            refine wpAnyH_take (i := 4) (oi := _) (v := ?_) rfl (by kernel_rfl) (by kernel_rfl) (by kernel_rfl) (fun _ _ _ h => h) (Or.inl ⟨by rfl, ?_⟩) (by assumption) ?_; rotate_left; focus (intro W hSw; (try dsimp only at hSw); go_simp; (first | done | with_reducible rfl))
            (try simp only [List.getElem_toArray, List.getElem_cons_succ, List.getElem_cons_zero, Act.put, List.setIfInBounds_toArray, List.set_cons_zero, List.set_cons_succ])
            refine wpAnyH_take (i := 5) (oi := _) (v := ?_) rfl (by kernel_rfl) (by kernel_rfl) (by kernel_rfl) (fun _ _ _ h => h) (Or.inl ⟨by rfl, ?_⟩) (by assumption) ?_; rotate_left; focus (intro W hSw; (try dsimp only at hSw); go_simp; (first | done | with_reducible rfl))
            (try simp only [List.getElem_toArray, List.getElem_cons_succ, List.getElem_cons_zero, Act.put, List.setIfInBounds_toArray, List.set_cons_zero, List.set_cons_succ])
            refine wpAnyH_take (i := 6) (oi := _) (v := ?_) rfl (by kernel_rfl) (by kernel_rfl) (by kernel_rfl) (fun _ _ _ h => h) (Or.inl ⟨by rfl, ?_⟩) (by assumption) ?_; rotate_left; focus (intro W hSw; (try dsimp only at hSw); go_simp; (first | done | with_reducible rfl))
            (try simp only [List.getElem_toArray, List.getElem_cons_succ, List.getElem_cons_zero, Act.put, List.setIfInBounds_toArray, List.set_cons_zero, List.set_cons_succ])
            refine wpAnyH_take (i := 7) (oi := _) (v := ?_) rfl (by kernel_rfl) (by kernel_rfl) (by kernel_rfl) (fun _ _ _ h => h) (Or.inl ⟨by rfl, ?_⟩) (by assumption) ?_; rotate_left; focus (intro W hSw; (try dsimp only at hSw); go_simp; (first | done | with_reducible rfl))
            (try simp only [List.getElem_toArray, List.getElem_cons_succ, List.getElem_cons_zero, Act.put, List.setIfInBounds_toArray, List.set_cons_zero, List.set_cons_succ])
            refine wpAnyH_take (i := 8) (oi := _) (v := ?_) rfl (by kernel_rfl) (by kernel_rfl) (by kernel_rfl) (fun _ _ _ h => h) (Or.inl ⟨by rfl, ?_⟩) (by assumption) ?_; rotate_left; focus (intro W hSw; (try dsimp only at hSw); go_simp; (first | done | with_reducible rfl))
            (try simp only [List.getElem_toArray, List.getElem_cons_succ, List.getElem_cons_zero, Act.put, List.setIfInBounds_toArray, List.set_cons_zero, List.set_cons_succ])
            refine wpAnyH_take (i := 9) (oi := _) (v := ?_) rfl (by kernel_rfl) (by kernel_rfl) (by kernel_rfl) (fun _ _ _ h => h) (Or.inl ⟨by rfl, ?_⟩) (by assumption) ?_; rotate_left; focus (intro W hSw; (try dsimp only at hSw); go_simp; (first | done | with_reducible rfl))
            (try simp only [List.getElem_toArray, List.getElem_cons_succ, List.getElem_cons_zero, Act.put, List.setIfInBounds_toArray, List.set_cons_zero, List.set_cons_succ])
            refine wpAnyH_take (i := 10) (oi := _) (v := ?_) rfl (by kernel_rfl) (by kernel_rfl) (by kernel_rfl) (fun _ _ _ h => h) (Or.inl ⟨by rfl, ?_⟩) (by assumption) ?_; rotate_left; focus (intro W hSw; (try dsimp only at hSw); go_simp; (first | done | with_reducible rfl))
            (try simp only [List.getElem_toArray, List.getElem_cons_succ, List.getElem_cons_zero, Act.put, List.setIfInBounds_toArray, List.set_cons_zero, List.set_cons_succ])
            refine wpAnyH_take (i := 11) (oi := _) (v := ?_) rfl (by kernel_rfl) (by kernel_rfl) (by kernel_rfl) (fun _ _ _ h => h) (Or.inl ⟨by rfl, ?_⟩) (by assumption) ?_; rotate_left; focus (intro W hSw; (try dsimp only at hSw); go_simp; (first | done | with_reducible rfl))
            (try simp only [List.getElem_toArray, List.getElem_cons_succ, List.getElem_cons_zero, Act.put, List.setIfInBounds_toArray, List.set_cons_zero, List.set_cons_succ])
            refine wpAnyH_ready (rs := [12]) (by kernel_rfl) (by simp) ?_
            refine AllReadyH.cons (o := _) rfl (fun K hK => ?_) AllReadyH.nil
            go_simp
            have HGd := Lib.hid (HG0.out.drew)
            have HX := Lib.hid (Blk.new w2.drew 59 #[.int .i64 u, .int .i64 v])
            have HGa := Lib.hid (HGd.out.alloc (.cells #[.int .i64 u, .int .i64 v] 59))
            have HKa := Lib.hid ((show Blk w2.drew w.heap.size 26 #[.int .i64 m.W, .int .i64 m.H, .slice a m.R.length ca, .slice b m.C.length cb] from HKm2.out).alloc (.cells #[.int .i64 u, .int .i64 v] 59))
            refine hK.out _ _ (HF.out _ HGa.out.b) (fun _ => ?_)
            clear hK K hHeld
            refine wpAnyH_ready (rs := [13]) (by kernel_rfl) (by simp) ?_
            refine AllReadyH.cons (o := _) rfl (fun K hK => ?_) AllReadyH.nil
            rw [if_pos (by rfl)]
            refine HGa.out.wp (.tmp 49) (.tmp 61) 53 rfl Try.underlying53 t0 hi0 (.agg #[.int .i64 (PrK.no).a, .int .i64 (PrK.no).b]) hz0 16 hz1 hz2 rfl (by decide) (by rfl) ⟨_, 0, none⟩ 1 1 [.int .i64 u, .int .i64 v] (by (try simp only [Act.eval, Act.put]); rfl) rfl (A3.blk_news HX.out) (by simp [Value.oneCell']) (by unfold maxLen; omega) (by omega) ?_
            intro v3 w3 hg hgr
            have HG3 := Lib.hid hg
            have HK3 := Lib.hid (show Blk w3 w.heap.size 26 #[.int .i64 m.W, .int .i64 m.H, .slice a m.R.length ca, .slice b m.C.length cb] from (hgr.block _ HKa.out.lt (fun e => PrK_ne HGa.out.own HKa.out e.symm)).trans HKa.out)
            clear hg hgr
            (try simp only [Act.put, List.setIfInBounds_toArray, List.set_cons_zero, List.set_cons_succ])
            refine hK.out _ _ (HF.out _ HG3.out.b) (fun _ => ?_)
            clear hK K
            refine wpAnyH_take (i := 14) (oi := _) (v := ?_) rfl (by kernel_rfl) (by kernel_rfl) (by kernel_rfl) (fun _ _ _ h => h) (Or.inl ⟨by rfl, ?_⟩) (by assumption) ?_; rotate_left; focus (intro W hSw; (try dsimp only at hSw); go_simp; (first | done | with_reducible rfl))
            (try simp only [List.getElem_toArray, List.getElem_cons_succ, List.getElem_cons_zero, Act.put, List.setIfInBounds_toArray, List.set_cons_zero, List.set_cons_succ])
            refine wpAnyH_done (by kernel_rfl) ?_ _
            refine NoPanic.normal ?_
            (try simp only [List.getElem_toArray, List.getElem_cons_succ, List.getElem_cons_zero, Act.put, List.setIfInBounds_toArray, List.set_cons_zero, List.set_cons_succ])
            have HP3 := Lib.hid (show Gr w v3 (xs ++ [⟨u, v⟩]) w3 from ⟨HG3.out.b, by unfold PrK.Own; rw [PrK.cells_app, List.length_append, HM.out]; exact HG3.out.own⟩)
            go_wp2_with fail
            go_roundg (n - (k + 1))
            case measure => omega
            case rel => exact ⟨k + 1, by omega, by omega, rfl, by go_num, by rw [HTk.out, ← List.append_assoc, HXS.out, HU.out, HV.out]; exact HP3.out, HK3.out⟩
        · obtain rfl : k = n := by omega
          have HE := Lib.hid (show Gr w u8 (allP (clB ww D) cs (i + 1)) wr from by
            have h := HS.out
            rw [allP, HN.out]
            exact h)
          go_wp2
          go_roundg (k - (i + 1))
          case measure => omega
          case rel => exact ⟨i + 1, by omega, rfl, by go_num, HE.out, HKm.out⟩
    · obtain rfl : i = n := by omega
      have HE := Lib.hid (show PrK.Own wr w.heap.size u8 zs from by have h := HS.out.own; rw [HZ2.out] at h; exact h)
      go_wp2
      go_ret2
      exact ⟨_, rfl, HE.out, HS.out.b⟩

set_option maxRecDepth 20000 in
set_option maxHeartbeats 4000000 in
theorem cf_spec (m : Mp) (cs : List Ct) (hl : cs.length ≤ 1048576) (hR : m.R.length ≤ maxLen) (hC : m.C.length ≤ maxLen) (a b : Option Addr) (ca cb : Nat) (ad : Option Addr) (cap : Nat) (w : World) (h : Rd m cs a b ad w) :
    Calls Try.prog 51 #[.agg #[.int .i64 m.W, .int .i64 m.H, .slice a m.R.length ca, .slice b m.C.length cb], .slice ad cs.length cap] w (PPost w (cfL m cs) (goodB m cs)) := by
  obtain ⟨t0, hi0, hz0, hz1, hz2⟩ := info_parts PrK.info
  have HB := Lib.hid (((Below.refl w.heap.size w).alloc (Nat.le_refl _) (.cells #[.int .i64 m.W, .int .i64 m.H, .slice a m.R.length ca, .slice b m.C.length cb] 26)).alloc (by simp) (.cells #[] 59))
  have HK := Lib.hid ((Blk.new w 26 #[.int .i64 m.W, .int .i64 m.H, .slice a m.R.length ca, .slice b m.C.length cb]).alloc (.cells #[] 59))
  have HOw := Lib.hid (own_none (w.alloc (.cells #[.int .i64 m.W, .int .i64 m.H, .slice a m.R.length ca, .slice b m.C.length cb] 26)) w.heap.size (by simp))
  have HR0 := Lib.hid h
  have HR1 := Lib.hid ((h.later ((Below.refl w.heap.size w).alloc (Nat.le_refl _) (.cells #[.int .i64 m.W, .int .i64 m.H, .slice a m.R.length ca, .slice b m.C.length cb] 26))).later ((Below.refl _ _).alloc (Nat.le_refl _) (.cells #[] 59)))
  obtain ⟨g, hg⟩ : ∃ g, goodB m cs = g := ⟨_, rfl⟩
  have c1 := Lib.hid (fun w h => hg ▸ spec_good m cs hl hR hC a b ca cb ad cap w h)
  have HG := Lib.hid hg
  obtain ⟨ok, hok⟩ : ∃ o, goodB m cs = o := ⟨_, rfl⟩
  obtain ⟨zs, hzs⟩ : ∃ z, cfL m cs = z := ⟨_, rfl⟩
  have HO := Lib.hid hok
  have HZ := Lib.hid hzs
  rw [hok, hzs]
  obtain ⟨n, hn⟩ : ∃ n, cs.length = n := ⟨_, rfl⟩
  have HN := Lib.hid hn
  rw [hn] at hl c1 ⊢
  clear h hg hok hzs hn
  go_enter Try.func51, Try.ntmps51
  go_wp2_with fail
  refine (c1.out _ HR1.out).mono ?_
  rintro e w1 ⟨rfl, hb⟩
  have HB1 := Lib.hid (HB.out.trans (hb.mono HB.out.size))
  have HK1 := Lib.hid (HK.out.later hb)
  have HOw1 := Lib.hid (HOw.out.below hb)
  obtain ⟨EB, hEB⟩ : ∃ E, (w.alloc (.cells #[.int .i64 m.W, .int .i64 m.H, .slice a m.R.length ca, .slice b m.C.length cb] 26)).heap.size = E := ⟨_, rfl⟩
  rw [hEB] at HOw1
  have hEB' : w.heap.size + 1 = EB := by rw [← hEB]; simp
  try rw [hEB]
  try rw [hEB']
  clear hb HB HK HR1 HOw hEB hEB'
  have hsz := HB1.out.size
  cases g with
  | false =>
    have h1 : ok = false := by rw [← HO.out]; rw [HG.out]
    have h2 : zs = [] := by rw [← HZ.out]; unfold cfL; rw [HG.out]; rfl
    subst h1 h2
    go_wp2
    go_ret2
    exact ⟨_, rfl, HOw1.out, HB1.out⟩
  | true =>
  have h1 : ok = true := by rw [← HO.out, HG.out]
  obtain ⟨ww, hh, gm⟩ := good_of (good_ok HG.out)
  have h2 : allP cfB cs n = zs := by rw [← HZ.out]; unfold cfL; rw [HG.out, HN.out]; rfl
  have HZ2 := Lib.hid h2
  have HGm := Lib.hid gm
  have hn10 : n ≤ 10 := by rw [← HN.out]; exact good_len HG.out
  have HS1 := Lib.hid (show Gr w (.slice (some ⟨EB, 0, none⟩) 0 0) (allP cfB cs 0) w1 from ⟨HB1.out, HOw1.out⟩)
  subst h1
  clear h2 gm HOw1
  go_wp2
  go_loopg [7, 8, 6] n (fun gk ii _ v wr => ∃ i : Nat, i ≤ n ∧ gk = n - i ∧ ii = .int .i64 i ∧ Gr w v (allP cfB cs i) wr ∧ Blk wr w.heap.size 26 #[.int .i64 m.W, .int .i64 m.H, .slice a m.R.length ca, .slice b m.C.length cb])
  case atStart => exact ⟨0, Nat.zero_le _, rfl, rfl, HS1.out, HK1.out⟩
  case round =>
    clear HS1 HK1 HB1 hsz
    obtain ⟨i, hi, hgk, rfl, hS, hK⟩ := hrel
    have HS := Lib.hid hS
    have HKm := Lib.hid hK
    clear hS hK
    by_cases hlt : i < n
    · have hlA := all_len cfB cs i
      rw [HN.out] at hlA
      have hlA' : (allP cfB cs i).length ≤ 100 := Nat.le_trans hlA (Nat.le_trans (Nat.mul_le_mul hi hn10) (Nat.mul_le_mul hn10 (Nat.le_refl _)))
      clear hlA
      go_wp2_with fail
      go_loopg [8, 6] (n - (i + 1)) (fun gk2 kk v wr => ∃ k : Nat, i + 1 ≤ k ∧ k ≤ n ∧ gk2 = n - k ∧ kk = .int .i64 k ∧ Gr w v (allP cfB cs i ++ rowP cfB cs i k) wr ∧ Blk wr w.heap.size 26 #[.int .i64 m.W, .int .i64 m.H, .slice a m.R.length ca, .slice b m.C.length cb])
      case atStart => exact ⟨i + 1, Nat.le_refl _, hlt, rfl, by go_num, by rw [row_none cfB cs i (i + 1) (Nat.le_refl _), List.append_nil]; exact HS.out, HKm.out⟩
      case round =>
        clear HS HKm
        obtain ⟨k, hik, hk, hgk2, rfl, hS, hK⟩ := hrel
        have HS := Lib.hid hS
        have HKm := Lib.hid hK
        clear hS hK
        by_cases hlt2 : k < n
        · obtain ⟨b1, off, rfl, x0, x1⟩ := HR0.out.l.cells (i := i) (by rw [HN.out]; exact hlt)
          obtain ⟨b', off', e, y0, y1⟩ := HR0.out.l.cells (i := k) (by rw [HN.out]; exact hlt2)
          cases e
          obtain ⟨p, hp1, -, hp2⟩ := good_num HG.out (show i < cs.length by rw [HN.out]; exact hlt)
          obtain ⟨q, hq1, -, hq2⟩ := good_num HG.out (show k < cs.length by rw [HN.out]; exact hlt2)
          obtain ⟨u, hu⟩ : ∃ u, (at_ cs i).co = u := ⟨_, rfl⟩
          obtain ⟨v, hv⟩ : ∃ u, (at_ cs k).co = u := ⟨_, rfl⟩
          rw [hu] at x0
          rw [hv] at y0
          have hup : u = (p : Int) := hu.symm.trans hp1
          have hvq : v = (q : Int) := hv.symm.trans hq1
          have hpq : p ≠ q := fun e => by
            have := (good_asc HG.out).lt (show i < k by omega) (show k < cs.length by rw [HN.out]; exact hlt2)
            rw [hp1, hq1, e] at this
            omega
          have HF := Lib.hid (fun (wx : World) (hb : Below w.heap.size w wx) => (show wx.cell? ⟨b1, off + i * 2, none⟩ = some (.int .i64 u) ∧ wx.cell? ⟨b1, off + k * 2, none⟩ = some (.int .i64 v) from
            ⟨(hb.cell (World.block_lt_of_cell? _ _ x0)).trans x0, (hb.cell (World.block_lt_of_cell? _ _ y0)).trans y0⟩))
          obtain ⟨r, hr⟩ : ∃ r, lkN p q = r := ⟨_, rfl⟩
          have C1 := Lib.hid (fun w => hr ▸ like_any p q (by omega) (by omega) hpq w)
          obtain ⟨o, ho⟩ : ∃ o, cfB (at_ cs i) (at_ cs k) = o := ⟨_, rfl⟩
          have HOo := Lib.hid (show cfB (at_ cs i) (at_ cs k) = o from ho)
          have HU := Lib.hid hu
          have HV := Lib.hid hv
          have hro : o = r := by rw [← ho, ← hr]; unfold cfB; rw [hp1, hq1]; rfl
          clear x0 x1 y0 y1 hp1 hq1 hu hv hr ho
          obtain ⟨k0, k1⟩ := HF.out wr HS.out.b
          obtain ⟨p0, p1, p2, p3, -⟩ := MapS.Blk.four HKm.out
          have hin0 : (0 : Int) ≤ (i : Int) := by omega
          have hin1 : (i : Int) < (n : Int) := by omega
          have hkn0 : (0 : Int) ≤ (k : Int) := by omega
          have hkn1 : (k : Int) < (n : Int) := by omega
          go_upto_region 10 with (fail)
          refine wp_region_noPanic ?_
          refine wp_region_held_drew (S := (fun Wx : World => Wx.cell? ⟨b1, off + i * 2, none⟩ = some (.int .i64 u) ∧ Wx.cell? ⟨b1, off + k * 2, none⟩ = some (.int .i64 v))) (by kernel_rfl) ⟨k0, k1⟩ (fun hHeld => ?_)
          refine wpAnyH_take (i := 0) (oi := _) (v := ?_) rfl (by kernel_rfl) (by kernel_rfl) (by kernel_rfl) (fun _ _ _ h => h) (Or.inl ⟨by rfl, ?_⟩) (by assumption) ?_; rotate_left; focus (intro W hSw; (try dsimp only at hSw); go_simp; (first | done | with_reducible rfl))
          (try simp only [List.getElem_toArray, List.getElem_cons_succ, List.getElem_cons_zero, Act.put, List.setIfInBounds_toArray, List.set_cons_zero, List.set_cons_succ])
          refine wpAnyH_take (i := 1) (oi := _) (v := ?_) rfl (by kernel_rfl) (by kernel_rfl) (by kernel_rfl) (fun _ _ _ h => h) (Or.inl ⟨by rfl, ?_⟩) (by assumption) ?_; rotate_left; focus (intro W hSw; (try dsimp only at hSw); go_simp; (first | done | with_reducible rfl))
          (try simp only [List.getElem_toArray, List.getElem_cons_succ, List.getElem_cons_zero, Act.put, List.setIfInBounds_toArray, List.set_cons_zero, List.set_cons_succ])
          refine wpAnyH_take (i := 2) (oi := _) (v := ?_) rfl (by kernel_rfl) (by kernel_rfl) (by kernel_rfl) (fun _ _ _ h => h) (Or.inl ⟨by rfl, ?_⟩) (by assumption) ?_; rotate_left; focus (intro W hSw; (try dsimp only at hSw); go_simp; (first | done | with_reducible rfl))
          (try simp only [List.getElem_toArray, List.getElem_cons_succ, List.getElem_cons_zero, Act.put, List.setIfInBounds_toArray, List.set_cons_zero, List.set_cons_succ])
          refine wpAnyH_take (i := 3) (oi := _) (v := ?_) rfl (by kernel_rfl) (by kernel_rfl) (by kernel_rfl) (fun _ _ _ h => h) (Or.inl ⟨by rfl, ?_⟩) (by assumption) ?_; rotate_left; focus (intro W hSw; (try dsimp only at hSw); go_simp; (first | done | with_reducible rfl))
          (try simp only [List.getElem_toArray, List.getElem_cons_succ, List.getElem_cons_zero, Act.put, List.setIfInBounds_toArray, List.set_cons_zero, List.set_cons_succ])
          refine wpAnyH_take (i := 4) (oi := _) (v := ?_) rfl (by kernel_rfl) (by kernel_rfl) (by kernel_rfl) (fun _ _ _ h => h) (Or.inl ⟨by rfl, ?_⟩) (by assumption) ?_; rotate_left; focus (intro W hSw; (try dsimp only at hSw); go_simp; (first | done | with_reducible rfl))
          (try simp only [List.getElem_toArray, List.getElem_cons_succ, List.getElem_cons_zero, Act.put, List.setIfInBounds_toArray, List.set_cons_zero, List.set_cons_succ])
          refine wpAnyH_take (i := 5) (oi := _) (v := ?_) rfl (by kernel_rfl) (by kernel_rfl) (by kernel_rfl) (fun _ _ _ h => h) (Or.inl ⟨by rfl, ?_⟩) (by assumption) ?_; rotate_left; focus (intro W hSw; (try dsimp only at hSw); go_simp; (first | done | with_reducible rfl))
          (try simp only [List.getElem_toArray, List.getElem_cons_succ, List.getElem_cons_zero, Act.put, List.setIfInBounds_toArray, List.set_cons_zero, List.set_cons_succ])
          refine wpAnyH_take (i := 6) (oi := _) (v := ?_) rfl (by kernel_rfl) (by kernel_rfl) (by kernel_rfl) (fun _ _ _ h => h) (Or.inl ⟨by rfl, ?_⟩) (by assumption) ?_; rotate_left; focus (intro W hSw; (try dsimp only at hSw); go_simp; (first | done | with_reducible rfl))
          (try simp only [List.getElem_toArray, List.getElem_cons_succ, List.getElem_cons_zero, Act.put, List.setIfInBounds_toArray, List.set_cons_zero, List.set_cons_succ])
          refine wpAnyH_take (i := 7) (oi := _) (v := ?_) rfl (by kernel_rfl) (by kernel_rfl) (by kernel_rfl) (fun _ _ _ h => h) (Or.inl ⟨by rfl, ?_⟩) (by assumption) ?_; rotate_left; focus (intro W hSw; (try dsimp only at hSw); go_simp; (first | done | with_reducible rfl))
          (try simp only [List.getElem_toArray, List.getElem_cons_succ, List.getElem_cons_zero, Act.put, List.setIfInBounds_toArray, List.set_cons_zero, List.set_cons_succ])
          refine wpAnyH_take (i := 8) (oi := _) (v := ?_) rfl (by kernel_rfl) (by kernel_rfl) (by kernel_rfl) (fun _ _ _ h => h) (Or.inl ⟨by rfl, ?_⟩) (by assumption) ?_; rotate_left; focus (intro W hSw; (try dsimp only at hSw); go_simp; (first | done | with_reducible rfl))
          (try simp only [List.getElem_toArray, List.getElem_cons_succ, List.getElem_cons_zero, Act.put, List.setIfInBounds_toArray, List.set_cons_zero, List.set_cons_succ])
          refine wpAnyH_take (i := 9) (oi := _) (v := ?_) rfl (by kernel_rfl) (by kernel_rfl) (by kernel_rfl) (fun _ _ _ h => h) (Or.inl ⟨by rfl, ?_⟩) (by assumption) ?_; rotate_left; focus (intro W hSw; (try dsimp only at hSw); go_simp; (first | done | with_reducible rfl))
          (try simp only [List.getElem_toArray, List.getElem_cons_succ, List.getElem_cons_zero, Act.put, List.setIfInBounds_toArray, List.set_cons_zero, List.set_cons_succ])
          refine wpAnyH_ready (rs := [10]) (by kernel_rfl) (by simp) ?_
          refine AllReadyH.cons (o := _) rfl (fun K hK => ?_) AllReadyH.nil
          go_simp
          go_at_call 108
          refine (C1.out _).mono ?_
          rintro e w2 ⟨rfl, hw2⟩
          have HS2 := Lib.hid (show Gr w _ _ w2 from by rw [hw2]; exact HS.out.below (Below.refl _ _).drew)
          have HKm2 := Lib.hid (show Blk w2 w.heap.size 26 #[.int .i64 m.W, .int .i64 m.H, .slice a m.R.length ca, .slice b m.C.length cb] from by rw [hw2]; exact HKm.out)
          clear hw2
          go_wp2_with fail
          refine hK.out _ _ (HF.out w2 HS2.out.b) (fun _ => ?_)
          clear hK K hHeld
          refine wpAnyH_done (by kernel_rfl) ?_ _
          refine NoPanic.normal ?_
          (try simp only [List.getElem_toArray, List.getElem_cons_succ, List.getElem_cons_zero, Act.put, List.setIfInBounds_toArray, List.set_cons_zero, List.set_cons_succ])
          clear p0 p1 p2 p3 k0 k1
          subst hro
          clear hup hvq hpq
          cases o with
          | false =>
            have HSk := Lib.hid (row_no (p := cfB) (cs := cs) (i := i) (k := k) HOo.out)
            go_wp2_with fail
            go_roundg (n - (k + 1))
            case measure => omega
            case rel => exact ⟨k + 1, by omega, by omega, rfl, by go_num, by rw [HSk.out]; exact HS2.out, HKm2.out⟩
          | true =>
            have HTk := Lib.hid (row_yes (p := cfB) (cs := cs) (i := i) (k := k) (by omega) HOo.out)
            obtain ⟨xs, hxs⟩ : ∃ xs, allP cfB cs i ++ rowP cfB cs i k = xs := ⟨_, rfl⟩
            have HXS := Lib.hid hxs
            rw [hxs] at HS2
            have hml : xs.length ≤ 111 := by
              rw [← hxs, List.length_append]
              have := row_len cfB cs i k
              omega
            obtain ⟨mm, hm⟩ : ∃ mm, xs.length = mm := ⟨_, rfl⟩
            rw [hm] at hml
            have HM := Lib.hid hm
            clear hm hxs hlA'
            have HG0 := Lib.hid (show A3.G3 w 59 2 w2 u6 mm (PrK.cells xs) from ⟨HS2.out.b, by have h := HS2.out.own; unfold PrK.Own at h; rw [HM.out] at h; exact h⟩)
            clear HS2
            go_upto_region 11 with (fail)
            refine wp_region_noPanic ?_
            refine wp_region_held_drew (S := (fun Wx : World => Wx.cell? ⟨b1, off + i * 2, none⟩ = some (.int .i64 u) ∧ Wx.cell? ⟨b1, off + k * 2, none⟩ = some (.int .i64 v))) (by kernel_rfl) (HF.out w2.drew HG0.out.b.drew) (fun hHeld => ?_)
            refine wpAnyH_take (i := 0) (oi := _) (v := ?_) rfl (by kernel_rfl) (by kernel_rfl) (by kernel_rfl) (fun _ _ _ h => h) (Or.inl ⟨by rfl, ?_⟩) (by assumption) ?_; rotate_left; focus (intro W hSw; (try dsimp only at hSw); go_simp; (first | done | with_reducible rfl))
            (try simp only [List.getElem_toArray, List.getElem_cons_succ, List.getElem_cons_zero, Act.put, List.setIfInBounds_toArray, List.set_cons_zero, List.set_cons_succ])
            refine wpAnyH_take (i := 1) (oi := _) (v := ?_) rfl (by kernel_rfl) (by kernel_rfl) (by kernel_rfl) (fun _ _ _ h => h) (Or.inl ⟨by rfl, ?_⟩) (by assumption) ?_; rotate_left; focus (intro W hSw; (try dsimp only at hSw); go_simp; (first | done | with_reducible rfl))
            (try simp only [List.getElem_toArray, List.getElem_cons_succ, List.getElem_cons_zero, Act.put, List.setIfInBounds_toArray, List.set_cons_zero, List.set_cons_succ])
            refine wpAnyH_take (i := 2) (oi := _) (v := ?_) rfl (by kernel_rfl) (by kernel_rfl) (by kernel_rfl) (fun _ _ _ h => h) (Or.inl ⟨by rfl, ?_⟩) (by assumption) ?_; rotate_left; focus (intro W hSw; (try dsimp only at hSw); go_simp; (first | done | with_reducible rfl))
            (try simp only [List.getElem_toArray, List.getElem_cons_succ, List.getElem_cons_zero, Act.put, List.setIfInBounds_toArray, List.set_cons_zero, List.set_cons_succ])
            refine wpAnyH_take (i := 3) (oi := _) (v := ?_) rfl (by kernel_rfl) (by kernel_rfl) (by kernel_rfl) (fun _ _ _ h => h) (Or.inl ⟨by rfl, ?_⟩) (by assumption) ?_; rotate_left; focus (intro W hSw; (try dsimp only at hSw); go_simp; (first | done | with_reducible rfl))
            (try simp only [List.getElem_toArray, List.getElem_cons_succ, List.getElem_cons_zero, Act.put, List.setIfInBounds_toArray, List.set_cons_zero, List.set_cons_succ])
            refine wpAnyH_take (i := 4) (oi := _) (v := ?_) rfl (by kernel_rfl) (by kernel_rfl) (by kernel_rfl) (fun _ _ _ h => h) (Or.inl ⟨by rfl, ?_⟩) (by assumption) ?_; rotate_left; focus (intro W hSw; (try dsimp only at hSw); go_simp; (first | done | with_reducible rfl))
            (try simp only [List.getElem_toArray, List.getElem_cons_succ, List.getElem_cons_zero, Act.put, List.setIfInBounds_toArray, List.set_cons_zero, List.set_cons_succ])
            refine wpAnyH_take (i := 5) (oi := _) (v := ?_) rfl (by kernel_rfl) (by kernel_rfl) (by kernel_rfl) (fun _ _ _ h => h) (Or.inl ⟨by rfl, ?_⟩) (by assumption) ?_; rotate_left; focus (intro W hSw; (try dsimp only at hSw); go_simp; (first | done | with_reducible rfl))
            (try simp only [List.getElem_toArray, List.getElem_cons_succ, List.getElem_cons_zero, Act.put, List.setIfInBounds_toArray, List.set_cons_zero, List.set_cons_succ])
            refine wpAnyH_take (i := 6) (oi := _) (v := ?_) rfl (by kernel_rfl) (by kernel_rfl) (by kernel_rfl) (fun _ _ _ h => h) (Or.inl ⟨by rfl, ?_⟩) (by assumption) ?_; rotate_left; focus (intro W hSw; (try dsimp only at hSw); go_simp; (first | done | with_reducible rfl))
            (try simp only [List.getElem_toArray, List.getElem_cons_succ, List.getElem_cons_zero, Act.put, List.setIfInBounds_toArray, List.set_cons_zero, List.set_cons_succ])
            refine wpAnyH_take (i := 7) (oi := _) (v := ?_) rfl (by kernel_rfl) (by kernel_rfl) (by kernel_rfl) (fun _ _ _ h => h) (Or.inl ⟨by rfl, ?_⟩) (by assumption) ?_; rotate_left; focus (intro W hSw; (try dsimp only at hSw); go_simp; (first | done | with_reducible rfl))
            (try simp only [List.getElem_toArray, List.getElem_cons_succ, List.getElem_cons_zero, Act.put, List.setIfInBounds_toArray, List.set_cons_zero, List.set_cons_succ])
            refine wpAnyH_take (i := 8) (oi := _) (v := ?_) rfl (by kernel_rfl) (by kernel_rfl) (by kernel_rfl) (fun _ _ _ h => h) (Or.inl ⟨by rfl, ?_⟩) (by assumption) ?_; rotate_left; focus (intro W hSw; (try dsimp only at hSw); go_simp; (first | done | with_reducible rfl))
            (try simp only [List.getElem_toArray, List.getElem_cons_succ, List.getElem_cons_zero, Act.put, List.setIfInBounds_toArray, List.set_cons_zero, List.set_cons_succ])
            refine wpAnyH_take (i := 9) (oi := _) (v := ?_) rfl (by kernel_rfl) (by kernel_rfl) (by kernel_rfl) (fun _ _ _ h => h) (Or.inl ⟨by rfl, ?_⟩) (by assumption) ?_; rotate_left; focus (intro W hSw; (try dsimp only at hSw); go_simp; (first | done | with_reducible rfl))
            (try simp only [List.getElem_toArray, List.getElem_cons_succ, List.getElem_cons_zero, Act.put, List.setIfInBounds_toArray, List.set_cons_zero, List.set_cons_succ])
            refine wpAnyH_take (i := 10) (oi := _) (v := ?_) rfl (by kernel_rfl) (by kernel_rfl) (by kernel_rfl) (fun _ _ _ h => h) (Or.inl ⟨by rfl, ?_⟩) (by assumption) ?_; rotate_left; focus (intro W hSw; (try dsimp only at hSw); go_simp; (first | done | with_reducible rfl))
            (try simp only [List.getElem_toArray, List.getElem_cons_succ, List.getElem_cons_zero, Act.put, List.setIfInBounds_toArray, List.set_cons_zero, List.set_cons_succ])
            refine wpAnyH_take (i := 11) (oi := _) (v := ?_) rfl (by kernel_rfl) (by kernel_rfl) (by kernel_rfl) (fun _ _ _ h => h) (Or.inl ⟨by rfl, ?_⟩) (by assumption) ?_; rotate_left; focus (intro W hSw; (try dsimp only at hSw); go_simp; (first | done | with_reducible rfl))
            (try simp only [List.getElem_toArray, List.getElem_cons_succ, List.getElem_cons_zero, Act.put, List.setIfInBounds_toArray, List.set_cons_zero, List.set_cons_succ])
            refine wpAnyH_ready (rs := [12]) (by kernel_rfl) (by simp) ?_
            refine AllReadyH.cons (o := _) rfl (fun K hK => ?_) AllReadyH.nil
            go_simp
            have HGd := Lib.hid (HG0.out.drew)
            have HX := Lib.hid (Blk.new w2.drew 59 #[.int .i64 u, .int .i64 v])
            have HGa := Lib.hid (HGd.out.alloc (.cells #[.int .i64 u, .int .i64 v] 59))
            have HKa := Lib.hid ((show Blk w2.drew w.heap.size 26 #[.int .i64 m.W, .int .i64 m.H, .slice a m.R.length ca, .slice b m.C.length cb] from HKm2.out).alloc (.cells #[.int .i64 u, .int .i64 v] 59))
            refine hK.out _ _ (HF.out _ HGa.out.b) (fun _ => ?_)
            clear hK K hHeld
            refine wpAnyH_ready (rs := [13]) (by kernel_rfl) (by simp) ?_
            refine AllReadyH.cons (o := _) rfl (fun K hK => ?_) AllReadyH.nil
            rw [if_pos (by rfl)]
            refine HGa.out.wp (.tmp 40) (.tmp 52) 53 rfl Try.underlying53 t0 hi0 (.agg #[.int .i64 (PrK.no).a, .int .i64 (PrK.no).b]) hz0 16 hz1 hz2 rfl (by decide) (by rfl) ⟨_, 0, none⟩ 1 1 [.int .i64 u, .int .i64 v] (by (try simp only [Act.eval, Act.put]); rfl) rfl (A3.blk_news HX.out) (by simp [Value.oneCell']) (by unfold maxLen; omega) (by omega) ?_
            intro v3 w3 hg hgr
            have HG3 := Lib.hid hg
            have HK3 := Lib.hid (show Blk w3 w.heap.size 26 #[.int .i64 m.W, .int .i64 m.H, .slice a m.R.length ca, .slice b m.C.length cb] from (hgr.block _ HKa.out.lt (fun e => PrK_ne HGa.out.own HKa.out e.symm)).trans HKa.out)
            clear hg hgr
            (try simp only [Act.put, List.setIfInBounds_toArray, List.set_cons_zero, List.set_cons_succ])
            refine hK.out _ _ (HF.out _ HG3.out.b) (fun _ => ?_)
            clear hK K
            refine wpAnyH_take (i := 14) (oi := _) (v := ?_) rfl (by kernel_rfl) (by kernel_rfl) (by kernel_rfl) (fun _ _ _ h => h) (Or.inl ⟨by rfl, ?_⟩) (by assumption) ?_; rotate_left; focus (intro W hSw; (try dsimp only at hSw); go_simp; (first | done | with_reducible rfl))
            (try simp only [List.getElem_toArray, List.getElem_cons_succ, List.getElem_cons_zero, Act.put, List.setIfInBounds_toArray, List.set_cons_zero, List.set_cons_succ])
            refine wpAnyH_done (by kernel_rfl) ?_ _
            refine NoPanic.normal ?_
            (try simp only [List.getElem_toArray, List.getElem_cons_succ, List.getElem_cons_zero, Act.put, List.setIfInBounds_toArray, List.set_cons_zero, List.set_cons_succ])
            have HP3 := Lib.hid (show Gr w v3 (xs ++ [⟨u, v⟩]) w3 from ⟨HG3.out.b, by unfold PrK.Own; rw [PrK.cells_app, List.length_append, HM.out]; exact HG3.out.own⟩)
            go_wp2_with fail
            go_roundg (n - (k + 1))
            case measure => omega
            case rel => exact ⟨k + 1, by omega, by omega, rfl, by go_num, by rw [HTk.out, ← List.append_assoc, HXS.out, HU.out, HV.out]; exact HP3.out, HK3.out⟩
        · obtain rfl : k = n := by omega
          have HE := Lib.hid (show Gr w u6 (allP cfB cs (i + 1)) wr from by
            have h := HS.out
            rw [allP, HN.out]
            exact h)
          go_wp2
          go_roundg (k - (i + 1))
          case measure => omega
          case rel => exact ⟨i + 1, by omega, rfl, by go_num, HE.out, HKm.out⟩
    · obtain rfl : i = n := by omega
      have HE := Lib.hid (show PrK.Own wr w.heap.size u6 zs from by have h := HS.out.own; rw [HZ2.out] at h; exact h)
      go_wp2
      go_ret2
      exact ⟨_, rfl, HE.out, HS.out.b⟩

/-- CloseControls: both. -/
theorem close (m : Mp) (hR : m.R.length ≤ maxLen) (hC : m.C.length ≤ maxLen) (cs : List Ct) (hf : ∀ i, i < cs.length → Is (at_ cs i)) (hl : cs.length ≤ 1048576) (D : Int) (hD : (Lit.int IntKind.i64 D).wf = true) : ∃ (zs : List Pr) (ok : Bool), zs.length ≤ 1048576 ∧
    (∀ a b ca cb ad cap w, IRow w a m.R → IRow w b m.C → cs.length ≤ cap → Row w ad cs → Calls Try.prog 55 #[.agg #[.int .i64 m.W, .int .i64 m.H, .slice a m.R.length ca, .slice b m.C.length cb], .slice ad cs.length cap, .int .i64 D] w fun e w' => ∃ v, e = .returned (.tuple #[v, .bool ok]) ∧ PrK.Own w' w.heap.size v zs ∧ Below w.heap.size w w') ∧
    (∀ a b ca cb ad cap w, IRow w a m.R → IRow w b m.C → cs.length ≤ cap → Row w ad cs → Calls Try.prog 54 #[.agg #[.int .i64 m.W, .int .i64 m.H, .slice a m.R.length ca, .slice b m.C.length cb], .slice ad cs.length cap, .int .i64 D] w fun e w' => ∃ v, e = .returned (.tuple #[v, .bool ok]) ∧ PrK.Own w' w.heap.size v zs ∧ Below w.heap.size w w') :=
  ⟨_, _, Nat.le_trans (cl_len m cs D) (by omega), fun a b ca cb ad cap w h1 h2 _ h3 => cl_spec m cs hl hR hC D a b ca cb ad cap w ⟨h1, h2, h3⟩, fun a b ca cb ad cap w h1 h2 hc h3 => cl_impl m cs hl hR hC D a b ca cb ad cap w hc ⟨h1, h2, h3⟩⟩
/-- ConfusableCodes: both. -/
theorem conf (m : Mp) (hR : m.R.length ≤ maxLen) (hC : m.C.length ≤ maxLen) (cs : List Ct) (hf : ∀ i, i < cs.length → Is (at_ cs i)) (hl : cs.length ≤ 1048576) : ∃ (zs : List Pr) (ok : Bool), zs.length ≤ 1048576 ∧
    (∀ a b ca cb ad cap w, IRow w a m.R → IRow w b m.C → cs.length ≤ cap → Row w ad cs → Calls Try.prog 51 #[.agg #[.int .i64 m.W, .int .i64 m.H, .slice a m.R.length ca, .slice b m.C.length cb], .slice ad cs.length cap] w fun e w' => ∃ v, e = .returned (.tuple #[v, .bool ok]) ∧ PrK.Own w' w.heap.size v zs ∧ Below w.heap.size w w') ∧
    (∀ a b ca cb ad cap w, IRow w a m.R → IRow w b m.C → cs.length ≤ cap → Row w ad cs → Calls Try.prog 50 #[.agg #[.int .i64 m.W, .int .i64 m.H, .slice a m.R.length ca, .slice b m.C.length cb], .slice ad cs.length cap] w fun e w' => ∃ v, e = .returned (.tuple #[v, .bool ok]) ∧ PrK.Own w' w.heap.size v zs ∧ Below w.heap.size w w') :=
  ⟨_, _, Nat.le_trans (cf_len m cs) (by omega), fun a b ca cb ad cap w h1 h2 _ h3 => cf_spec m cs hl hR hC a b ca cb ad cap w ⟨h1, h2, h3⟩, fun a b ca cb ad cap w h1 h2 hc h3 => cf_impl m cs hl hR hC a b ca cb ad cap w hc ⟨h1, h2, h3⟩⟩

end Go.Proofs.Ytfpfnnindlfgfaa.CoQ
