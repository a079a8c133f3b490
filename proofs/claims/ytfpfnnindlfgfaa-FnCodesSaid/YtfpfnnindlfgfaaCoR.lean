/- RecodeControl: what it answers; the program's text. -/
import Derived.Test.YtfpfnnindlfgfaaCoC
import Derived.Test.YtfpfnnindlfgfaaCoB
import Derived.Test.YtfpfnnindlfgfaaA3
import Derived.Deep.LoopGhost
import Derived.Deep.CutRange
import Derived.Deep.DeepCutAuto
import Derived.Deep.RegionHeld3
namespace Go.Proofs.Ytfpfnnindlfgfaa.CoR
open Go.RowKit Lb IntS CtK CoM CoP CoF CoC CoB
open Bk (Blk)
set_option linter.unusedSimpArgs false
set_option linter.unusedVariables false

def LPost (w : World) (ss : List Ct) (ok : Bool) (e : Ending) (w' : World) : Prop := ∃ v, e = .returned (.tuple #[v, .bool ok]) ∧ Own w' w.heap.size v ss ∧ Below w.heap.size w w'
/-- All but one. -/
def rsT (cs : List Ct) (k : Nat) : List Ct := cs.take k ++ cs.drop (k + 1)
theorem rs_len {cs : List Ct} {k n : Nat} (hn : cs.length = n) (hk : k < n) : (rsT cs k).length = n - 1 := by
  unfold rsT
  rw [List.length_append, List.length_take, List.length_drop]
  omega
theorem rs_at {cs : List Ct} {k : Nat} (hk : k < cs.length) (i : Nat) : at_ (rsT cs k) i = if i < k then at_ cs i else at_ cs (i + 1) := by
  unfold rsT at_
  rw [List.getD_eq_getElem?_getD]
  split
  · rename_i h
    rw [List.getElem?_append_left (by rw [List.length_take]; omega), List.getElem?_take_of_lt h, List.getD_eq_getElem?_getD]
  · rename_i h
    rw [List.getElem?_append_right (by rw [List.length_take]; omega), List.length_take, List.getElem?_drop, List.getD_eq_getElem?_getD, show k + 1 + (i - min k cs.length) = i + 1 by omega]
theorem rs_asc {cs : List Ct} {k : Nat} (h : Asc cs) (hk : k < cs.length) : Asc (rsT cs k) := fun i hi => by
  rw [rs_len rfl hk] at hi
  rw [rs_at hk, rs_at hk]
  split
  · split
    · exact h.lt (Nat.lt_succ_self _) (by omega)
    · exact h.lt (by omega) (by omega)
  · split
    · omega
    · exact h.lt (Nat.lt_succ_self _) (by omega)
/-- The list in which the one with a code gets another one. -/
def rcS (cs : List Ct) (x tz : Int) : List Ct := insR (rsT cs (fiZ cs x).toNat) ⟨tz, (at_ cs (fiZ cs x).toNat).ce⟩
def rcO (m : Mp) (cs : List Ct) (x tz : Int) : Bool := goodB m cs && (decide (0 ≤ fiZ cs x) && goodB m (rcS cs x tz))
def rcL (m : Mp) (cs : List Ct) (x tz : Int) : List Ct := if rcO m cs x tz then rcS cs x tz else []
theorem rc_at {cs : List Ct} {x : Int} {y : Ct} {k : Nat} (h : fiZ cs x = (k : Int)) (he : y.ce = (at_ cs k).ce) : rcS cs x y.co = insR (rsT cs k) y := by unfold rcS; rw [h, show ((k : Int)).toNat = k from rfl, ← he]
theorem rc_len (m : Mp) (cs : List Ct) (x tz : Int) : (rcL m cs x tz).length ≤ 10 := by
  unfold rcL
  split
  · rename_i h
    unfold rcO at h
    rw [Bool.and_eq_true, Bool.and_eq_true] at h
    exact good_len h.2.2
  · exact Nat.zero_le _
theorem blk_ne {w : World} {base n : Nat} {v : Value} {xs : List Value} {A : Nat} {cs : Array Value} (h : w.ownsRow base 58 2 v n xs) (hb : Blk w A 26 cs) : v.ownBlock ≠ some A := by
  intro e
  rcases h.2 with ⟨rfl, _⟩ | ⟨g, cap, cur, rfl, _, hg, _⟩
  · cases e
  · have h1 : g = A := by simpa [Value.ownBlock] using e
    subst h1
    unfold Blk at hb
    rw [hg] at hb
    simp at hb
theorem own_two {W wF : World} {v : Value} {rs qs : List Ct} {base k m : Nat} (h : A3.G3 W 58 2 wF v (k + m) (cells rs ++ cells qs)) (hb : base ≤ W.heap.size) (hk : rs.length = k) (hm : qs.length = m) : Own wF base v (rs ++ qs) := by
  have h2 : Own wF W.heap.size v (rs ++ qs) := Own.cat hk hm h.own
  exact h2.rebase hb

set_option maxRecDepth 20000 in
set_option maxHeartbeats 4000000 in
theorem recode_impl (m : Mp) (cs : List Ct) (hl : cs.length ≤ 1048576) (hR : m.R.length ≤ maxLen) (hC : m.C.length ≤ maxLen) (x tz : Int) (a b : Option Addr) (ca cb : Nat) (ad : Option Addr) (cap : Nat) (w : World) (hcap : cs.length ≤ cap) (h : Rd m cs a b ad w) :
    Calls Try.prog 41 #[.agg #[.int .i64 m.W, .int .i64 m.H, .slice a m.R.length ca, .slice b m.C.length cb], .slice ad cs.length cap, .int .i64 x, .int .i64 tz] w (LPost w (rcL m cs x tz) (rcO m cs x tz)) := by
  obtain ⟨t0, hi0, hz0, hz1, hz2⟩ := info_parts info
  have HB := Lib.hid ((Below.refl w.heap.size w).alloc (Nat.le_refl _) (.cells #[.int .i64 m.W, .int .i64 m.H, .slice a m.R.length ca, .slice b m.C.length cb] 26))
  have HK := Lib.hid (Blk.new w 26 #[.int .i64 m.W, .int .i64 m.H, .slice a m.R.length ca, .slice b m.C.length cb])
  have HR := Lib.hid h
  obtain ⟨g, hg⟩ : ∃ g, goodB m cs = g := ⟨_, rfl⟩
  have c1 := Lib.hid (fun w h => hg ▸ impl_good m cs hl hR hC a b ca cb ad cap w h)
  have HG := Lib.hid hg
  obtain ⟨ok, hok⟩ : ∃ o, rcO m cs x tz = o := ⟨_, rfl⟩
  obtain ⟨z, hz⟩ : ∃ z, rcL m cs x tz = z := ⟨_, rfl⟩
  have HO := Lib.hid hok
  have HZ := Lib.hid hz
  have HBAD := Lib.hid (fun e : ok = false => show z = [] from by rw [← hz]; unfold rcL; rw [hok, e]; rfl)
  rw [hok, hz]
  clear h hg hok hz
  go_enter Try.func41, Try.ntmps41
  go_wp2_with fail
  refine (c1.out _ (HR.out.later HB.out)).mono ?_
  rintro e w1 ⟨rfl, hb⟩
  have HB1 := Lib.hid (HB.out.trans (hb.mono HB.out.size))
  have HK1 := Lib.hid (HK.out.later hb)
  have hsz1 := HB1.out.size
  clear hb HB HK
  cases g with
  | false =>
    have h1 : ok = false := by rw [← HO.out]; unfold rcO; rw [HG.out]; rfl
    obtain rfl := HBAD.out h1
    subst h1
    go_wp2
    go_ret2
    exact ⟨_, rfl, own_none w1 w.heap.size hsz1, HB1.out.alloc hsz1 _⟩
  | true =>
  obtain ⟨k, hk⟩ := asc_plc (good_asc HG.out) x
  have c2 := Lib.hid (fun w h => place_any cs hl (good_asc HG.out) x k hk ad cap w h)
  have hfi := fi_plc hk
  obtain ⟨f, hf⟩ : ∃ f, fndB cs x k = f := ⟨_, rfl⟩
  rw [hf] at c2 hfi
  have hkn : f = true → k < cs.length ∧ (at_ cs k).co = x := fun e => by rw [e] at hf; exact of_decide_eq_true hf
  have hc10 := good_len HG.out
  have hA := Lib.hid (good_asc HG.out)
  clear hk hf
  go_wp2_with fail
  refine (c2.out _ (HR.out.later HB1.out).l).mono ?_
  rintro e w2 ⟨rfl, hb⟩
  have HB2 := Lib.hid (HB1.out.trans (hb.mono HB1.out.size))
  have HK2 := Lib.hid (HK1.out.later hb)
  have hsz2 := HB2.out.size
  clear hb HB1 HK1
  cases f with
  | false =>
    have h1 : ok = false := by rw [← HO.out]; unfold rcO; rw [hfi.2 rfl hA.out]; simp
    obtain rfl := HBAD.out h1
    subst h1
    clear hfi
    go_wp2
    go_ret2
    exact ⟨_, rfl, own_none w2 w.heap.size hsz2, HB2.out.alloc hsz2 _⟩
  | true =>
  obtain ⟨hkl, hkc⟩ := hkn rfl
  have hfk := hfi.1 rfl
  obtain ⟨y, rfl, hy⟩ : ∃ y : Ct, tz = y.co ∧ y.ce = (at_ cs k).ce := ⟨⟨tz, (at_ cs k).ce⟩, rfl, rfl⟩
  have HS := Lib.hid (show rcS cs x y.co = insR (rsT cs k) y from rc_at hfk hy)
  obtain ⟨b1, off, hadr, k0, k1⟩ := (HR.out.later HB2.out).l.cells hkl
  obtain ⟨b', off', hadr', j0, j1⟩ := HR.out.l.cells hkl
  subst hadr
  cases hadr'
  rw [← hy] at j1
  have HF := Lib.hid (fun (wx : World) (hb : Below w.heap.size w wx) => (hb.cell (World.block_lt_of_cell? _ _ j1)).trans j1)
  obtain ⟨g2, hg2⟩ : ∃ g, goodB m (rcS cs x y.co) = g := ⟨_, rfl⟩
  have HG2 := Lib.hid hg2
  have HO2 := Lib.hid (show ok = g2 from by rw [← HO.out]; unfold rcO; rw [HG.out, hfk, hg2]; simp)
  obtain ⟨n, hn⟩ : ∃ n, cs.length = n := ⟨_, rfl⟩
  have HN := Lib.hid hn
  have c4 := Lib.hid (fun (cp : Nat) w hr => clone_any ⟨b1, off, none⟩ cp (cs.take k) (by rw [List.length_take]; omega) w hr)
  have hkt : (cs.take k).length = k := by rw [List.length_take]; omega
  rw [hkt] at c4
  have HKt := Lib.hid hkt
  obtain ⟨q, hq⟩ : ∃ q, k + 1 = q := ⟨_, rfl⟩
  have hmt : (cs.drop q).length = n - q := by rw [List.length_drop, hn]
  have hTl : (cells (cs.drop q)).length = (n - q) * 2 := by rw [cells_len, hmt]
  have hwq : IntKind.i64.wrap ((k : Int) + 1) = (q : Int) := by rw [IntWalk.i64_in _ (by omega)]; omega
  have HQ := Lib.hid hq
  have HMt := Lib.hid hmt
  have HR2 := Lib.hid (HR.out.later HB2.out)
  have HDr := Lib.hid (fun W' (hW : Below w2.heap.size w2 W') => ((Row.drop HR2.out.l q).later hW).news)
  rw [hn] at hkl hc10 hcap ⊢
  have hqn : q ≤ n := by omega
  clear hfi hkn hfk hg2 hn hkc hy k0 k1 j0 j1 hkt hmt hq
  have hkk0 : (0 : Int) ≤ (k : Int) := by omega
  have hkk1 : (k : Int) < (n : Int) := by omega
  have hkc : k ≤ cap := by omega
  have hkc2 : (k : Int) ≤ (cap : Int) := by omega
  have hnc : (n : Int) ≤ (cap : Int) := by omega
  have hq0 : (0 : Int) ≤ (q : Int) := by omega
  have hq1 : (q : Int) ≤ (n : Int) := by omega
  go_upto_region 6 with (fail)
  go_cut [12] from 30 to 39 (fun s wx => Own wx (w.heap.size + 1) s (rsT cs k) ∧ Below w.heap.size w wx ∧ Blk wx w.heap.size 26 #[.int .i64 m.W, .int .i64 m.H, .slice a m.R.length ca, .slice b m.C.length cb])
  case first =>
    have hszw := HK2.out.lt
    by_cases hce : cap = q
    · subst hce
      obtain rfl : n = cap := by omega
      have hkc9 : (k : Int) ≤ (n : Int) := by omega
      refine wp_region_noPanic ?_
      refine wp_region_held_drew (S := (fun _ : World => True)) (by kernel_rfl) trivial (fun hHeld => ?_)
      refine wpAnyH_take (i := 0) (oi := _) (v := ?_) rfl (by kernel_rfl) (by kernel_rfl) (by kernel_rfl) (fun _ _ _ h => h) (Or.inl ⟨by rfl, ?_⟩) (by assumption) ?_; rotate_left; focus (intro W hSw; (try dsimp only at hSw); go_simp; (first | done | with_reducible rfl))
      (try simp only [List.getElem_toArray, List.getElem_cons_succ, List.getElem_cons_zero, Act.put, List.setIfInBounds_toArray, List.set_cons_zero, List.set_cons_succ])
      refine wpAnyH_take (i := 1) (oi := _) (v := ?_) rfl (by kernel_rfl) (by kernel_rfl) (by kernel_rfl) (fun _ _ _ h => h) (Or.inl ⟨by rfl, ?_⟩) (by assumption) ?_; rotate_left; focus (intro W hSw; (try dsimp only at hSw); go_simp; (first | done | with_reducible rfl))
      (try simp only [List.getElem_toArray, List.getElem_cons_succ, List.getElem_cons_zero, Act.put, List.setIfInBounds_toArray, List.set_cons_zero, List.set_cons_succ])
      refine wpAnyH_take (i := 2) (oi := _) (v := ?_) rfl (by kernel_rfl) (by kernel_rfl) (by kernel_rfl) (fun _ _ _ h => h) (Or.inl ⟨by rfl, ?_⟩) (by assumption) ?_; rotate_left; focus (intro W hSw; (try dsimp only at hSw); go_simp; (first | done | with_reducible rfl))
      (try simp only [List.getElem_toArray, List.getElem_cons_succ, List.getElem_cons_zero, Act.put, List.setIfInBounds_toArray, List.set_cons_zero, List.set_cons_succ])
      refine wpAnyH_take (i := 4) (oi := _) (v := ?_) rfl (by kernel_rfl) (by kernel_rfl) (by kernel_rfl) (fun _ _ _ h => h) (Or.inl ⟨by rfl, ?_⟩) (by assumption) ?_; rotate_left; focus (intro W hSw; (try dsimp only at hSw); go_simp; (first | done | with_reducible rfl))
      (try simp only [List.getElem_toArray, List.getElem_cons_succ, List.getElem_cons_zero, Act.put, List.setIfInBounds_toArray, List.set_cons_zero, List.set_cons_succ])
      refine wpAnyH_take (i := 5) (oi := _) (v := ?_) rfl (by kernel_rfl) (by kernel_rfl) (by kernel_rfl) (fun _ _ _ h => h) (Or.inl ⟨by rfl, ?_⟩) (by assumption) ?_; rotate_left; focus (intro W hSw; (try dsimp only at hSw); go_simp; (first | done | with_reducible rfl))
      (try simp only [List.getElem_toArray, List.getElem_cons_succ, List.getElem_cons_zero, Act.put, List.setIfInBounds_toArray, List.set_cons_zero, List.set_cons_succ])
      refine wpAnyH_take (i := 6) (oi := _) (v := ?_) rfl (by kernel_rfl) (by kernel_rfl) (by kernel_rfl) (fun _ _ _ h => h) (Or.inl ⟨by rfl, ?_⟩) (by assumption) ?_; rotate_left; focus (intro W hSw; (try dsimp only at hSw); go_simp; (first | done | with_reducible rfl))
      (try simp only [List.getElem_toArray, List.getElem_cons_succ, List.getElem_cons_zero, Act.put, List.setIfInBounds_toArray, List.set_cons_zero, List.set_cons_succ])
      refine wpAnyH_take (i := 7) (oi := _) (v := ?_) rfl (by kernel_rfl) (by kernel_rfl) (by kernel_rfl) (fun _ _ _ h => h) (Or.inl ⟨by rfl, ?_⟩) (by assumption) ?_; rotate_left; focus (intro W hSw; (try dsimp only at hSw); go_simp; (first | done | with_reducible rfl))
      (try simp only [List.getElem_toArray, List.getElem_cons_succ, List.getElem_cons_zero, Act.put, List.setIfInBounds_toArray, List.set_cons_zero, List.set_cons_succ])
      refine wpAnyH_ready (rs := [3]) (by kernel_rfl) (by simp) ?_
      refine AllReadyH.cons (o := _) rfl (fun K hK => ?_) AllReadyH.nil
      go_simp
      go_at_call 96
      refine (c4.out _ _ (Row.drew (HR2.out.l.take k))).mono ?_
      rintro e w3 ⟨v3, rfl, ho, hb⟩
      have HG3 := Lib.hid (show A3.G3 w2 58 2 w3 v3 k (cells (cs.take k)) from ⟨(Below.refl _ _).drew.trans hb, by have h := ho; unfold Own at h; rw [HKt.out] at h; exact h⟩)
      clear ho hb
      go_wp2_with fail
      refine hK.out _ _ trivial (fun _ => ?_)
      clear hK K hHeld
      refine wpAnyH_ready (rs := [8]) (by kernel_rfl) (by simp) ?_
      refine AllReadyH.cons (o := _) rfl (fun K hK => ?_) AllReadyH.nil
      rw [if_pos (by rfl)]
      refine HG3.out.wp (.tmp 33) (.tmp 37) 40 rfl Try.underlying40 t0 hi0 (.agg #[.int .i64 no.co, .int .i64 no.ce]) hz0 16 hz1 hz2 rfl (by decide) (by rfl) (_) (0) (_) ([]) (by (try simp only [Act.eval, Act.put]); rfl) (rfl) (fun j u h => absurd h (by simp)) (by simp) (by unfold maxLen; omega) (by omega) ?_
      intro v5 w5 hg hgr
      have HG5 := Lib.hid hg
      have HGR5 := Lib.hid hgr
      clear hg hgr
      (try simp only [Act.put, List.setIfInBounds_toArray, List.set_cons_zero, List.set_cons_succ])
      refine hK.out _ _ trivial (fun _ => ?_)
      clear hK K
      refine wpAnyH_take (i := 9) (oi := _) (v := ?_) rfl (by kernel_rfl) (by kernel_rfl) (by kernel_rfl) (fun _ _ _ h => h) (Or.inl ⟨by rfl, ?_⟩) (by assumption) ?_; rotate_left; focus (intro W hSw; (try dsimp only at hSw); go_simp; (first | done | with_reducible rfl))
      (try simp only [List.getElem_toArray, List.getElem_cons_succ, List.getElem_cons_zero, Act.put, List.setIfInBounds_toArray, List.set_cons_zero, List.set_cons_succ])
      refine wpAnyH_done (by kernel_rfl) ?_ _
      refine NoPanic.normal ?_
      (try simp only [List.getElem_toArray, List.getElem_cons_succ, List.getElem_cons_zero, Act.put, List.setIfInBounds_toArray, List.set_cons_zero, List.set_cons_succ])
      go_wp2
      go_meet
      have hO5 : Own w5 w2.heap.size v5 (rsT cs k) := by
        have e : cs.drop (k + 1) = [] := List.drop_eq_nil_of_le (by rw [HN.out, HQ.out]; omega)
        have h := own_two (qs := []) (base := w2.heap.size) HG5.out (Nat.le_refl _) HKt.out rfl
        unfold rsT
        rw [e]
        exact h
      exact ⟨hO5.rebase hszw, HB2.out.trans (HG5.out.b.mono HB2.out.size), HK2.out.later HG5.out.b⟩
    · have hce' : ¬ cap = q := hce
      refine wp_region_noPanic ?_
      refine wp_region_held_drew (S := (fun _ : World => True)) (by kernel_rfl) trivial (fun hHeld => ?_)
      refine wpAnyH_take (i := 0) (oi := _) (v := ?_) rfl (by kernel_rfl) (by kernel_rfl) (by kernel_rfl) (fun _ _ _ h => h) (Or.inl ⟨by rfl, ?_⟩) (by assumption) ?_; rotate_left; focus (intro W hSw; (try dsimp only at hSw); go_simp; (first | done | with_reducible rfl))
      (try simp only [List.getElem_toArray, List.getElem_cons_succ, List.getElem_cons_zero, Act.put, List.setIfInBounds_toArray, List.set_cons_zero, List.set_cons_succ])
      refine wpAnyH_take (i := 1) (oi := _) (v := ?_) rfl (by kernel_rfl) (by kernel_rfl) (by kernel_rfl) (fun _ _ _ h => h) (Or.inl ⟨by rfl, ?_⟩) (by assumption) ?_; rotate_left; focus (intro W hSw; (try dsimp only at hSw); go_simp; (first | done | with_reducible rfl))
      (try simp only [List.getElem_toArray, List.getElem_cons_succ, List.getElem_cons_zero, Act.put, List.setIfInBounds_toArray, List.set_cons_zero, List.set_cons_succ])
      refine wpAnyH_take (i := 2) (oi := _) (v := ?_) rfl (by kernel_rfl) (by kernel_rfl) (by kernel_rfl) (fun _ _ _ h => h) (Or.inl ⟨by rfl, ?_⟩) (by assumption) ?_; rotate_left; focus (intro W hSw; (try dsimp only at hSw); go_simp; (first | done | with_reducible rfl))
      (try simp only [List.getElem_toArray, List.getElem_cons_succ, List.getElem_cons_zero, Act.put, List.setIfInBounds_toArray, List.set_cons_zero, List.set_cons_succ])
      refine wpAnyH_take (i := 4) (oi := _) (v := ?_) rfl (by kernel_rfl) (by kernel_rfl) (by kernel_rfl) (fun _ _ _ h => h) (Or.inl ⟨by rfl, ?_⟩) (by assumption) ?_; rotate_left; focus (intro W hSw; (try dsimp only at hSw); go_simp; (first | done | with_reducible rfl))
      (try simp only [List.getElem_toArray, List.getElem_cons_succ, List.getElem_cons_zero, Act.put, List.setIfInBounds_toArray, List.set_cons_zero, List.set_cons_succ])
      refine wpAnyH_take (i := 5) (oi := _) (v := ?_) rfl (by kernel_rfl) (by kernel_rfl) (by kernel_rfl) (fun _ _ _ h => h) (Or.inl ⟨by rfl, ?_⟩) (by assumption) ?_; rotate_left; focus (intro W hSw; (try dsimp only at hSw); go_simp; (first | done | with_reducible rfl))
      (try simp only [List.getElem_toArray, List.getElem_cons_succ, List.getElem_cons_zero, Act.put, List.setIfInBounds_toArray, List.set_cons_zero, List.set_cons_succ])
      refine wpAnyH_take (i := 6) (oi := _) (v := ?_) rfl (by kernel_rfl) (by kernel_rfl) (by kernel_rfl) (fun _ _ _ h => h) (Or.inl ⟨by rfl, ?_⟩) (by assumption) ?_; rotate_left; focus (intro W hSw; (try dsimp only at hSw); go_simp; (first | done | with_reducible rfl))
      (try simp only [List.getElem_toArray, List.getElem_cons_succ, List.getElem_cons_zero, Act.put, List.setIfInBounds_toArray, List.set_cons_zero, List.set_cons_succ])
      refine wpAnyH_take (i := 7) (oi := _) (v := ?_) rfl (by kernel_rfl) (by kernel_rfl) (by kernel_rfl) (fun _ _ _ h => h) (Or.inl ⟨by rfl, ?_⟩) (by assumption) ?_; rotate_left; focus (intro W hSw; (try dsimp only at hSw); go_simp; (first | done | with_reducible rfl))
      (try simp only [List.getElem_toArray, List.getElem_cons_succ, List.getElem_cons_zero, Act.put, List.setIfInBounds_toArray, List.set_cons_zero, List.set_cons_succ])
      refine wpAnyH_ready (rs := [3]) (by kernel_rfl) (by simp) ?_
      refine AllReadyH.cons (o := _) rfl (fun K hK => ?_) AllReadyH.nil
      go_simp
      go_at_call 96
      refine (c4.out _ _ (Row.drew (HR2.out.l.take k))).mono ?_
      rintro e w3 ⟨v3, rfl, ho, hb⟩
      have HG3 := Lib.hid (show A3.G3 w2 58 2 w3 v3 k (cells (cs.take k)) from ⟨(Below.refl _ _).drew.trans hb, by have h := ho; unfold Own at h; rw [HKt.out] at h; exact h⟩)
      clear ho hb
      go_wp2_with fail
      refine hK.out _ _ trivial (fun _ => ?_)
      clear hK K hHeld
      refine wpAnyH_ready (rs := [8]) (by kernel_rfl) (by simp) ?_
      refine AllReadyH.cons (o := _) rfl (fun K hK => ?_) AllReadyH.nil
      rw [if_pos (by rfl)]
      refine HG3.out.wp (.tmp 33) (.tmp 37) 40 rfl Try.underlying40 t0 hi0 (.agg #[.int .i64 no.co, .int .i64 no.ce]) hz0 16 hz1 hz2 rfl (by decide) (by rfl) (⟨b1, off + q * 2, none⟩) (n - q) (_) (cells (cs.drop q)) (by (try simp only [Act.eval, Act.put]); rfl) (hTl) (HDr.out _ HG3.out.b) (cells_one _) (by unfold maxLen; omega) (by omega) ?_
      intro v5 w5 hg hgr
      have HG5 := Lib.hid hg
      have HGR5 := Lib.hid hgr
      clear hg hgr
      (try simp only [Act.put, List.setIfInBounds_toArray, List.set_cons_zero, List.set_cons_succ])
      refine hK.out _ _ trivial (fun _ => ?_)
      clear hK K
      refine wpAnyH_take (i := 9) (oi := _) (v := ?_) rfl (by kernel_rfl) (by kernel_rfl) (by kernel_rfl) (fun _ _ _ h => h) (Or.inl ⟨by rfl, ?_⟩) (by assumption) ?_; rotate_left; focus (intro W hSw; (try dsimp only at hSw); go_simp; (first | done | with_reducible rfl))
      (try simp only [List.getElem_toArray, List.getElem_cons_succ, List.getElem_cons_zero, Act.put, List.setIfInBounds_toArray, List.set_cons_zero, List.set_cons_succ])
      refine wpAnyH_done (by kernel_rfl) ?_ _
      refine NoPanic.normal ?_
      (try simp only [List.getElem_toArray, List.getElem_cons_succ, List.getElem_cons_zero, Act.put, List.setIfInBounds_toArray, List.set_cons_zero, List.set_cons_succ])
      go_wp2
      go_meet
      have hO5 : Own w5 w2.heap.size v5 (rsT cs k) := by unfold rsT; rw [HQ.out]; exact own_two HG5.out (Nat.le_refl _) HKt.out HMt.out
      exact ⟨hO5.rebase hszw, HB2.out.trans (HG5.out.b.mono HB2.out.size), HK2.out.later HG5.out.b⟩
  case rest =>
  obtain ⟨ho3, hB3, hK3⟩ := hcut
  obtain ⟨a3, cp3, rfl, hr3, hlt3⟩ := ho3.slice
  have hrl := rs_len HN.out hkl
  have HO3 := Lib.hid ho3
  have HB3 := Lib.hid hB3
  have HK3 := Lib.hid hK3
  have HRl := Lib.hid hrl
  have hk2l := pl_le (rsT cs k) y.co
  have HP2 := Lib.hid (show Plc (rsT cs k) y.co (pl (rsT cs k) y.co) from plc_pl (rs_asc hA.out (by rw [HN.out]; exact hkl)) y.co)
  obtain ⟨k2, hk2⟩ : ∃ k2, pl (rsT cs k) y.co = k2 := ⟨_, rfl⟩
  rw [hk2] at HP2 hk2l
  have HK2e := Lib.hid hk2
  obtain ⟨f2, hf2⟩ : ∃ f, fndB (rsT cs k) y.co k2 = f := ⟨_, rfl⟩
  have c5 := Lib.hid (fun w h => hf2 ▸ place_any (rsT cs k) (by rw [hrl]; omega) (rs_asc hA.out (by rw [HN.out]; exact hkl)) y.co k2 HP2.out a3 cp3 w h)
  have HR3 := Lib.hid hr3
  rw [hrl] at c5 hk2l ⊢
  clear ho3 hB3 hK3 hr3 hlt3 hrl hk2 hf2 HB2 HK2 HDr
  go_wp2_with fail
  refine (c5.out _ HR3.out).mono ?_
  rintro e w4 ⟨rfl, hb⟩
  have HB4 := Lib.hid (HB3.out.trans (hb.mono HB3.out.size))
  have HK4 := Lib.hid (HK3.out.later hb)
  have HO4 := Lib.hid (HO3.out.below hb)
  clear hb HO3 HB3 HK3
  have j1 := HF.out w4 HB4.out
  have HX := Lib.hid (Blk.new w4 58 #[.int .i64 y.co, .int .i64 y.ce])
  have HB5 := Lib.hid (HB4.out.alloc HB4.out.size (.cells #[.int .i64 y.co, .int .i64 y.ce] 58))
  have HK5 := Lib.hid (HK4.out.alloc (.cells #[.int .i64 y.co, .int .i64 y.ce] 58))
  have HO5 := Lib.hid (HO4.out.below ((Below.refl _ _).alloc (Nat.le_refl _) (.cells #[.int .i64 y.co, .int .i64 y.ce] 58)))
  have HNe := Lib.hid (fun e : (Value.slice a3 (rsT cs k).length cp3).ownBlock = some w4.heap.size => Nat.lt_irrefl _ (own_lt HO4.out e))
  rw [HRl.out] at HO4 HO5 HNe
  have hszb := HK5.out.lt
  go_wp2_with fail
  refine (ins_own (w.heap.size + 1) _ (rsT cs k) k2 (by rw [HRl.out]; exact hk2l) (by rw [HRl.out]; omega) y w4.heap.size _ _ HO5.out hszb HX.out HNe.out).mono ?_
  rintro e w6 ⟨v6, rfl, ho, hgr⟩
  have HB6 := Lib.hid (HB5.out.grown hgr HB5.out.size (fun q e => Nat.le_of_succ_le (own_ge HO5.out e)))
  have HK6 := Lib.hid (blk_grown HK5.out hgr (fun e => by have := own_ge HO5.out e; omega))
  have HO6 := Lib.hid (show Own w6 w.heap.size v6 (rcS cs x y.co) from by
    rw [HS.out]
    unfold insR
    rw [HK2e.out]
    exact ho.rebase (Nat.le_succ _))
  clear ho hgr HB5 HK5 HO5 HO4 HB4 HK4 j1 HX HNe
  obtain ⟨a6, cp6, rfl, hr6, -⟩ := HO6.out.slice
  have hln : (rcS cs x y.co).length = n := by rw [HS.out, ins_len, HRl.out]; omega
  have c7 := Lib.hid (show Calls Try.prog 36 #[.agg #[.int .i64 m.W, .int .i64 m.H, .slice a m.R.length ca, .slice b m.C.length cb], .slice a6 (rcS cs x y.co).length cp6] w6 fun e w' => e = .returned (.bool g2) ∧ Below w6.heap.size w6 w' from by
    have h := impl_good m (rcS cs x y.co) (by rw [hln]; omega) hR hC a b ca cb a6 cp6 w6 ⟨RowAt.below HR.out.r HB6.out, RowAt.below HR.out.c HB6.out, hr6⟩
    rw [HG2.out] at h
    exact h)
  clear hr6 hln
  obtain ⟨p0, p1, p2, p3, -⟩ := MapS.Blk.four HK6.out
  go_wp2_with fail
  refine c7.out.mono ?_
  rintro e w7 ⟨rfl, hb⟩
  have HB7 := Lib.hid (HB6.out.trans (hb.mono HB6.out.size))
  have HP7 := Lib.hid (HO6.out.below hb)
  have hsz7 := HB7.out.size
  clear hb
  cases g2 with
  | false =>
    have h1 : ok = false := HO2.out
    obtain rfl := HBAD.out h1
    subst h1
    go_wp2
    go_ret2
    exact ⟨_, rfl, own_none w7 w.heap.size hsz7, HB7.out.alloc hsz7 _⟩
  | true =>
    have h1 : ok = true := HO2.out
    have h2 : rcS cs x y.co = z := by rw [← HZ.out]; unfold rcL; rw [HO.out, h1]; rfl
    rw [h2] at HP7 ⊢
    subst h1
    clear h2
    go_wp2
    go_ret2
    exact ⟨_, rfl, HP7.out, HB7.out⟩

end Go.Proofs.Ytfpfnnindlfgfaa.CoR
